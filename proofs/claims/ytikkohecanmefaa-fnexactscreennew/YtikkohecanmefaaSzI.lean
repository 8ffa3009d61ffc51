/-
  The program's sized: a screen of that size. Condition: at most six rows, the number of a row that is one of them.
-/
import Derived.Test.YtikkohecanmefaaFit
import Derived.Test.YtikkohecanmefaaJoinT
import Derived.Test.YtikkohecanmefaaScI3
import Derived.Deep.RegionHeld3
import Derived.Deep.RegionWith
import Derived.Deep.Cut
import Derived.Test.YtikkohecanmefaaLgAp
namespace Go.Proofs.Ytikkohecanmefaa.sc
open Go.ChangeShapes Go.WideShapes Go.ChangeAt Go.RowKit
open Go.Proofs.Ytikkohecanmefaa.ss (beqT beqF Row SliceIs infoS)
open Go.Proofs.Ytikkohecanmefaa.ot
open Go.Proofs.Ytikkohecanmefaa.rp (fitB fitted_any fitB_size)
open Go.Proofs.Ytikkohecanmefaa.wi (heap_lt calls_w wp_w)
set_option linter.unusedVariables false
set_option linter.unusedSimpArgs false

/-- the rows of a screen at a size: those that stand there, fitted, and blank ones -/
def szd (l : List ByteArray) (n : Nat) : Nat → List ByteArray
  | 0 => []
  | k + 1 => szd l n k ++ [fitB (l.getD k ⟨#[]⟩) n]
theorem szd_length (l : List ByteArray) (n : Nat) : ∀ k, (szd l n k).length = k
  | 0 => rfl
  | k + 1 => by show (szd l n k ++ [_]).length = _; rw [List.length_append, szd_length l n k]; rfl
/-- a slice from a place on -/
theorem slice_from {w : World} {p : Option Addr} {cap : Nat} {l : List ByteArray} (hv : SliceIs w (.slice p l.length cap) l) (hc : l.length ≤ cap) (k : Nat) (hk : k ≤ l.length) :
    ∃ q c, (∀ W, (Instr.slice 22 (.slice p l.length cap) (some (.int .i64 (k : Int))) none none).run Try.prog W = .ok (.slice q (l.length - k) c) W) ∧ ∀ u, Below w.heap.size w u → SliceIs u (.slice q (l.length - k) c) (l.drop k) := by
  have hz : ∀ W, (Go.sizeOf 9).run Try.prog W = .ok 1 W := fun W => by kernel_rfl
  have he : Try.prog.elem 22 = 9 := by kernel_rfl
  have hd : (l.drop k).length = l.length - k := by rw [List.length_drop]
  refine ⟨if cap = k then p else p.map (·.add (k * 1)), cap - k, fun W => ?_, fun u hu => ?_⟩
  · rw [run_slice_l W 22 _ _ _ (by rw [he]; exact Try.underlying22) .i64 _ (by omega) (by omega), he, hz]
    simp [Result.andThen, sliced]
  · by_cases hkl : k = l.length
    · exact .inl ⟨_, _, by rw [hkl]; simp, by rw [show l.length - k = 0 by omega]⟩
    · rw [if_neg (show ¬ cap = k by omega)]
      rcases hv with ⟨p', cap', rfl, hv'⟩ | ⟨b, off, cap', hb, hv', hR⟩
      · exact absurd (by simpa using hk) hkl
      · simp only [Value.slice.injEq] at hv'
        obtain ⟨rfl, _, rfl⟩ := hv'
        refine .inr ⟨b, off + k, cap - k, Nat.lt_of_lt_of_le hb hu.size, ?_, fun j hj => ?_⟩
        · rw [hd]
          have ea : (⟨b, off, none⟩ : Addr).add (k * 1) = ⟨b, off + k, none⟩ := by unfold Addr.add; split <;> simp_all
          rw [Nat.mul_one] at ea
          simp [ea]
        · rw [hd] at hj
          have := (hR.below hu hb) (k + j) (by omega)
          rw [← Nat.add_assoc] at this
          rw [this, List.getD_eq_getElem?_getD, List.getD_eq_getElem?_getD, List.getElem?_drop]
/-- what is known while a screen is sized -/
structure InZ (w : World) (q : Nat) (v : Value) (row col : Int) (e : ByteArray) (u : World) : Prop where
  bel : Below w.heap.size w u
  res : u.heap[w.heap.size + 1]? = some (.cells #[.slice none 0 0, .int .i64 0, .int .i64 0, .string ⟨#[]⟩] 27 (0, 0))
  row : u.heap[q]? = some (.cells #[v, .int .i64 row, .int .i64 col, .string e] 27 (0, 0))
  far : w.heap.size + 1 < q
/-- the argument's block, and the result's -/
structure InR (w : World) (v : Value) (row col : Int) (e : ByteArray) (u : World) : Prop where
  bel : Below w.heap.size w u
  arg : u.heap[w.heap.size]? = some (.cells #[v, .int .i64 row, .int .i64 col, .string e] 27 (0, 0))
  res : u.heap[w.heap.size + 1]? = some (.cells #[.slice none 0 0, .int .i64 0, .int .i64 0, .string ⟨#[]⟩] 27 (0, 0))
theorem InR.up {w u u' : World} {v : Value} {row col : Int} {e : ByteArray} (h : InR w v row col e u) (hb : Below u.heap.size u u') : InR w v row col e u' := ⟨h.bel.trans (hb.mono h.bel.size), (hb.block _ (heap_lt h.arg)).trans h.arg, (hb.block _ (heap_lt h.res)).trans h.res⟩
theorem InR.alloc {w u : World} {v : Value} {row col : Int} {e : ByteArray} (h : InR w v row col e u) (o : Obj) : InR w v row col e (u.alloc o) := h.up ((Below.refl _ _).alloc (Nat.le_refl _) o)
theorem InR.drew {w u : World} {v : Value} {row col : Int} {e : ByteArray} (h : InR w v row col e u) : InR w v row col e u.drew := h.up ⟨rfl, rfl, rfl, Nat.le_refl _, fun _ _ => rfl⟩
theorem InR.cells {w u : World} {v : Value} {row col : Int} {e : ByteArray} (h : InR w v row col e u) : u.cell? ⟨w.heap.size, 1, none⟩ = some (.int .i64 row) ∧ u.cell? ⟨w.heap.size, 2, none⟩ = some (.int .i64 col) ∧ u.cell? ⟨w.heap.size, 3, none⟩ = some (.string e) := by
  refine ⟨?_, ?_, ?_⟩ <;> simp [World.cell?, h.arg]
theorem InR.new {w : World} {v : Value} {row col : Int} {e : ByteArray} : InR w v row col e ((w.alloc (.cells #[v, .int .i64 row, .int .i64 col, .string e] 27)).alloc (.cells #[.slice none 0 0, .int .i64 0, .int .i64 0, .string ⟨#[]⟩] 27)) := by
  refine ⟨((Below.refl _ _).alloc (Nat.le_refl _) _).alloc (by simp) _, (Below.heap_alloc _ _ _ (by simp)).trans (heap_alloc_new _ _), ?_⟩
  simpa using heap_alloc_new (w.alloc (.cells #[v, .int .i64 row, .int .i64 col, .string e] 27)) (.cells #[.slice none 0 0, .int .i64 0, .int .i64 0, .string ⟨#[]⟩] 27)
theorem kept_alloc {u : World} {b : Nat} {o : Obj} (h : u.heap[b]? = some o) (x : Obj) : (u.alloc x).heap[b]? = some o := (Below.heap_alloc _ _ _ (heap_lt h)).trans h
theorem kept_below {u u' : World} {b : Nat} {o : Obj} (h : u.heap[b]? = some o) (hb : Below u.heap.size u u') : u'.heap[b]? = some o := (hb.block _ (heap_lt h)).trans h
theorem cell_of1 {u : World} {b : Nat} {x : Value} {t : TypeId} (h : u.heap[b]? = some (.cells #[x] t (0, 0))) : u.cell? ⟨b, 0, none⟩ = some x := by simp [World.cell?, h]
theorem InZ.of {w u : World} {v : Value} {row col : Int} {e : ByteArray} {q : Nat} (h : InR w v row col e u) (hf : w.heap.size + 1 < q) (ho : u.heap[q]? = some (.cells #[.slice none 0 0, .int .i64 0, .int .i64 0, .string ⟨#[]⟩] 27 (0, 0))) (r c : Int) :
    InR w v row col e ((((u.setCell ⟨q, 0, none⟩ (.slice none 0 0)).setCell ⟨q, 1, none⟩ (.int .i64 r)).setCell ⟨q, 2, none⟩ (.int .i64 c)).setCell ⟨q, 3, none⟩ (.string e)) ∧
    InZ w q (.slice none 0 0) r c e ((((u.setCell ⟨q, 0, none⟩ (.slice none 0 0)).setCell ⟨q, 1, none⟩ (.int .i64 r)).setCell ⟨q, 2, none⟩ (.int .i64 c)).setCell ⟨q, 3, none⟩ (.string e)) := by
  have hB : Below w.heap.size w ((((u.setCell ⟨q, 0, none⟩ (.slice none 0 0)).setCell ⟨q, 1, none⟩ (.int .i64 r)).setCell ⟨q, 2, none⟩ (.int .i64 c)).setCell ⟨q, 3, none⟩ (.string e)) := (((h.bel.setCell (by simp; omega) _).setCell (by simp; omega) _).setCell (by simp; omega) _).setCell (by simp; omega) _
  have hO : ∀ b, b ≠ q → ((((u.setCell ⟨q, 0, none⟩ (.slice none 0 0)).setCell ⟨q, 1, none⟩ (.int .i64 r)).setCell ⟨q, 2, none⟩ (.int .i64 c)).setCell ⟨q, 3, none⟩ (.string e)).heap[b]? = u.heap[b]? := fun b hb => by
    rw [heap_setCell_other _ _ _ _ (by first | exact hb | exact hb.symm), heap_setCell_other _ _ _ _ (by first | exact hb | exact hb.symm), heap_setCell_other _ _ _ _ (by first | exact hb | exact hb.symm), heap_setCell_other _ _ _ _ (by first | exact hb | exact hb.symm)]
  have hR := (hO (w.heap.size + 1) (by omega)).trans h.res
  refine ⟨⟨hB, (hO w.heap.size (by omega)).trans h.arg, hR⟩, ⟨hB, hR, ?_, hf⟩⟩
  rw [heap_setCell_same _ _ _ _ _ _ (heap_setCell_same _ _ _ _ _ _ (heap_setCell_same _ _ _ _ _ _ (heap_setCell_same _ _ _ _ _ _ ho)))]
  rfl
theorem joined_one {e : ByteArray} {b : Nat} {u : World} (he : e.size ≤ 8) (hc : u.cell? ⟨b, 0, none⟩ = some (.string e)) : Calls Try.prog 52 #[.slice (some ⟨b, 0, none⟩) 1 1] u fun r w' => r = .returned (.string e) ∧ Below u.heap.size u w' := by
  refine (jo.joined_any [e] b 1 u (World.block_lt_of_cell? u _ hc) (by simp) (by rw [jo.total_one]; omega) (fun i hi => ?_)).mono ?_
  · match i, hi with
    | 0, _ => have ea : (⟨b, 0, none⟩ : Addr).add 0 = ⟨b, 0, none⟩ := by simp [Addr.add]
              first | exact hc | simpa using hc
  · rintro r w' ⟨rfl, hb⟩
    rw [jo.joinB_one]
    exact ⟨rfl, hb⟩
theorem infoZ : (Try.prog.info? 27).map (·.size) = some 4 := by kernel_rfl
theorem one_at {u : World} {b : Nat} {x : Value} {t : TypeId} (h : u.heap[b]? = some (.cells #[x] t (0, 0))) : ∀ j y, [x][j]? = some y → u.cell? ((⟨b, 0, none⟩ : Addr).add j) = some y := fun j y hj => by
  match j, hj with
  | 0, hj =>
    simp at hj
    subst hj
    have e : (⟨b, 0, none⟩ : Addr).add 0 = ⟨b, 0, none⟩ := by simp [Addr.add]
    rw [e]
    exact cell_of1 h
/-- at work: the screen's block q bears the slice vq; the row v of these texts is the call's own -/
structure Wk (w : World) (q : Nat) (vq v : Value) (row col : Int) (e : ByteArray) (l : List ByteArray) (u : World) : Prop where
  one : InZ w q vq row col e u
  own : OwT w.heap.size v l u
theorem Wk.up {w u u' : World} {q : Nat} {vq v : Value} {row col : Int} {e : ByteArray} {l : List ByteArray} (h : Wk w q vq v row col e l u) (hb : Below u.heap.size u u') : Wk w q vq v row col e l u' :=
  ⟨⟨h.one.bel.trans (hb.mono h.one.bel.size), (hb.block _ (heap_lt h.one.res)).trans h.one.res, (hb.block _ (heap_lt h.one.row)).trans h.one.row, h.one.far⟩, h.own.up hb⟩
theorem Wk.drew {w u : World} {q : Nat} {vq v : Value} {row col : Int} {e : ByteArray} {l : List ByteArray} (h : Wk w q vq v row col e l u) : Wk w q vq v row col e l u.drew := h.up ⟨rfl, rfl, rfl, Nat.le_refl _, fun _ _ => rfl⟩
theorem Wk.cell {w u : World} {q : Nat} {vq v : Value} {row col : Int} {e : ByteArray} {l : List ByteArray} (h : Wk w q vq v row col e l u) : u.cell? ⟨q, 0, none⟩ = some vq := by simp [World.cell?, h.one.row]
theorem Wk.frozen {w u : World} {q : Nat} {vq v : Value} {row col : Int} {e : ByteArray} {l : List ByteArray} (h : Wk w q vq v row col e l u) : u.frozen? ⟨q, 0, none⟩ = false := frozen_of_row _ _ _ _ _ h.one.row
theorem Wk.own' {w u : World} {q : Nat} {vq v : Value} {row col : Int} {e : ByteArray} {l : List ByteArray} {n k : Nat} (h : Wk w q vq v row col e (szd l n k) u) : u.ownsRow w.heap.size 9 1 v k ((szd l n k).map Value.string) := by
  have := h.own
  unfold OwT at this
  rwa [szd_length] at this
theorem Wk.far' {w u : World} {q : Nat} {vq v : Value} {row col : Int} {e : ByteArray} {l : List ByteArray} (h : Wk w q vq v row col e l u) : w.heap.size ≤ u.heap.size := h.one.bel.size
theorem Wk.shape {w u : World} {q : Nat} {vq v : Value} {row col : Int} {e : ByteArray} {l : List ByteArray} {n k : Nat} (h : Wk w q vq v row col e (szd l n k) u) : ∃ p c, v = .slice p k c := by
  obtain ⟨p, c, hp⟩ := h.own.shape
  rw [szd_length] at hp
  exact ⟨p, c, hp⟩
theorem own_other {u : World} {base : Nat} {v : Value} {l : List ByteArray} (h : OwT base v l u) {q : Nat} {cs : Array Value} (hq : u.heap[q]? = some (.cells cs 27 (0, 0))) : v.ownBlock ≠ some q := by
  rcases h.2 with ⟨rfl, _⟩ | ⟨g, cap, cur, rfl, _, hg, _⟩
  · simp [Value.ownBlock]
  · intro e
    simp only [Value.ownBlock, Option.some.injEq] at e
    subst e
    rw [hg] at hq
    simp at hq
theorem Wk.app {w u u' : World} {q : Nat} {v v' : Value} {row col : Int} {e : ByteArray} {l : List ByteArray} {n k : Nat} (h : Wk w q v v row col e (szd l n k) u)
    (hA : la.After u w.heap.size 9 1 v (k + 1) ((szd l n k).map Value.string ++ [.string (fitB (l.getD k ⟨#[]⟩) n)]) v' u') : Wk w q v v' row col e (szd l n (k + 1)) u' := by
  have hne := own_other h.own h.one.row
  have hne2 := own_other h.own h.one.res
  refine ⟨⟨below_own h.one.bel hA.grown h.own' (Nat.le_refl _) h.one.bel.size, ?_, ?_, h.one.far⟩, ?_⟩
  · exact (hA.grown.block _ (heap_lt h.one.res) (fun e => hne2 e.symm)).trans h.one.res
  · exact (hA.grown.block _ (heap_lt h.one.row) (fun e => hne e.symm)).trans h.one.row
  · have := hA.own
    show OwT _ _ (szd l n k ++ [fitB (l.getD k ⟨#[]⟩) n]) _
    refine OwT.of1 ?_
    rw [szd_length]
    exact this
theorem Wk.store {w u : World} {q : Nat} {vq v : Value} {row col : Int} {e : ByteArray} {l : List ByteArray} (h : Wk w q vq v row col e l u) : Wk w q v v row col e l (u.setCell ⟨q, 0, none⟩ v) := by
  have hf := h.one.far
  refine ⟨⟨h.one.bel.setCell (by simp; omega) _, ?_, ?_, hf⟩, ?_⟩
  · rw [heap_setCell_other _ _ _ _ (by simp; omega)]; exact h.one.res
  · rw [heap_setCell_same _ _ _ _ _ _ h.one.row]; rfl
  · exact World.ownsRow.kept h.own (row := some q) ⟨rfl, rfl, rfl, by simp [World.setCell], fun k _ hk => Below.heap_setCell _ _ _ _ (fun e => hk (by simp [e]))⟩ (.inr (own_other h.own h.one.row))
set_option maxRecDepth 20000 in
set_option maxHeartbeats 8000000 in
theorem sized_any (p : Option Addr) (cap : Nat) (l : List ByteArray) (row col : Int) (e : ByteArray) (n high gone : Nat) (w : World)
    (hv : SliceIs w (.slice p l.length cap) l) (hc : l.length ≤ cap) (hl : l.length ≤ 6) (hz : ∀ r ∈ l, r.size ≤ maxLen) (he : e.size ≤ 8) (h1 : 1 ≤ n) (h2 : n ≤ 20) (h3 : 1 ≤ high) (h4 : high ≤ 6)
    (hr0 : 0 ≤ row) (hr1 : row ≤ 6) (hc0 : 0 ≤ col) (hc1 : col ≤ 20) (hg : (gone : Int) = min (max ((l.length : Int) - (high : Int)) 0) row) :
    Calls Try.prog 45 #[.agg #[.slice p l.length cap, .int .i64 row, .int .i64 col, .string e], .int .i64 (n : Int), .int .i64 (high : Int)] w fun r w' => ∃ v, r = .returned (.agg #[v, .int .i64 (row - gone), .int .i64 (min col (n : Int)), .string e]) ∧ OwT w.heap.size v (szd (l.drop gone) n high) w' ∧ Below w.heap.size w w' := by
  have hgl : gone ≤ l.length := by omega
  obtain ⟨q, c, hsl, hsv⟩ := slice_from hv hc gone hgl
  have HSV : Hid (∀ u, Below w.heap.size w u → SliceIs u (.slice q (l.length - gone) c) (l.drop gone)) := hsv
  have hmin : min (max ((l.length : Int) - (high : Int)) 0) row = (gone : Int) := hg.symm
  have hgl2 : (gone : Int) ≤ (l.length : Int) := by omega
  have hg0 : (0 : Int) ≤ (gone : Int) := by omega
  clear hsv hv hg
  go_enter Try.func45, Try.ntmps45
  go_wp2_with (go_at_call 52; fail)
  go_cut [10] from 27 (fun o u => ∃ q, o = .pointer (some ⟨q, 0, none⟩) ∧ InZ w q (.slice none 0 0) (row - gone) (min col (n : Int)) e u)
  case first =>
    refine wp_w (InR w (.slice p l.length cap) row col e) InR.new ?_
    intro W0 i0
    have j0 := i0.drew
    have hw1 : IntKind.i64.wrap (row - (gone : Int)) = row - (gone : Int) := by rw [IntKind.wrap_i64]; omega
    have HS : Hid (∀ u, InR w (.slice p l.length cap) row col e u → u.cell? ⟨w.heap.size, 1, none⟩ = some (.int .i64 row) ∧ u.cell? ⟨w.heap.size, 2, none⟩ = some (.int .i64 col) ∧ u.cell? ⟨w.heap.size, 3, none⟩ = some (.string e)) := fun u hu => hu.cells
    refine wp_region_noPanic ?_
    refine wp_region_held_drew (S := fun u => u.cell? ⟨w.heap.size, 1, none⟩ = some (.int .i64 row) ∧ u.cell? ⟨w.heap.size, 2, none⟩ = some (.int .i64 col) ∧ u.cell? ⟨w.heap.size, 3, none⟩ = some (.string e)) (by kernel_rfl) (HS.out _ j0) (fun hHeld => ?_)
    generalize W0.drew = U0 at *
    clear i0 hsl HSV hmin
    refine wpAnyH_take (i := 0) (oi := { dst := some 27, op := Op.fieldAddr 27 (Operand.tmp 3) 1, type := 0, pos := "l06_term.go:137", after := #[], guard := none }) (v := ?_) rfl (by kernel_rfl) (by kernel_rfl) (by kernel_rfl) (fun _ _ _ h => h) (Or.inl ⟨by rfl, ?_⟩) hHeld ?_
    rotate_left
    · rintro w ⟨z0, z1, z2⟩; go_simp; (try with_reducible rfl)
    try simp only [Act.put, List.setIfInBounds_toArray, List.set_cons_zero, List.set_cons_succ]
    refine wpAnyH_take (i := 1) (oi := { dst := some 28, op := Op.load 2 (Operand.tmp 27), type := 2, pos := "l06_term.go:137", after := #[{ on := 0, ground := Ground.data }], guard := none }) (v := ?_) rfl (by kernel_rfl) (by kernel_rfl) (by kernel_rfl) (fun _ _ _ h => h) (Or.inl ⟨by rfl, ?_⟩) hHeld ?_
    rotate_left
    · rintro w ⟨z0, z1, z2⟩; go_simp; (try with_reducible rfl)
    try simp only [Act.put, List.setIfInBounds_toArray, List.set_cons_zero, List.set_cons_succ]
    refine wpAnyH_take (i := 2) (oi := { dst := some 29, op := Op.move (Operand.tmp 8), type := 2, pos := "l06_term.go:137", after := #[], guard := none }) (v := ?_) rfl (by kernel_rfl) (by kernel_rfl) (by kernel_rfl) (fun _ _ _ h => h) (Or.inl ⟨by rfl, ?_⟩) hHeld ?_
    rotate_left
    · rintro w ⟨z0, z1, z2⟩; go_simp; (try with_reducible rfl)
    try simp only [Act.put, List.setIfInBounds_toArray, List.set_cons_zero, List.set_cons_succ]
    refine wpAnyH_take (i := 3) (oi := { dst := some 30, op := Op.binOp BinOp.sub 2 (Operand.tmp 28) (Operand.tmp 29) 2, type := 2, pos := "l06_term.go:137", after := #[{ on := 1, ground := Ground.data }, { on := 2, ground := Ground.data }], guard := none }) (v := ?_) rfl (by kernel_rfl) (by kernel_rfl) (by kernel_rfl) (fun _ _ _ h => h) (Or.inl ⟨by rfl, ?_⟩) hHeld ?_
    rotate_left
    · rintro w ⟨z0, z1, z2⟩; go_simp; (try with_reducible rfl)
    try simp only [Act.put, List.setIfInBounds_toArray, List.set_cons_zero, List.set_cons_succ]
    refine wpAnyH_take (i := 4) (oi := { dst := some 31, op := Op.fieldAddr 27 (Operand.tmp 3) 2, type := 0, pos := "l06_term.go:137", after := #[], guard := none }) (v := ?_) rfl (by kernel_rfl) (by kernel_rfl) (by kernel_rfl) (fun _ _ _ h => h) (Or.inl ⟨by rfl, ?_⟩) hHeld ?_
    rotate_left
    · rintro w ⟨z0, z1, z2⟩; go_simp; (try with_reducible rfl)
    try simp only [Act.put, List.setIfInBounds_toArray, List.set_cons_zero, List.set_cons_succ]
    refine wpAnyH_take (i := 5) (oi := { dst := some 32, op := Op.load 2 (Operand.tmp 31), type := 2, pos := "l06_term.go:137", after := #[{ on := 4, ground := Ground.data }], guard := none }) (v := ?_) rfl (by kernel_rfl) (by kernel_rfl) (by kernel_rfl) (fun _ _ _ h => h) (Or.inl ⟨by rfl, ?_⟩) hHeld ?_
    rotate_left
    · rintro w ⟨z0, z1, z2⟩; go_simp; (try with_reducible rfl)
    try simp only [Act.put, List.setIfInBounds_toArray, List.set_cons_zero, List.set_cons_succ]
    refine wpAnyH_take (i := 6) (oi := { dst := some 33, op := Op.move (Operand.tmp 1), type := 2, pos := "l06_term.go:137", after := #[], guard := none }) (v := ?_) rfl (by kernel_rfl) (by kernel_rfl) (by kernel_rfl) (fun _ _ _ h => h) (Or.inl ⟨by rfl, ?_⟩) hHeld ?_
    rotate_left
    · rintro w ⟨z0, z1, z2⟩; go_simp; (try with_reducible rfl)
    try simp only [Act.put, List.setIfInBounds_toArray, List.set_cons_zero, List.set_cons_succ]
    refine wpAnyH_take (i := 7) (oi := { dst := some 34, op := Op.call { callee := Callee.builtin Builtin.min, args := #[Operand.tmp 32, Operand.tmp 33], argTypes := #[2, 2] }, type := 2, pos := "l06_term.go:137", after := #[{ on := 5, ground := Ground.data }, { on := 6, ground := Ground.data }], guard := none }) (v := ?_) rfl (by kernel_rfl) (by kernel_rfl) (by kernel_rfl) (fun _ _ _ h => h) (Or.inl ⟨by rfl, ?_⟩) hHeld ?_
    rotate_left
    · rintro w ⟨z0, z1, z2⟩; go_simp; (try with_reducible rfl)
    try simp only [Act.put, List.setIfInBounds_toArray, List.set_cons_zero, List.set_cons_succ]
    refine wpAnyH_take (i := 8) (oi := { dst := some 35, op := Op.fieldAddr 27 (Operand.tmp 3) 3, type := 0, pos := "l06_term.go:137", after := #[], guard := none }) (v := ?_) rfl (by kernel_rfl) (by kernel_rfl) (by kernel_rfl) (fun _ _ _ h => h) (Or.inl ⟨by rfl, ?_⟩) hHeld ?_
    rotate_left
    · rintro w ⟨z0, z1, z2⟩; go_simp; (try with_reducible rfl)
    try simp only [Act.put, List.setIfInBounds_toArray, List.set_cons_zero, List.set_cons_succ]
    refine wpAnyH_take (i := 9) (oi := { dst := some 36, op := Op.load 9 (Operand.tmp 35), type := 9, pos := "l06_term.go:137", after := #[{ on := 8, ground := Ground.data }], guard := none }) (v := ?_) rfl (by kernel_rfl) (by kernel_rfl) (by kernel_rfl) (fun _ _ _ h => h) (Or.inl ⟨by rfl, ?_⟩) hHeld ?_
    rotate_left
    · rintro w ⟨z0, z1, z2⟩; go_simp; (try with_reducible rfl)
    try simp only [Act.put, List.setIfInBounds_toArray, List.set_cons_zero, List.set_cons_succ]
    refine wpAnyH_ready (rs := [10, 13]) (by kernel_rfl) (by simp) ?_
    refine AllReadyH.cons rfl (fun K hK => ?_) (AllReadyH.cons rfl (fun K hK => ?_) AllReadyH.nil)
    · skip
      go_simp
      obtain ⟨X1, hX1⟩ : ∃ X, X = U0.alloc (.cells #[.string e] 9) := ⟨_, rfl⟩
      obtain ⟨b1, hb1⟩ : ∃ b, b = U0.heap.size := ⟨_, rfl⟩
      have i1 : InR w (.slice p l.length cap) row col e X1 := by rw [hX1]; exact (j0).alloc _
      have n1 : X1.heap[b1]? = some (.cells #[.string e] 9 (0, 0)) := by rw [hX1, hb1]; exact heap_alloc_new _ _
      rw [← hX1, ← hb1]
      refine hK.out _ _ (HS.out _ i1) (fun hHeld => ?_)
      clear hX1 hb1
      clear hK K
      try simp only [Act.put, List.setIfInBounds_toArray, List.set_cons_zero, List.set_cons_succ]
      refine wpAnyH_ready (rs := [11, 13]) (by kernel_rfl) (by simp) ?_
      refine AllReadyH.cons rfl (fun K hK => ?_) (AllReadyH.cons rfl (fun K hK => ?_) AllReadyH.nil)
      · skip
        go_simp
        go_at_call 52
        refine (joined_one he (cell_of1 n1)).mono ?_
        rintro e2 X2 ⟨rfl, hb2⟩
        have i2 := (i1).up hb2
        have a2 : X2.heap[b1]? = some (.cells #[.string e] 9 (0, 0)) := kept_below n1 hb2
        go_wp2_with fail
        refine hK.out _ _ (HS.out _ i2) (fun hHeld => ?_)
        clear hb2
        clear hK K
        try simp only [Act.put, List.setIfInBounds_toArray, List.set_cons_zero, List.set_cons_succ]
        refine wpAnyH_take (i := 12) (oi := { dst := some 39, op := Op.build 27 #[(1, Operand.tmp 30), (2, Operand.tmp 34), (3, Operand.tmp 38)], type := 27, pos := "l06_term.go:137", after := #[{ on := 3, ground := Ground.data }, { on := 7, ground := Ground.data }, { on := 11, ground := Ground.data }], guard := none }) (v := ?_) rfl (by kernel_rfl) (by kernel_rfl) (by kernel_rfl) (fun _ _ _ h => h) (Or.inl ⟨by rfl, ?_⟩) hHeld ?_
        rotate_left
        · rintro w ⟨z0, z1, z2⟩; go_simp; (try with_reducible rfl)
        try simp only [Act.put, List.setIfInBounds_toArray, List.set_cons_zero, List.set_cons_succ]
        refine wpAnyH_ready (rs := [13]) (by kernel_rfl) (by simp) ?_
        refine AllReadyH.cons rfl (fun K hK => ?_) AllReadyH.nil
        go_simp
        obtain ⟨X3, hX3⟩ : ∃ X, X = X2.alloc (.cells #[.slice none 0 0, .int .i64 0, .int .i64 0, .string ⟨#[]⟩] 27) := ⟨_, rfl⟩
        obtain ⟨b3, hb3⟩ : ∃ b, b = X2.heap.size := ⟨_, rfl⟩
        have hf3 : w.heap.size + 1 < b3 := hb3 ▸ heap_lt (i2).res
        have i3 : InR w (.slice p l.length cap) row col e X3 := by rw [hX3]; exact (i2).alloc _
        have n3 : X3.heap[b3]? = some (.cells #[.slice none 0 0, .int .i64 0, .int .i64 0, .string ⟨#[]⟩] 27 (0, 0)) := by rw [hX3, hb3]; exact heap_alloc_new _ _
        have a3 : X3.heap[b1]? = some (.cells #[.string e] 9 (0, 0)) := (by rw [hX3]; exact kept_alloc a2 _)
        rw [← hX3, ← hb3]
        refine hK.out _ _ (HS.out _ i3) (fun hHeld => ?_)
        clear hX3 hb3
        clear hK K
        try simp only [Act.put, List.setIfInBounds_toArray, List.set_cons_zero, List.set_cons_succ]
        refine wpAnyH_ready (rs := [14]) (by kernel_rfl) (by simp) ?_
        refine AllReadyH.cons rfl (fun K hK => ?_) AllReadyH.nil
        have c0 : X3.cell? ⟨b3, 0, none⟩ = some (.slice none 0 0) := by simp [World.cell?, n3]
        have c1 : X3.cell? ⟨b3, 1, none⟩ = some (.int .i64 0) := by simp [World.cell?, n3]
        have c2 : X3.cell? ⟨b3, 2, none⟩ = some (.int .i64 0) := by simp [World.cell?, n3]
        have c3 : X3.cell? ⟨b3, 3, none⟩ = some (.string ⟨#[]⟩) := by simp [World.cell?, n3]
        have fz : ∀ k, X3.frozen? ⟨b3, k, none⟩ = false := fun k => frozen_of_row _ _ _ _ _ n3
        go_simp
        have iz := InZ.of (i3) hf3 n3 (row - gone) (min col (n : Int))
        refine hK.out _ _ (HS.out _ iz.1) (fun hHeld => ?_)
        clear c0 c1 c2 c3 fz
        clear hK K
        try simp only [Act.put, List.setIfInBounds_toArray, List.set_cons_zero, List.set_cons_succ]
        refine wpAnyH_done (by kernel_rfl) ?_ _
        refine NoPanic.normal ?_
        go_wp2_with fail
        go_meet
        case rel => exact ⟨_, rfl, iz.2⟩
      · skip
        go_simp
        obtain ⟨X4, hX4⟩ : ∃ X, X = X1.alloc (.cells #[.slice none 0 0, .int .i64 0, .int .i64 0, .string ⟨#[]⟩] 27) := ⟨_, rfl⟩
        obtain ⟨b4, hb4⟩ : ∃ b, b = X1.heap.size := ⟨_, rfl⟩
        have hf4 : w.heap.size + 1 < b4 := hb4 ▸ heap_lt (i1).res
        have i4 : InR w (.slice p l.length cap) row col e X4 := by rw [hX4]; exact (i1).alloc _
        have n4 : X4.heap[b4]? = some (.cells #[.slice none 0 0, .int .i64 0, .int .i64 0, .string ⟨#[]⟩] 27 (0, 0)) := by rw [hX4, hb4]; exact heap_alloc_new _ _
        have a4 : X4.heap[b1]? = some (.cells #[.string e] 9 (0, 0)) := (by rw [hX4]; exact kept_alloc n1 _)
        rw [← hX4, ← hb4]
        refine hK.out _ _ (HS.out _ i4) (fun hHeld => ?_)
        clear hX4 hb4
        clear hK K
        try simp only [Act.put, List.setIfInBounds_toArray, List.set_cons_zero, List.set_cons_succ]
        refine wpAnyH_ready (rs := [11]) (by kernel_rfl) (by simp) ?_
        refine AllReadyH.cons rfl (fun K hK => ?_) AllReadyH.nil
        go_simp
        go_at_call 52
        refine (joined_one he (cell_of1 a4)).mono ?_
        rintro e5 X5 ⟨rfl, hb5⟩
        have i5 := (i4).up hb5
        have a5 : X5.heap[b1]? = some (.cells #[.string e] 9 (0, 0)) := kept_below a4 hb5
        have o5 : X5.heap[b4]? = some (.cells #[.slice none 0 0, .int .i64 0, .int .i64 0, .string ⟨#[]⟩] 27 (0, 0)) := kept_below n4 hb5
        go_wp2_with fail
        refine hK.out _ _ (HS.out _ i5) (fun hHeld => ?_)
        clear hb5
        clear hK K
        try simp only [Act.put, List.setIfInBounds_toArray, List.set_cons_zero, List.set_cons_succ]
        refine wpAnyH_take (i := 12) (oi := { dst := some 39, op := Op.build 27 #[(1, Operand.tmp 30), (2, Operand.tmp 34), (3, Operand.tmp 38)], type := 27, pos := "l06_term.go:137", after := #[{ on := 3, ground := Ground.data }, { on := 7, ground := Ground.data }, { on := 11, ground := Ground.data }], guard := none }) (v := ?_) rfl (by kernel_rfl) (by kernel_rfl) (by kernel_rfl) (fun _ _ _ h => h) (Or.inl ⟨by rfl, ?_⟩) hHeld ?_
        rotate_left
        · rintro w ⟨z0, z1, z2⟩; go_simp; (try with_reducible rfl)
        try simp only [Act.put, List.setIfInBounds_toArray, List.set_cons_zero, List.set_cons_succ]
        refine wpAnyH_ready (rs := [14]) (by kernel_rfl) (by simp) ?_
        refine AllReadyH.cons rfl (fun K hK => ?_) AllReadyH.nil
        have c0 : X5.cell? ⟨b4, 0, none⟩ = some (.slice none 0 0) := by simp [World.cell?, o5]
        have c1 : X5.cell? ⟨b4, 1, none⟩ = some (.int .i64 0) := by simp [World.cell?, o5]
        have c2 : X5.cell? ⟨b4, 2, none⟩ = some (.int .i64 0) := by simp [World.cell?, o5]
        have c3 : X5.cell? ⟨b4, 3, none⟩ = some (.string ⟨#[]⟩) := by simp [World.cell?, o5]
        have fz : ∀ k, X5.frozen? ⟨b4, k, none⟩ = false := fun k => frozen_of_row _ _ _ _ _ o5
        go_simp
        have iz := InZ.of (i5) hf4 o5 (row - gone) (min col (n : Int))
        refine hK.out _ _ (HS.out _ iz.1) (fun hHeld => ?_)
        clear c0 c1 c2 c3 fz
        clear hK K
        try simp only [Act.put, List.setIfInBounds_toArray, List.set_cons_zero, List.set_cons_succ]
        refine wpAnyH_done (by kernel_rfl) ?_ _
        refine NoPanic.normal ?_
        go_wp2_with fail
        go_meet
        case rel => exact ⟨_, rfl, iz.2⟩
    · skip
      go_simp
      obtain ⟨X6, hX6⟩ : ∃ X, X = U0.alloc (.cells #[.slice none 0 0, .int .i64 0, .int .i64 0, .string ⟨#[]⟩] 27) := ⟨_, rfl⟩
      obtain ⟨b6, hb6⟩ : ∃ b, b = U0.heap.size := ⟨_, rfl⟩
      have hf6 : w.heap.size + 1 < b6 := hb6 ▸ heap_lt (j0).res
      have i6 : InR w (.slice p l.length cap) row col e X6 := by rw [hX6]; exact (j0).alloc _
      have n6 : X6.heap[b6]? = some (.cells #[.slice none 0 0, .int .i64 0, .int .i64 0, .string ⟨#[]⟩] 27 (0, 0)) := by rw [hX6, hb6]; exact heap_alloc_new _ _
      rw [← hX6, ← hb6]
      refine hK.out _ _ (HS.out _ i6) (fun hHeld => ?_)
      clear hX6 hb6
      clear hK K
      try simp only [Act.put, List.setIfInBounds_toArray, List.set_cons_zero, List.set_cons_succ]
      refine wpAnyH_ready (rs := [10]) (by kernel_rfl) (by simp) ?_
      refine AllReadyH.cons rfl (fun K hK => ?_) AllReadyH.nil
      go_simp
      obtain ⟨X7, hX7⟩ : ∃ X, X = X6.alloc (.cells #[.string e] 9) := ⟨_, rfl⟩
      obtain ⟨b7, hb7⟩ : ∃ b, b = X6.heap.size := ⟨_, rfl⟩
      have i7 : InR w (.slice p l.length cap) row col e X7 := by rw [hX7]; exact (i6).alloc _
      have n7 : X7.heap[b7]? = some (.cells #[.string e] 9 (0, 0)) := by rw [hX7, hb7]; exact heap_alloc_new _ _
      have o7 : X7.heap[b6]? = some (.cells #[.slice none 0 0, .int .i64 0, .int .i64 0, .string ⟨#[]⟩] 27 (0, 0)) := (by rw [hX7]; exact kept_alloc n6 _)
      rw [← hX7, ← hb7]
      refine hK.out _ _ (HS.out _ i7) (fun hHeld => ?_)
      clear hX7 hb7
      clear hK K
      try simp only [Act.put, List.setIfInBounds_toArray, List.set_cons_zero, List.set_cons_succ]
      refine wpAnyH_ready (rs := [11]) (by kernel_rfl) (by simp) ?_
      refine AllReadyH.cons rfl (fun K hK => ?_) AllReadyH.nil
      go_simp
      go_at_call 52
      refine (joined_one he (cell_of1 n7)).mono ?_
      rintro e8 X8 ⟨rfl, hb8⟩
      have i8 := (i7).up hb8
      have a8 : X8.heap[b7]? = some (.cells #[.string e] 9 (0, 0)) := kept_below n7 hb8
      have o8 : X8.heap[b6]? = some (.cells #[.slice none 0 0, .int .i64 0, .int .i64 0, .string ⟨#[]⟩] 27 (0, 0)) := kept_below o7 hb8
      go_wp2_with fail
      refine hK.out _ _ (HS.out _ i8) (fun hHeld => ?_)
      clear hb8
      clear hK K
      try simp only [Act.put, List.setIfInBounds_toArray, List.set_cons_zero, List.set_cons_succ]
      refine wpAnyH_take (i := 12) (oi := { dst := some 39, op := Op.build 27 #[(1, Operand.tmp 30), (2, Operand.tmp 34), (3, Operand.tmp 38)], type := 27, pos := "l06_term.go:137", after := #[{ on := 3, ground := Ground.data }, { on := 7, ground := Ground.data }, { on := 11, ground := Ground.data }], guard := none }) (v := ?_) rfl (by kernel_rfl) (by kernel_rfl) (by kernel_rfl) (fun _ _ _ h => h) (Or.inl ⟨by rfl, ?_⟩) hHeld ?_
      rotate_left
      · rintro w ⟨z0, z1, z2⟩; go_simp; (try with_reducible rfl)
      try simp only [Act.put, List.setIfInBounds_toArray, List.set_cons_zero, List.set_cons_succ]
      refine wpAnyH_ready (rs := [14]) (by kernel_rfl) (by simp) ?_
      refine AllReadyH.cons rfl (fun K hK => ?_) AllReadyH.nil
      have c0 : X8.cell? ⟨b6, 0, none⟩ = some (.slice none 0 0) := by simp [World.cell?, o8]
      have c1 : X8.cell? ⟨b6, 1, none⟩ = some (.int .i64 0) := by simp [World.cell?, o8]
      have c2 : X8.cell? ⟨b6, 2, none⟩ = some (.int .i64 0) := by simp [World.cell?, o8]
      have c3 : X8.cell? ⟨b6, 3, none⟩ = some (.string ⟨#[]⟩) := by simp [World.cell?, o8]
      have fz : ∀ k, X8.frozen? ⟨b6, k, none⟩ = false := fun k => frozen_of_row _ _ _ _ _ o8
      go_simp
      have iz := InZ.of (i8) hf6 o8 (row - gone) (min col (n : Int))
      refine hK.out _ _ (HS.out _ iz.1) (fun hHeld => ?_)
      clear c0 c1 c2 c3 fz
      clear hK K
      try simp only [Act.put, List.setIfInBounds_toArray, List.set_cons_zero, List.set_cons_succ]
      refine wpAnyH_done (by kernel_rfl) ?_ _
      refine NoPanic.normal ?_
      go_wp2_with fail
      go_meet
      case rel => exact ⟨_, rfl, iz.2⟩
  case rest =>
    obtain ⟨q0, rfl, hZ⟩ := hcut
    obtain ⟨i0, hi, hz0, hz1, hz2⟩ := info_parts infoS
    have HSL : Hid (∀ u, Below w.heap.size w u → SliceIs u (.slice q (l.length - gone) c) (l.drop gone)) := HSV.out
    have hdl : (l.drop gone).length = l.length - gone := by rw [List.length_drop]
    have HZR : Hid (∀ k, ((l.drop gone).getD k ⟨#[]⟩).size ≤ maxLen) := fun k => by
      rw [List.getD_eq_getElem?_getD]
      by_cases hk : k < (l.drop gone).length
      · rw [List.getElem?_eq_getElem hk]; exact hz _ (List.mem_of_mem_drop (List.getElem_mem hk))
      · rw [List.getElem?_eq_none (by omega)]; exact Nat.zero_le _
    have W0 : Hid (Wk w q0 (.slice none 0 0) (.slice none 0 0) (row - gone) (min col (n : Int)) e (szd (l.drop gone) n 0) wc) := ⟨hZ, OwT.nil _ _⟩
    clear hZ HSV hsl hz
    go_wp2_with fail
    go_loopw [41] (fun i u => ∃ k : Nat, k ≤ high ∧ i = .int .i64 k ∧ ∃ v, (k = 0 → v = .slice none 0 0) ∧ Hid (Wk w q0 v v (row - gone) (min col (n : Int)) e (szd (l.drop gone) n k) u)) (fun i _ => high - (intOf i).toNat)
    case atStart => exact ⟨0, Nat.zero_le _, rfl, _, fun _ => rfl, W0⟩
    case round =>
      clear W0
      obtain ⟨k, hk, rfl, v, hnil, HW⟩ := hrel
      obtain ⟨p9, c9, hv9⟩ := HW.out.shape
      subst hv9
      by_cases hlt : k < high
      · have hsz1 : True := trivial
        have ht9 := HZR.out k
        obtain ⟨t, htt⟩ : ∃ t, t = (l.drop gone).getD k ⟨#[]⟩ := ⟨_, rfl⟩
        rw [← htt] at ht9
        have hk6 : k < 6 := by omega
        by_cases hkl : k < l.length - gone
        · have hkI : (k : Int) < ((l.length - gone : Nat) : Int) := by omega
          have hkI2 : (k : Int) < (l.length : Int) - (gone : Int) := by omega
          obtain ⟨b, off, hq, hcell⟩ : ∃ b off, q = some ⟨b, off, none⟩ ∧ wr.cell? ⟨b, off + k, none⟩ = some (.string t) := by
            rcases HSL.out wr HW.out.one.bel with ⟨_, _, hnl, _⟩ | ⟨b, off, c', hb, hv, hR⟩
            · rw [hnl] at hdl; simp at hdl; omega
            · simp only [Value.slice.injEq] at hv
              exact ⟨b, off, hv.1, by rw [htt]; exact hR k (by omega)⟩
          subst hq
          have HTT : Hid (t = (l.drop gone).getD k ⟨#[]⟩) := htt
          clear htt
          go_wp2_with fail
          have hk0 := HW.out.drew
          clear HW HSL
          refine wp_region_noPanic ?_
          refine wp_region_held_drew (S := fun _ => True) (by kernel_rfl) trivial (fun hHeld => ?_)
          generalize wr.drew = Y0 at *
          refine wpAnyH_take (i := 0) (oi := { dst := some 52, op := Op.fieldAddr 27 (Operand.tmp 10) 0, type := 0, pos := "l06_term.go:143", after := #[], guard := none }) (v := ?_) rfl (by kernel_rfl) (by kernel_rfl) (by kernel_rfl) (fun _ _ _ h => h) (Or.inl ⟨by rfl, ?_⟩) hHeld ?_
          rotate_left
          · rintro w _; go_simp; (try with_reducible rfl)
          try simp only [Act.put, List.setIfInBounds_toArray, List.set_cons_zero, List.set_cons_succ]
          refine wpAnyH_take (i := 2) (oi := { dst := some 54, op := Op.move (Operand.tmp 12), type := 9, pos := "l06_term.go:143", after := #[], guard := none }) (v := ?_) rfl (by kernel_rfl) (by kernel_rfl) (by kernel_rfl) (fun _ _ _ h => h) (Or.inl ⟨by rfl, ?_⟩) hHeld ?_
          rotate_left
          · rintro w _; go_simp; (try with_reducible rfl)
          try simp only [Act.put, List.setIfInBounds_toArray, List.set_cons_zero, List.set_cons_succ]
          refine wpAnyH_take (i := 3) (oi := { dst := some 55, op := Op.move (Operand.tmp 1), type := 2, pos := "l06_term.go:143", after := #[], guard := none }) (v := ?_) rfl (by kernel_rfl) (by kernel_rfl) (by kernel_rfl) (fun _ _ _ h => h) (Or.inl ⟨by rfl, ?_⟩) hHeld ?_
          rotate_left
          · rintro w _; go_simp; (try with_reducible rfl)
          try simp only [Act.put, List.setIfInBounds_toArray, List.set_cons_zero, List.set_cons_succ]
          refine wpAnyH_ready (rs := [1, 4]) (by kernel_rfl) (by simp) ?_
          refine AllReadyH.cons rfl (fun K hK => ?_) (AllReadyH.cons rfl (fun K hK => ?_) AllReadyH.nil)
          · skip
            have c0 := (hk0).cell
            go_simp
            refine hK.out _ _ trivial (fun hHeld => ?_)
            clear c0
            clear hK K
            try simp only [Act.put, List.setIfInBounds_toArray, List.set_cons_zero, List.set_cons_succ]
            refine wpAnyH_ready (rs := [4]) (by kernel_rfl) (by simp) ?_
            refine AllReadyH.cons rfl (fun K hK => ?_) AllReadyH.nil
            go_simp
            go_at_call 62
            refine (fitted_any t n _ h1 h2 ht9).mono ?_
            rintro e1 Y_1 ⟨rfl, hb_1⟩
            have k_1 := (hk0).up hb_1
            go_wp2_with fail
            refine hK.out _ _ trivial (fun hHeld => ?_)
            clear hb_1
            clear hK K
            try simp only [Act.put, List.setIfInBounds_toArray, List.set_cons_zero, List.set_cons_succ]
            refine wpAnyH_ready (rs := [5]) (by kernel_rfl) (by simp) ?_
            refine AllReadyH.cons rfl (fun K hK => ?_) AllReadyH.nil
            go_simp
            obtain ⟨Y_2, hY_2⟩ : ∃ X, X = Y_1.alloc (.cells #[.string (fitB t n)] 9) := ⟨_, rfl⟩
            obtain ⟨b_2, hb_2⟩ : ∃ b, b = Y_1.heap.size := ⟨_, rfl⟩
            have k_2 := (k_1).up ((Below.refl _ _).alloc (Nat.le_refl _) (.cells #[.string (fitB t n)] 9))
            have n_2 : (Y_1.alloc (.cells #[.string (fitB t n)] 9)).heap[Y_1.heap.size]? = some (.cells #[.string (fitB t n)] 9 (0, 0)) := heap_alloc_new _ _
            rw [← hY_2] at k_2 n_2
            rw [← hb_2] at n_2
            rw [← hY_2, ← hb_2]
            refine hK.out _ _ trivial (fun hHeld => ?_)
            clear hY_2 hb_2
            clear hK K
            try simp only [Act.put, List.setIfInBounds_toArray, List.set_cons_zero, List.set_cons_succ]
            refine wpAnyH_ready (rs := [6]) (by kernel_rfl) (by simp) ?_
            refine AllReadyH.cons rfl (fun K hK => ?_) AllReadyH.nil
            refine la.wp_append_first _ (.tmp 53) (.tmp 57) 22 rfl w.heap.size 9 i0 (.string ⟨#[]⟩) 1 16 Try.underlying22 hi hz0 hz1 hz2 rfl (by decide) (.slice p9 k c9) k ((szd (l.drop gone) n k).map Value.string) rfl (k_2).own' hnil ⟨b_2, 0, none⟩ 1 1 [.string (fitB t n)] rfl rfl (one_at n_2) (by simp [Value.oneCell']) (by unfold maxLen; omega) (by omega) (k_2).far' (fun v_3 Y_3 hA => ?_)
            have k_3 := (k_2).app (HTT.out ▸ hA)
            clear hA
            obtain ⟨p_3, c_3, hv_3⟩ := k_3.shape
            subst hv_3
            refine hK.out _ _ trivial (fun hHeld => ?_)
            clear hK K
            try simp only [Act.put, List.setIfInBounds_toArray, List.set_cons_zero, List.set_cons_succ]
            refine wpAnyH_take (i := 7) (oi := { dst := some 59, op := Op.fieldAddr 27 (Operand.tmp 10) 0, type := 0, pos := "l06_term.go:143", after := #[{ on := 0, ground := Ground.phase }, { on := 1, ground := Ground.phase }, { on := 2, ground := Ground.phase }, { on := 3, ground := Ground.phase }, { on := 4, ground := Ground.phase }, { on := 5, ground := Ground.phase }, { on := 6, ground := Ground.phase }], guard := none }) (v := ?_) rfl (by kernel_rfl) (by kernel_rfl) (by kernel_rfl) (fun _ _ _ h => h) (Or.inl ⟨by rfl, ?_⟩) hHeld ?_
            rotate_left
            · rintro w _; go_simp; (try with_reducible rfl)
            try simp only [Act.put, List.setIfInBounds_toArray, List.set_cons_zero, List.set_cons_succ]
            refine wpAnyH_ready (rs := [8]) (by kernel_rfl) (by simp) ?_
            refine AllReadyH.cons rfl (fun K hK => ?_) AllReadyH.nil
            have f3 := (k_3).frozen
            have d3 := (k_3).cell
            go_simp
            have k_4 := (k_3).store
            refine hK.out _ _ trivial (fun hHeld => ?_)
            clear f3 d3
            clear hK K
            try simp only [Act.put, List.setIfInBounds_toArray, List.set_cons_zero, List.set_cons_succ]
            refine wpAnyH_done (by kernel_rfl) ?_ _
            refine NoPanic.normal ?_
            have HF : Hid (Wk w q0 _ _ (row - gone) (min col (n : Int)) e (szd (l.drop gone) n (k + 1)) _) := k_4
            go_wp2
            exact ⟨⟨k + 1, by omega, by go_num, _, fun h => by omega, HF⟩, by simp [intOf]; omega⟩
          · skip
            go_simp
            go_at_call 62
            refine (fitted_any t n _ h1 h2 ht9).mono ?_
            rintro e1 Y_1 ⟨rfl, hb_1⟩
            have k_1 := (hk0).up hb_1
            go_wp2_with fail
            refine hK.out _ _ trivial (fun hHeld => ?_)
            clear hb_1
            clear hK K
            try simp only [Act.put, List.setIfInBounds_toArray, List.set_cons_zero, List.set_cons_succ]
            refine wpAnyH_ready (rs := [1, 5]) (by kernel_rfl) (by simp) ?_
            refine AllReadyH.cons rfl (fun K hK => ?_) (AllReadyH.cons rfl (fun K hK => ?_) AllReadyH.nil)
            · skip
              have c0 := (k_1).cell
              go_simp
              refine hK.out _ _ trivial (fun hHeld => ?_)
              clear c0
              clear hK K
              try simp only [Act.put, List.setIfInBounds_toArray, List.set_cons_zero, List.set_cons_succ]
              refine wpAnyH_ready (rs := [5]) (by kernel_rfl) (by simp) ?_
              refine AllReadyH.cons rfl (fun K hK => ?_) AllReadyH.nil
              go_simp
              obtain ⟨Y_2, hY_2⟩ : ∃ X, X = Y_1.alloc (.cells #[.string (fitB t n)] 9) := ⟨_, rfl⟩
              obtain ⟨b_2, hb_2⟩ : ∃ b, b = Y_1.heap.size := ⟨_, rfl⟩
              have k_2 := (k_1).up ((Below.refl _ _).alloc (Nat.le_refl _) (.cells #[.string (fitB t n)] 9))
              have n_2 : (Y_1.alloc (.cells #[.string (fitB t n)] 9)).heap[Y_1.heap.size]? = some (.cells #[.string (fitB t n)] 9 (0, 0)) := heap_alloc_new _ _
              rw [← hY_2] at k_2 n_2
              rw [← hb_2] at n_2
              rw [← hY_2, ← hb_2]
              refine hK.out _ _ trivial (fun hHeld => ?_)
              clear hY_2 hb_2
              clear hK K
              try simp only [Act.put, List.setIfInBounds_toArray, List.set_cons_zero, List.set_cons_succ]
              refine wpAnyH_ready (rs := [6]) (by kernel_rfl) (by simp) ?_
              refine AllReadyH.cons rfl (fun K hK => ?_) AllReadyH.nil
              refine la.wp_append_first _ (.tmp 53) (.tmp 57) 22 rfl w.heap.size 9 i0 (.string ⟨#[]⟩) 1 16 Try.underlying22 hi hz0 hz1 hz2 rfl (by decide) (.slice p9 k c9) k ((szd (l.drop gone) n k).map Value.string) rfl (k_2).own' hnil ⟨b_2, 0, none⟩ 1 1 [.string (fitB t n)] rfl rfl (one_at n_2) (by simp [Value.oneCell']) (by unfold maxLen; omega) (by omega) (k_2).far' (fun v_3 Y_3 hA => ?_)
              have k_3 := (k_2).app (HTT.out ▸ hA)
              clear hA
              obtain ⟨p_3, c_3, hv_3⟩ := k_3.shape
              subst hv_3
              refine hK.out _ _ trivial (fun hHeld => ?_)
              clear hK K
              try simp only [Act.put, List.setIfInBounds_toArray, List.set_cons_zero, List.set_cons_succ]
              refine wpAnyH_take (i := 7) (oi := { dst := some 59, op := Op.fieldAddr 27 (Operand.tmp 10) 0, type := 0, pos := "l06_term.go:143", after := #[{ on := 0, ground := Ground.phase }, { on := 1, ground := Ground.phase }, { on := 2, ground := Ground.phase }, { on := 3, ground := Ground.phase }, { on := 4, ground := Ground.phase }, { on := 5, ground := Ground.phase }, { on := 6, ground := Ground.phase }], guard := none }) (v := ?_) rfl (by kernel_rfl) (by kernel_rfl) (by kernel_rfl) (fun _ _ _ h => h) (Or.inl ⟨by rfl, ?_⟩) hHeld ?_
              rotate_left
              · rintro w _; go_simp; (try with_reducible rfl)
              try simp only [Act.put, List.setIfInBounds_toArray, List.set_cons_zero, List.set_cons_succ]
              refine wpAnyH_ready (rs := [8]) (by kernel_rfl) (by simp) ?_
              refine AllReadyH.cons rfl (fun K hK => ?_) AllReadyH.nil
              have f3 := (k_3).frozen
              have d3 := (k_3).cell
              go_simp
              have k_4 := (k_3).store
              refine hK.out _ _ trivial (fun hHeld => ?_)
              clear f3 d3
              clear hK K
              try simp only [Act.put, List.setIfInBounds_toArray, List.set_cons_zero, List.set_cons_succ]
              refine wpAnyH_done (by kernel_rfl) ?_ _
              refine NoPanic.normal ?_
              have HF : Hid (Wk w q0 _ _ (row - gone) (min col (n : Int)) e (szd (l.drop gone) n (k + 1)) _) := k_4
              go_wp2
              exact ⟨⟨k + 1, by omega, by go_num, _, fun h => by omega, HF⟩, by simp [intOf]; omega⟩
            · skip
              go_simp
              obtain ⟨Y_2, hY_2⟩ : ∃ X, X = Y_1.alloc (.cells #[.string (fitB t n)] 9) := ⟨_, rfl⟩
              obtain ⟨b_2, hb_2⟩ : ∃ b, b = Y_1.heap.size := ⟨_, rfl⟩
              have k_2 := (k_1).up ((Below.refl _ _).alloc (Nat.le_refl _) (.cells #[.string (fitB t n)] 9))
              have n_2 : (Y_1.alloc (.cells #[.string (fitB t n)] 9)).heap[Y_1.heap.size]? = some (.cells #[.string (fitB t n)] 9 (0, 0)) := heap_alloc_new _ _
              rw [← hY_2] at k_2 n_2
              rw [← hb_2] at n_2
              rw [← hY_2, ← hb_2]
              refine hK.out _ _ trivial (fun hHeld => ?_)
              clear hY_2 hb_2
              clear hK K
              try simp only [Act.put, List.setIfInBounds_toArray, List.set_cons_zero, List.set_cons_succ]
              refine wpAnyH_ready (rs := [1]) (by kernel_rfl) (by simp) ?_
              refine AllReadyH.cons rfl (fun K hK => ?_) AllReadyH.nil
              have c0 := (k_2).cell
              go_simp
              refine hK.out _ _ trivial (fun hHeld => ?_)
              clear c0
              clear hK K
              try simp only [Act.put, List.setIfInBounds_toArray, List.set_cons_zero, List.set_cons_succ]
              refine wpAnyH_ready (rs := [6]) (by kernel_rfl) (by simp) ?_
              refine AllReadyH.cons rfl (fun K hK => ?_) AllReadyH.nil
              refine la.wp_append_first _ (.tmp 53) (.tmp 57) 22 rfl w.heap.size 9 i0 (.string ⟨#[]⟩) 1 16 Try.underlying22 hi hz0 hz1 hz2 rfl (by decide) (.slice p9 k c9) k ((szd (l.drop gone) n k).map Value.string) rfl (k_2).own' hnil ⟨b_2, 0, none⟩ 1 1 [.string (fitB t n)] rfl rfl (one_at n_2) (by simp [Value.oneCell']) (by unfold maxLen; omega) (by omega) (k_2).far' (fun v_3 Y_3 hA => ?_)
              have k_3 := (k_2).app (HTT.out ▸ hA)
              clear hA
              obtain ⟨p_3, c_3, hv_3⟩ := k_3.shape
              subst hv_3
              refine hK.out _ _ trivial (fun hHeld => ?_)
              clear hK K
              try simp only [Act.put, List.setIfInBounds_toArray, List.set_cons_zero, List.set_cons_succ]
              refine wpAnyH_take (i := 7) (oi := { dst := some 59, op := Op.fieldAddr 27 (Operand.tmp 10) 0, type := 0, pos := "l06_term.go:143", after := #[{ on := 0, ground := Ground.phase }, { on := 1, ground := Ground.phase }, { on := 2, ground := Ground.phase }, { on := 3, ground := Ground.phase }, { on := 4, ground := Ground.phase }, { on := 5, ground := Ground.phase }, { on := 6, ground := Ground.phase }], guard := none }) (v := ?_) rfl (by kernel_rfl) (by kernel_rfl) (by kernel_rfl) (fun _ _ _ h => h) (Or.inl ⟨by rfl, ?_⟩) hHeld ?_
              rotate_left
              · rintro w _; go_simp; (try with_reducible rfl)
              try simp only [Act.put, List.setIfInBounds_toArray, List.set_cons_zero, List.set_cons_succ]
              refine wpAnyH_ready (rs := [8]) (by kernel_rfl) (by simp) ?_
              refine AllReadyH.cons rfl (fun K hK => ?_) AllReadyH.nil
              have f3 := (k_3).frozen
              have d3 := (k_3).cell
              go_simp
              have k_4 := (k_3).store
              refine hK.out _ _ trivial (fun hHeld => ?_)
              clear f3 d3
              clear hK K
              try simp only [Act.put, List.setIfInBounds_toArray, List.set_cons_zero, List.set_cons_succ]
              refine wpAnyH_done (by kernel_rfl) ?_ _
              refine NoPanic.normal ?_
              have HF : Hid (Wk w q0 _ _ (row - gone) (min col (n : Int)) e (szd (l.drop gone) n (k + 1)) _) := k_4
              go_wp2
              exact ⟨⟨k + 1, by omega, by go_num, _, fun h => by omega, HF⟩, by simp [intOf]; omega⟩
        · have hkI : ¬ (k : Int) < ((l.length - gone : Nat) : Int) := by omega
          have hkI2 : ¬ (k : Int) < (l.length : Int) - (gone : Int) := by omega
          have ht0 : t = ⟨#[]⟩ := by rw [htt, List.getD_eq_getElem?_getD, List.getElem?_eq_none (by omega)]; rfl
          have HTT : Hid (t = (l.drop gone).getD k ⟨#[]⟩) := htt
          clear htt
          subst ht0
          go_wp2_with fail
          have hk0 := HW.out.drew
          clear HW HSL
          refine wp_region_noPanic ?_
          refine wp_region_held_drew (S := fun _ => True) (by kernel_rfl) trivial (fun hHeld => ?_)
          generalize wr.drew = Y0 at *
          refine wpAnyH_take (i := 0) (oi := { dst := some 52, op := Op.fieldAddr 27 (Operand.tmp 10) 0, type := 0, pos := "l06_term.go:143", after := #[], guard := none }) (v := ?_) rfl (by kernel_rfl) (by kernel_rfl) (by kernel_rfl) (fun _ _ _ h => h) (Or.inl ⟨by rfl, ?_⟩) hHeld ?_
          rotate_left
          · rintro w _; go_simp; (try with_reducible rfl)
          try simp only [Act.put, List.setIfInBounds_toArray, List.set_cons_zero, List.set_cons_succ]
          refine wpAnyH_take (i := 2) (oi := { dst := some 54, op := Op.move (Operand.tmp 12), type := 9, pos := "l06_term.go:143", after := #[], guard := none }) (v := ?_) rfl (by kernel_rfl) (by kernel_rfl) (by kernel_rfl) (fun _ _ _ h => h) (Or.inl ⟨by rfl, ?_⟩) hHeld ?_
          rotate_left
          · rintro w _; go_simp; (try with_reducible rfl)
          try simp only [Act.put, List.setIfInBounds_toArray, List.set_cons_zero, List.set_cons_succ]
          refine wpAnyH_take (i := 3) (oi := { dst := some 55, op := Op.move (Operand.tmp 1), type := 2, pos := "l06_term.go:143", after := #[], guard := none }) (v := ?_) rfl (by kernel_rfl) (by kernel_rfl) (by kernel_rfl) (fun _ _ _ h => h) (Or.inl ⟨by rfl, ?_⟩) hHeld ?_
          rotate_left
          · rintro w _; go_simp; (try with_reducible rfl)
          try simp only [Act.put, List.setIfInBounds_toArray, List.set_cons_zero, List.set_cons_succ]
          refine wpAnyH_ready (rs := [1, 4]) (by kernel_rfl) (by simp) ?_
          refine AllReadyH.cons rfl (fun K hK => ?_) (AllReadyH.cons rfl (fun K hK => ?_) AllReadyH.nil)
          · skip
            have c0 := (hk0).cell
            go_simp
            refine hK.out _ _ trivial (fun hHeld => ?_)
            clear c0
            clear hK K
            try simp only [Act.put, List.setIfInBounds_toArray, List.set_cons_zero, List.set_cons_succ]
            refine wpAnyH_ready (rs := [4]) (by kernel_rfl) (by simp) ?_
            refine AllReadyH.cons rfl (fun K hK => ?_) AllReadyH.nil
            go_simp
            go_at_call 62
            refine (fitted_any ⟨#[]⟩ n _ h1 h2 ht9).mono ?_
            rintro e1 Y_1 ⟨rfl, hb_1⟩
            have k_1 := (hk0).up hb_1
            go_wp2_with fail
            refine hK.out _ _ trivial (fun hHeld => ?_)
            clear hb_1
            clear hK K
            try simp only [Act.put, List.setIfInBounds_toArray, List.set_cons_zero, List.set_cons_succ]
            refine wpAnyH_ready (rs := [5]) (by kernel_rfl) (by simp) ?_
            refine AllReadyH.cons rfl (fun K hK => ?_) AllReadyH.nil
            go_simp
            obtain ⟨Y_2, hY_2⟩ : ∃ X, X = Y_1.alloc (.cells #[.string (fitB ⟨#[]⟩ n)] 9) := ⟨_, rfl⟩
            obtain ⟨b_2, hb_2⟩ : ∃ b, b = Y_1.heap.size := ⟨_, rfl⟩
            have k_2 := (k_1).up ((Below.refl _ _).alloc (Nat.le_refl _) (.cells #[.string (fitB ⟨#[]⟩ n)] 9))
            have n_2 : (Y_1.alloc (.cells #[.string (fitB ⟨#[]⟩ n)] 9)).heap[Y_1.heap.size]? = some (.cells #[.string (fitB ⟨#[]⟩ n)] 9 (0, 0)) := heap_alloc_new _ _
            rw [← hY_2] at k_2 n_2
            rw [← hb_2] at n_2
            rw [← hY_2, ← hb_2]
            refine hK.out _ _ trivial (fun hHeld => ?_)
            clear hY_2 hb_2
            clear hK K
            try simp only [Act.put, List.setIfInBounds_toArray, List.set_cons_zero, List.set_cons_succ]
            refine wpAnyH_ready (rs := [6]) (by kernel_rfl) (by simp) ?_
            refine AllReadyH.cons rfl (fun K hK => ?_) AllReadyH.nil
            refine la.wp_append_first _ (.tmp 53) (.tmp 57) 22 rfl w.heap.size 9 i0 (.string ⟨#[]⟩) 1 16 Try.underlying22 hi hz0 hz1 hz2 rfl (by decide) (.slice p9 k c9) k ((szd (l.drop gone) n k).map Value.string) rfl (k_2).own' hnil ⟨b_2, 0, none⟩ 1 1 [.string (fitB ⟨#[]⟩ n)] rfl rfl (one_at n_2) (by simp [Value.oneCell']) (by unfold maxLen; omega) (by omega) (k_2).far' (fun v_3 Y_3 hA => ?_)
            have k_3 := (k_2).app (HTT.out ▸ hA)
            clear hA
            obtain ⟨p_3, c_3, hv_3⟩ := k_3.shape
            subst hv_3
            refine hK.out _ _ trivial (fun hHeld => ?_)
            clear hK K
            try simp only [Act.put, List.setIfInBounds_toArray, List.set_cons_zero, List.set_cons_succ]
            refine wpAnyH_take (i := 7) (oi := { dst := some 59, op := Op.fieldAddr 27 (Operand.tmp 10) 0, type := 0, pos := "l06_term.go:143", after := #[{ on := 0, ground := Ground.phase }, { on := 1, ground := Ground.phase }, { on := 2, ground := Ground.phase }, { on := 3, ground := Ground.phase }, { on := 4, ground := Ground.phase }, { on := 5, ground := Ground.phase }, { on := 6, ground := Ground.phase }], guard := none }) (v := ?_) rfl (by kernel_rfl) (by kernel_rfl) (by kernel_rfl) (fun _ _ _ h => h) (Or.inl ⟨by rfl, ?_⟩) hHeld ?_
            rotate_left
            · rintro w _; go_simp; (try with_reducible rfl)
            try simp only [Act.put, List.setIfInBounds_toArray, List.set_cons_zero, List.set_cons_succ]
            refine wpAnyH_ready (rs := [8]) (by kernel_rfl) (by simp) ?_
            refine AllReadyH.cons rfl (fun K hK => ?_) AllReadyH.nil
            have f3 := (k_3).frozen
            have d3 := (k_3).cell
            go_simp
            have k_4 := (k_3).store
            refine hK.out _ _ trivial (fun hHeld => ?_)
            clear f3 d3
            clear hK K
            try simp only [Act.put, List.setIfInBounds_toArray, List.set_cons_zero, List.set_cons_succ]
            refine wpAnyH_done (by kernel_rfl) ?_ _
            refine NoPanic.normal ?_
            have HF : Hid (Wk w q0 _ _ (row - gone) (min col (n : Int)) e (szd (l.drop gone) n (k + 1)) _) := k_4
            go_wp2
            exact ⟨⟨k + 1, by omega, by go_num, _, fun h => by omega, HF⟩, by simp [intOf]; omega⟩
          · skip
            go_simp
            go_at_call 62
            refine (fitted_any ⟨#[]⟩ n _ h1 h2 ht9).mono ?_
            rintro e1 Y_1 ⟨rfl, hb_1⟩
            have k_1 := (hk0).up hb_1
            go_wp2_with fail
            refine hK.out _ _ trivial (fun hHeld => ?_)
            clear hb_1
            clear hK K
            try simp only [Act.put, List.setIfInBounds_toArray, List.set_cons_zero, List.set_cons_succ]
            refine wpAnyH_ready (rs := [1, 5]) (by kernel_rfl) (by simp) ?_
            refine AllReadyH.cons rfl (fun K hK => ?_) (AllReadyH.cons rfl (fun K hK => ?_) AllReadyH.nil)
            · skip
              have c0 := (k_1).cell
              go_simp
              refine hK.out _ _ trivial (fun hHeld => ?_)
              clear c0
              clear hK K
              try simp only [Act.put, List.setIfInBounds_toArray, List.set_cons_zero, List.set_cons_succ]
              refine wpAnyH_ready (rs := [5]) (by kernel_rfl) (by simp) ?_
              refine AllReadyH.cons rfl (fun K hK => ?_) AllReadyH.nil
              go_simp
              obtain ⟨Y_2, hY_2⟩ : ∃ X, X = Y_1.alloc (.cells #[.string (fitB ⟨#[]⟩ n)] 9) := ⟨_, rfl⟩
              obtain ⟨b_2, hb_2⟩ : ∃ b, b = Y_1.heap.size := ⟨_, rfl⟩
              have k_2 := (k_1).up ((Below.refl _ _).alloc (Nat.le_refl _) (.cells #[.string (fitB ⟨#[]⟩ n)] 9))
              have n_2 : (Y_1.alloc (.cells #[.string (fitB ⟨#[]⟩ n)] 9)).heap[Y_1.heap.size]? = some (.cells #[.string (fitB ⟨#[]⟩ n)] 9 (0, 0)) := heap_alloc_new _ _
              rw [← hY_2] at k_2 n_2
              rw [← hb_2] at n_2
              rw [← hY_2, ← hb_2]
              refine hK.out _ _ trivial (fun hHeld => ?_)
              clear hY_2 hb_2
              clear hK K
              try simp only [Act.put, List.setIfInBounds_toArray, List.set_cons_zero, List.set_cons_succ]
              refine wpAnyH_ready (rs := [6]) (by kernel_rfl) (by simp) ?_
              refine AllReadyH.cons rfl (fun K hK => ?_) AllReadyH.nil
              refine la.wp_append_first _ (.tmp 53) (.tmp 57) 22 rfl w.heap.size 9 i0 (.string ⟨#[]⟩) 1 16 Try.underlying22 hi hz0 hz1 hz2 rfl (by decide) (.slice p9 k c9) k ((szd (l.drop gone) n k).map Value.string) rfl (k_2).own' hnil ⟨b_2, 0, none⟩ 1 1 [.string (fitB ⟨#[]⟩ n)] rfl rfl (one_at n_2) (by simp [Value.oneCell']) (by unfold maxLen; omega) (by omega) (k_2).far' (fun v_3 Y_3 hA => ?_)
              have k_3 := (k_2).app (HTT.out ▸ hA)
              clear hA
              obtain ⟨p_3, c_3, hv_3⟩ := k_3.shape
              subst hv_3
              refine hK.out _ _ trivial (fun hHeld => ?_)
              clear hK K
              try simp only [Act.put, List.setIfInBounds_toArray, List.set_cons_zero, List.set_cons_succ]
              refine wpAnyH_take (i := 7) (oi := { dst := some 59, op := Op.fieldAddr 27 (Operand.tmp 10) 0, type := 0, pos := "l06_term.go:143", after := #[{ on := 0, ground := Ground.phase }, { on := 1, ground := Ground.phase }, { on := 2, ground := Ground.phase }, { on := 3, ground := Ground.phase }, { on := 4, ground := Ground.phase }, { on := 5, ground := Ground.phase }, { on := 6, ground := Ground.phase }], guard := none }) (v := ?_) rfl (by kernel_rfl) (by kernel_rfl) (by kernel_rfl) (fun _ _ _ h => h) (Or.inl ⟨by rfl, ?_⟩) hHeld ?_
              rotate_left
              · rintro w _; go_simp; (try with_reducible rfl)
              try simp only [Act.put, List.setIfInBounds_toArray, List.set_cons_zero, List.set_cons_succ]
              refine wpAnyH_ready (rs := [8]) (by kernel_rfl) (by simp) ?_
              refine AllReadyH.cons rfl (fun K hK => ?_) AllReadyH.nil
              have f3 := (k_3).frozen
              have d3 := (k_3).cell
              go_simp
              have k_4 := (k_3).store
              refine hK.out _ _ trivial (fun hHeld => ?_)
              clear f3 d3
              clear hK K
              try simp only [Act.put, List.setIfInBounds_toArray, List.set_cons_zero, List.set_cons_succ]
              refine wpAnyH_done (by kernel_rfl) ?_ _
              refine NoPanic.normal ?_
              have HF : Hid (Wk w q0 _ _ (row - gone) (min col (n : Int)) e (szd (l.drop gone) n (k + 1)) _) := k_4
              go_wp2
              exact ⟨⟨k + 1, by omega, by go_num, _, fun h => by omega, HF⟩, by simp [intOf]; omega⟩
            · skip
              go_simp
              obtain ⟨Y_2, hY_2⟩ : ∃ X, X = Y_1.alloc (.cells #[.string (fitB ⟨#[]⟩ n)] 9) := ⟨_, rfl⟩
              obtain ⟨b_2, hb_2⟩ : ∃ b, b = Y_1.heap.size := ⟨_, rfl⟩
              have k_2 := (k_1).up ((Below.refl _ _).alloc (Nat.le_refl _) (.cells #[.string (fitB ⟨#[]⟩ n)] 9))
              have n_2 : (Y_1.alloc (.cells #[.string (fitB ⟨#[]⟩ n)] 9)).heap[Y_1.heap.size]? = some (.cells #[.string (fitB ⟨#[]⟩ n)] 9 (0, 0)) := heap_alloc_new _ _
              rw [← hY_2] at k_2 n_2
              rw [← hb_2] at n_2
              rw [← hY_2, ← hb_2]
              refine hK.out _ _ trivial (fun hHeld => ?_)
              clear hY_2 hb_2
              clear hK K
              try simp only [Act.put, List.setIfInBounds_toArray, List.set_cons_zero, List.set_cons_succ]
              refine wpAnyH_ready (rs := [1]) (by kernel_rfl) (by simp) ?_
              refine AllReadyH.cons rfl (fun K hK => ?_) AllReadyH.nil
              have c0 := (k_2).cell
              go_simp
              refine hK.out _ _ trivial (fun hHeld => ?_)
              clear c0
              clear hK K
              try simp only [Act.put, List.setIfInBounds_toArray, List.set_cons_zero, List.set_cons_succ]
              refine wpAnyH_ready (rs := [6]) (by kernel_rfl) (by simp) ?_
              refine AllReadyH.cons rfl (fun K hK => ?_) AllReadyH.nil
              refine la.wp_append_first _ (.tmp 53) (.tmp 57) 22 rfl w.heap.size 9 i0 (.string ⟨#[]⟩) 1 16 Try.underlying22 hi hz0 hz1 hz2 rfl (by decide) (.slice p9 k c9) k ((szd (l.drop gone) n k).map Value.string) rfl (k_2).own' hnil ⟨b_2, 0, none⟩ 1 1 [.string (fitB ⟨#[]⟩ n)] rfl rfl (one_at n_2) (by simp [Value.oneCell']) (by unfold maxLen; omega) (by omega) (k_2).far' (fun v_3 Y_3 hA => ?_)
              have k_3 := (k_2).app (HTT.out ▸ hA)
              clear hA
              obtain ⟨p_3, c_3, hv_3⟩ := k_3.shape
              subst hv_3
              refine hK.out _ _ trivial (fun hHeld => ?_)
              clear hK K
              try simp only [Act.put, List.setIfInBounds_toArray, List.set_cons_zero, List.set_cons_succ]
              refine wpAnyH_take (i := 7) (oi := { dst := some 59, op := Op.fieldAddr 27 (Operand.tmp 10) 0, type := 0, pos := "l06_term.go:143", after := #[{ on := 0, ground := Ground.phase }, { on := 1, ground := Ground.phase }, { on := 2, ground := Ground.phase }, { on := 3, ground := Ground.phase }, { on := 4, ground := Ground.phase }, { on := 5, ground := Ground.phase }, { on := 6, ground := Ground.phase }], guard := none }) (v := ?_) rfl (by kernel_rfl) (by kernel_rfl) (by kernel_rfl) (fun _ _ _ h => h) (Or.inl ⟨by rfl, ?_⟩) hHeld ?_
              rotate_left
              · rintro w _; go_simp; (try with_reducible rfl)
              try simp only [Act.put, List.setIfInBounds_toArray, List.set_cons_zero, List.set_cons_succ]
              refine wpAnyH_ready (rs := [8]) (by kernel_rfl) (by simp) ?_
              refine AllReadyH.cons rfl (fun K hK => ?_) AllReadyH.nil
              have f3 := (k_3).frozen
              have d3 := (k_3).cell
              go_simp
              have k_4 := (k_3).store
              refine hK.out _ _ trivial (fun hHeld => ?_)
              clear f3 d3
              clear hK K
              try simp only [Act.put, List.setIfInBounds_toArray, List.set_cons_zero, List.set_cons_succ]
              refine wpAnyH_done (by kernel_rfl) ?_ _
              refine NoPanic.normal ?_
              have HF : Hid (Wk w q0 _ _ (row - gone) (min col (n : Int)) e (szd (l.drop gone) n (k + 1)) _) := k_4
              go_wp2
              exact ⟨⟨k + 1, by omega, by go_num, _, fun h => by omega, HF⟩, by simp [intOf]; omega⟩
      · obtain rfl : k = high := by omega
        have hO := HW.out.one.row
        have hR := HW.out.one.res
        have hfar := HW.out.one.far
        have o0 : wr.cell? ⟨q0, 0, none⟩ = some (.slice p9 k c9) := by simp [World.cell?, hO]
        have o1 : wr.cell? ⟨q0, 1, none⟩ = some (.int .i64 (row - gone)) := by simp [World.cell?, hO]
        have o2 : wr.cell? ⟨q0, 2, none⟩ = some (.int .i64 (min col (n : Int))) := by simp [World.cell?, hO]
        have o3 : wr.cell? ⟨q0, 3, none⟩ = some (.string e) := by simp [World.cell?, hO]
        have r0 : wr.cell? ⟨w.heap.size + 1, 0, none⟩ = some (.slice none 0 0) := by simp [World.cell?, hR]
        have r1 : wr.cell? ⟨w.heap.size + 1, 1, none⟩ = some (.int .i64 0) := by simp [World.cell?, hR]
        have r2 : wr.cell? ⟨w.heap.size + 1, 2, none⟩ = some (.int .i64 0) := by simp [World.cell?, hR]
        have r3 : wr.cell? ⟨w.heap.size + 1, 3, none⟩ = some (.string ⟨#[]⟩) := by simp [World.cell?, hR]
        have g0 : ∀ k, wr.frozen? ⟨w.heap.size + 1, k, none⟩ = false := fun k => frozen_of_row _ _ _ _ _ hR
        have HRes : Hid (((((wr.setCell ⟨w.heap.size + 1, 0, none⟩ (.slice p9 k c9)).setCell ⟨w.heap.size + 1, 1, none⟩ (.int .i64 (row - gone))).setCell ⟨w.heap.size + 1, 2, none⟩ (.int .i64 (min col (n : Int)))).setCell ⟨w.heap.size + 1, 3, none⟩ (.string e)).heap[w.heap.size + 1]? = some (.cells #[.slice p9 k c9, .int .i64 (row - gone), .int .i64 (min col (n : Int)), .string e] 27 (0, 0))) := by
          show _ = _
          rw [heap_setCell_same _ _ _ _ _ _ (heap_setCell_same _ _ _ _ _ _ (heap_setCell_same _ _ _ _ _ _ (heap_setCell_same _ _ _ _ _ _ hR)))]
          rfl
        have HB2 : Hid (Below w.heap.size w ((((wr.setCell ⟨w.heap.size + 1, 0, none⟩ (.slice p9 k c9)).setCell ⟨w.heap.size + 1, 1, none⟩ (.int .i64 (row - gone))).setCell ⟨w.heap.size + 1, 2, none⟩ (.int .i64 (min col (n : Int)))).setCell ⟨w.heap.size + 1, 3, none⟩ (.string e))) := (((HW.out.one.bel.setCell (by simp) _).setCell (by simp) _).setCell (by simp) _).setCell (by simp) _
        have HOw : Hid (OwT w.heap.size (.slice p9 k c9) (szd (l.drop gone) n k) ((((wr.setCell ⟨w.heap.size + 1, 0, none⟩ (.slice p9 k c9)).setCell ⟨w.heap.size + 1, 1, none⟩ (.int .i64 (row - gone))).setCell ⟨w.heap.size + 1, 2, none⟩ (.int .i64 (min col (n : Int)))).setCell ⟨w.heap.size + 1, 3, none⟩ (.string e))) := by
          have hne := own_other HW.out.own hR
          exact World.ownsRow.kept HW.out.own (row := some (w.heap.size + 1)) ⟨rfl, rfl, rfl, by simp [World.setCell], fun b _ hb => by
            rw [heap_setCell_other _ _ _ _ (fun e => hb (by simp [e])), heap_setCell_other _ _ _ _ (fun e => hb (by simp [e])), heap_setCell_other _ _ _ _ (fun e => hb (by simp [e])), heap_setCell_other _ _ _ _ (fun e => hb (by simp [e]))]⟩ (.inr hne)
        clear HW hO hR HSL HZR
        go_wp2
        exact bodyPost_ret (results_cell_row Try.results45 _ _ (w.heap.size + 1) _ #[.slice p9 k c9, .int .i64 (row - gone), .int .i64 (min col (n : Int)), .string e] _ _ rfl HRes.out Try.underlying27 rfl infoZ) rfl ⟨_, rfl, HOw.out, HB2.out⟩
end Go.Proofs.Ytikkohecanmefaa.sc
