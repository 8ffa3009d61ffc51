/-
  The model's LogRead by a plain function, its records in a slice of its own; no old block turns. No condition.
-/
import Derived.Test.YtcfekhahibklfaaDoorLogM2
import Derived.Test.YtcfekhahibklfaaDoorMg3
import Derived.Laws.AppendOwnNone
import Derived.Maps.AppendAt
import Derived.OwnWalk
import Derived.Deep.Cut
namespace Go.Proofs.YtcfekhahibklfaaDoor.lm
open Go.ChangeShapes Go.WideShapes Go.ChangeAt Go.RowKit
open Go.Proofs.YtcfekhahibklfaaDoor.wi (heap_lt calls_w wp_w)
open Go.Proofs.YtcfekhahibklfaaDoor.lg Go.Proofs.YtcfekhahibklfaaDoor.ss
open Go.Proofs.YtcfekhahibklfaaDoor.tp (textV)
open Go.Proofs.YtcfekhahibklfaaDoor.sh (macB macB_size macM_any)
set_option linter.unusedVariables false

/-- the answer's block, still empty, the block of what has been read, and the records' slice -/
structure InR (w : World) (vo : Value) (i : Int) (v : Value) (l : List ByteArray) (u : World) : Prop where
  below : Below w.heap.size w u
  res : u.heap[w.heap.size]? = some (.cells #[.slice none 0 0, .int .i64 0, .int .i64 0] 36 (0, 0))
  out : u.heap[w.heap.size + 1]? = some (.cells #[vo, .int .i64 i, .int .i64 0] 36 (0, 0))
  row : u.ownsRow (w.heap.size + 2) 9 1 v l.length (l.map Value.string)
theorem grown_of_below {u u' : World} (hb : Below u.heap.size u u') : u.grownBy u' none := ⟨hb.os, hb.tape, hb.output, hb.size, fun i hi _ => hb.block i hi⟩
theorem row_up {u u' : World} {base : Nat} {e : TypeId} {v : Value} {n : Nat} {xs : List Value} (h : u.ownsRow base e 1 v n xs) (hb : Below u.heap.size u u') : u'.ownsRow base e 1 v n xs := h.kept (grown_of_below hb) (by cases hv : v.ownBlock <;> simp)
theorem row_block {u : World} {base : Nat} {e : TypeId} {v : Value} {n : Nat} {xs : List Value} (h : u.ownsRow base e 1 v n xs) : ∀ k, v.ownBlock = some k → base ≤ k ∧ ∃ cur, u.heap[k]? = some (.cells cur e (0, 0)) := by
  intro k hk
  rcases h.2 with ⟨rfl, _⟩ | ⟨g, cap, cur, rfl, hb, hg, _⟩
  · simp [Value.ownBlock] at hk
  · simp [Value.ownBlock] at hk
    subst hk
    exact ⟨hb, cur, hg⟩
theorem grownBy_setCell {u w : World} {g k : Nat} {v : Value} (h : w.grownBy u (some g)) : w.grownBy (u.setCell ⟨g, k, none⟩ v) (some g) :=
  ⟨h.os, h.tape, h.output, by have := h.size; simpa [World.setCell] using this, fun j hj hne => (heap_setCell_other _ _ _ _ (fun hh => hne (by rw [hh]))).trans (h.block j hj hne)⟩
theorem row_set {u : World} {base g k : Nat} {e : TypeId} {v z : Value} {n : Nat} {xs : List Value} (h : u.ownsRow base e 1 v n xs) (hg : g < base) : (u.setCell ⟨g, k, none⟩ z).ownsRow base e 1 v n xs :=
  h.kept (grownBy_setCell ⟨rfl, rfl, rfl, Nat.le_refl _, fun _ _ _ => rfl⟩) (by
    cases hv : v.ownBlock with
    | none => exact .inl rfl
    | some k => exact .inr (by intro e; have := (row_block h k hv).1; injection e; omega))
theorem InR.start (w : World) : InR w (.slice none 0 0) 0 (.slice none 0 0) [] ((w.alloc (.cells #[.slice none 0 0, .int .i64 0, .int .i64 0] 36)).alloc (.cells #[.slice none 0 0, .int .i64 0, .int .i64 0] 36)) := by
  refine ⟨((Below.refl _ _).alloc (Nat.le_refl _) _).alloc (by simp) _, ?_, ?_, rfl, .inl ⟨rfl, rfl⟩⟩
  · exact (Below.heap_alloc _ _ _ (by simp)).trans (heap_alloc_new _ _)
  · simpa using heap_alloc_new (w.alloc (.cells #[.slice none 0 0, .int .i64 0, .int .i64 0] 36)) (.cells #[.slice none 0 0, .int .i64 0, .int .i64 0] 36)
theorem InR.up {w u u' : World} {vo v : Value} {i : Int} {l : List ByteArray} (h : InR w vo i v l u) (hb : Below u.heap.size u u') : InR w vo i v l u' :=
  ⟨h.below.trans (hb.mono h.below.size), (hb.block _ (heap_lt h.res)).trans h.res, (hb.block _ (heap_lt h.out)).trans h.out, row_up h.row hb⟩
theorem InR.cells {w u : World} {vo v : Value} {i : Int} {l : List ByteArray} (h : InR w vo i v l u) : (u.cell? ⟨w.heap.size + 1, 0, none⟩ = some vo ∧ u.cell? ⟨w.heap.size + 1, 1, none⟩ = some (.int .i64 i) ∧ u.cell? ⟨w.heap.size + 1, 2, none⟩ = some (.int .i64 0)) ∧ u.frozen? ⟨w.heap.size + 1, 0, none⟩ = false ∧ u.frozen? ⟨w.heap.size + 1, 1, none⟩ = false ∧ u.frozen? ⟨w.heap.size + 1, 2, none⟩ = false := by
  refine ⟨⟨?_, ?_, ?_⟩, frozen_of_row _ _ _ _ _ h.out, frozen_of_row _ _ _ _ _ h.out, frozen_of_row _ _ _ _ _ h.out⟩ <;> simp [World.cell?, h.out]
theorem row_shape {u : World} {base : Nat} {e : TypeId} {v : Value} {l : List ByteArray} (h : u.ownsRow base e 1 v l.length (l.map Value.string)) : ∃ p cap, v = .slice p l.length cap := by
  obtain ⟨_, h1 | ⟨g, cap, cur, hv, _⟩⟩ := h
  · exact ⟨none, 0, by rw [h1.1, h1.2]⟩
  · exact ⟨_, _, hv⟩
theorem row_shape3 {u : World} {base : Nat} {e : TypeId} {v : Value} {l : List ByteArray} (h : u.ownsRow base e 1 v l.length (l.map Value.string)) : ∃ p n cap, v = .slice p n cap := by
  obtain ⟨p, cap, hv⟩ := row_shape h
  exact ⟨_, _, _, hv⟩
theorem InR.lt {w u : World} {vo v : Value} {i : Int} {l : List ByteArray} (h : InR w vo i v l u) : w.heap.size + 1 < u.heap.size := heap_lt h.out
theorem InR.set0 {w u : World} {vo v : Value} {i : Int} {l : List ByteArray} (h : InR w vo i v l u) (z : Value) : InR w z i v l (u.setCell ⟨w.heap.size + 1, 0, none⟩ z) := by
  refine ⟨h.below.setCell (by simp) _, ?_, heap_setCell_same _ _ _ _ _ _ h.out, row_set h.row (by omega)⟩
  rw [heap_setCell_other _ _ _ _ (by simp)]; exact h.res
theorem InR.set1 {w u : World} {vo v : Value} {i : Int} {l : List ByteArray} (h : InR w vo i v l u) (j : Int) : InR w vo j v l (u.setCell ⟨w.heap.size + 1, 1, none⟩ (.int .i64 j)) := by
  refine ⟨h.below.setCell (by simp) _, ?_, heap_setCell_same _ _ _ _ _ _ h.out, row_set h.row (by omega)⟩
  rw [heap_setCell_other _ _ _ _ (by simp)]; exact h.res
/-- and the block of the text that is read -/
structure InX (w : World) (vo : Value) (i : Int) (v : Value) (l : List ByteArray) (g : Nat) (x : ByteArray) (j c : Int) (u : World) : Prop where
  inr : InR w vo i v l u
  blk : u.heap[g]? = some (.cells #[.string x, .int .i64 j, .int .i64 c] 75 (0, 0))
  base : w.heap.size + 2 ≤ g
theorem InR.toX {w u : World} {vo v : Value} {i : Int} {l : List ByteArray} (h : InR w vo i v l u) (x : ByteArray) (j c : Int) : InX w vo i v l u.heap.size x j c (u.alloc (.cells #[.string x, .int .i64 j, .int .i64 c] 75)) :=
  ⟨h.up ((Below.refl _ _).alloc (Nat.le_refl _) _), heap_alloc_new _ _, h.lt⟩
theorem InX.up {w u u' : World} {vo v : Value} {i j c : Int} {l : List ByteArray} {g : Nat} {x : ByteArray} (h : InX w vo i v l g x j c u) (hb : Below u.heap.size u u') : InX w vo i v l g x j c u' := ⟨h.inr.up hb, (hb.block _ (heap_lt h.blk)).trans h.blk, h.base⟩
theorem InX.cells {w u : World} {vo v : Value} {i j c : Int} {l : List ByteArray} {g : Nat} {x : ByteArray} (h : InX w vo i v l g x j c u) : u.cell? ⟨g, 0, none⟩ = some (.string x) ∧ u.cell? ⟨g, 1, none⟩ = some (.int .i64 j) ∧ u.cell? ⟨g, 2, none⟩ = some (.int .i64 c) := by
  refine ⟨?_, ?_, ?_⟩ <;> simp [World.cell?, h.blk]
theorem string_not_out : (9 : TypeId) ≠ 75 := by decide
/-- one record more -/
theorem InX.app {w u u' : World} {vo v v' : Value} {i j c : Int} {l : List ByteArray} {g : Nat} {x : ByteArray} (h : InX w vo i v l g x j c u) (hgr : u.grownBy u' v.ownBlock) (hown : u'.ownsRow (w.heap.size + 2) 9 1 v' (l.length + 1) (l.map Value.string ++ [.string x])) : InX w vo i v' (l ++ [x]) g x j c u' := by
  have hk : ∀ k, v.ownBlock = some k → w.heap.size + 2 ≤ k ∧ k ≠ g := fun k hk => by
    obtain ⟨h1, cur, h2⟩ := row_block h.inr.row k hk
    refine ⟨h1, fun e => ?_⟩
    rw [e, h.blk] at h2
    simp at h2
  have hb : ∀ q, q < u.heap.size → (q < w.heap.size + 2 ∨ q = g) → u'.heap[q]? = u.heap[q]? := fun q hq h' => hgr.block q hq (by
    intro e
    have := hk q e.symm
    omega)
  refine ⟨⟨h.inr.below.grown hgr h.inr.below.size (fun k hk' => by have := (hk k hk').1; omega), ?_, ?_, ?_⟩, ?_, h.base⟩
  · rw [hb _ (heap_lt h.inr.res) (by omega)]; exact h.inr.res
  · rw [hb _ (heap_lt h.inr.out) (by omega)]; exact h.inr.out
  · rw [List.length_append, List.map_append]; exact hown
  · rw [hb _ (heap_lt h.blk) (.inr rfl)]; exact h.blk
theorem InX.set0 {w u : World} {vo v : Value} {i j c : Int} {l : List ByteArray} {g : Nat} {x : ByteArray} (h : InX w vo i v l g x j c u) (z : Value) : InX w z i v l g x j c (u.setCell ⟨w.heap.size + 1, 0, none⟩ z) :=
  ⟨h.inr.set0 z, by rw [heap_setCell_other _ _ _ _ (by have := h.base; simp; omega)]; exact h.blk, h.base⟩
/-- how long the slice is that lies there -/
def lenAt (u : World) (a : Addr) : Nat := match u.cell? a with
  | some (.slice _ n _) => n
  | _ => 0
theorem InR.len {w u : World} {v : Value} {i : Int} {l : List ByteArray} (h : InR w v i v l u) : lenAt u ⟨w.heap.size + 1, 0, none⟩ = l.length := by
  obtain ⟨p, cap, hv⟩ := row_shape h.row
  unfold lenAt
  rw [h.cells.1.1, hv]

theorem row_le {u : World} {base base' : Nat} {e : TypeId} {v : Value} {n : Nat} {xs : List Value} (h : u.ownsRow base e 1 v n xs) (hb : base' ≤ base) : u.ownsRow base' e 1 v n xs := by
  refine ⟨h.1, ?_⟩
  rcases h.2 with h' | ⟨g, cap, cur, h1, h2, h3⟩
  · exact .inl h'
  · exact .inr ⟨g, cap, cur, h1, Nat.le_trans hb h2, h3⟩
theorem infoR : (Tryd.prog.info? 36).map (·.size) = some 3 := by kernel_rfl
theorem InR.rcells {w u : World} {vo v : Value} {i : Int} {l : List ByteArray} (h : InR w vo i v l u) : (u.cell? ⟨w.heap.size, 0, none⟩ = some (.slice none 0 0) ∧ u.cell? ⟨w.heap.size, 1, none⟩ = some (.int .i64 0) ∧ u.cell? ⟨w.heap.size, 2, none⟩ = some (.int .i64 0)) ∧ u.frozen? ⟨w.heap.size, 0, none⟩ = false ∧ u.frozen? ⟨w.heap.size, 1, none⟩ = false ∧ u.frozen? ⟨w.heap.size, 2, none⟩ = false := by
  refine ⟨⟨?_, ?_, ?_⟩, frozen_of_row _ _ _ _ _ h.res, frozen_of_row _ _ _ _ _ h.res, frozen_of_row _ _ _ _ _ h.res⟩ <;> simp [World.cell?, h.res]
/-- the answer is filled -/
theorem InR.fin {w u : World} {vo v : Value} {i : Int} {l : List ByteArray} (h : InR w vo i v l u) (a b c : Value) : (((u.setCell ⟨w.heap.size, 0, none⟩ a).setCell ⟨w.heap.size, 1, none⟩ b).setCell ⟨w.heap.size, 2, none⟩ c).heap[w.heap.size]? = some (.cells #[a, b, c] 36 (0, 0)) ∧ Below w.heap.size w (((u.setCell ⟨w.heap.size, 0, none⟩ a).setCell ⟨w.heap.size, 1, none⟩ b).setCell ⟨w.heap.size, 2, none⟩ c) ∧ (((u.setCell ⟨w.heap.size, 0, none⟩ a).setCell ⟨w.heap.size, 1, none⟩ b).setCell ⟨w.heap.size, 2, none⟩ c).ownsRow w.heap.size 9 1 v l.length (l.map Value.string) :=
  ⟨heap_setCell_same _ _ _ _ _ _ (heap_setCell_same _ _ _ _ _ _ (heap_setCell_same u _ _ _ _ _ h.res)), ((h.below.setCell (Nat.le_refl _) _).setCell (Nat.le_refl _) _).setCell (Nat.le_refl _) _, row_le (row_set (row_set (row_set h.row (by omega)) (by omega)) (by omega)) (by omega)⟩
theorem textV_bad {s : ByteArray} {i : Int} (h : ¬ (textV s i).2.2 = 0) : (textV s i).1 = ⟨#[]⟩ := by
  unfold textV at h ⊢
  split
  · rfl
  · split
    · rfl
    · split
      · rfl
      · rename_i h1 h2 h3
        rw [if_neg h1, if_neg h2, if_neg h3] at h
        exact absurd rfl h
/-- what is known at the head of the loop -/
structure AtR (w : World) (key text : ByteArray) (v : Value) (l : List ByteArray) (i : Int) (c : ByteArray) (u : World) : Prop where
  inr : InR w v i v l u
  i0 : 0 ≤ i
  i1 : i ≤ text.size
  c32 : c.size = 32
  len : l.length ≤ 60
  told : readL macB key text = (l ++ (readF macB key text (60 - l.length) c i).1, (readF macB key text (60 - l.length) c i).2)
theorem cell_one (w : World) (x : Value) (t : TypeId) : ∀ (j : Nat) (u : Value), [x][j]? = some u → (w.alloc (.cells #[x] t)).cell? ((⟨w.heap.size, 0, none⟩ : Addr).add j) = some u := cell_one_new w x t
set_option maxRecDepth 20000 in
set_option maxHeartbeats 8000000 in
theorem readM_yes (key text : ByteArray) (w : World) (hk : KeyL key) (ht : text.size ≤ 8000) :
    Calls Tryd.prog 15 #[.string key, .string text] w fun r w' => ∃ v, r = .returned (.agg #[v, .int .i64 (readL macB key text).2, .int .i64 0]) ∧ Below w.heap.size w w' ∧ w'.ownsRow w.heap.size 9 1 v (readL macB key text).1.length ((readL macB key text).1.map Value.string) := by
  obtain ⟨i0, hi, hz0, hz1, hz2⟩ := info_parts infoS
  have hk2 : key.size ≤ 64 := hk.2
  have HK : Hid (∀ u, Calls Tryd.prog 47 #[.string key] u fun e w' => e = .returned (.bool true) ∧ w' = u) := fun u => keyM_yes key u hk
  obtain ⟨c0, hc0⟩ : ∃ c0, c0 = chainS macB key := ⟨_, rfl⟩
  have HS : Hid (∀ u, Calls Tryd.prog 19 #[.string key] u fun r w' => r = .returned (.string c0) ∧ Below u.heap.size u w') := fun u => by rw [hc0]; exact startM_any key u (Nat.le_trans hk2 (by decide))
  have HA0 : Hid (∀ u, InR w (.slice none 0 0) 0 (.slice none 0 0) [] u → AtR w key text (.slice none 0 0) [] 0 c0 u) := fun u h => ⟨h, by omega, by omega, by rw [hc0]; exact chainS_size macB_32 hk, by simp, by rw [hc0]; rfl⟩
  have d1 : decide (8000 < (key.size : Int)) = false := decide_eq_false (by omega)
  have d2 : decide (8000 < (text.size : Int)) = false := decide_eq_false (by omega)
  clear hc0
  go_enter Tryd.func15, Tryd.ntmps15
  go_wp2_with (first | (go_at_call 47; (with_reducible refine (HK.out _).mono ?_); rintro r w' ⟨rfl, hw'⟩; obtain rfl := hw'.symm) | (go_at_call 19; fail))
  refine calls_w (InR w (.slice none 0 0) 0 (.slice none 0 0) []) (InR.start w) ?_
  intro u hI
  refine (HS.out u).mono ?_
  rintro r w1 ⟨rfl, hb1⟩
  have HA1 : Hid (AtR w key text (.slice none 0 0) [] 0 c0 w1) := HA0.out _ (hI.up hb1)
  clear hb1 HS HK u hI HA0
  go_wp2
  go_loopw [6] (fun cv u => ∃ c v l i, cv = .string c ∧ Hid (AtR w key text v l i c u)) (fun _ u => 60 - lenAt u ⟨w.heap.size + 1, 0, none⟩)
  case atStart => exact ⟨_, _, _, _, rfl, HA1⟩
  case round =>
    clear HA1
    obtain ⟨c, v, l, i, rfl, HA⟩ := hrel
    obtain ⟨hI, hi0, hi1, hc, hl, htold⟩ := HA.out
    clear HA
    have HLen : Hid (lenAt wr ⟨w.heap.size + 1, 0, none⟩ = l.length) := hI.len
    obtain ⟨p, cap, rfl⟩ := row_shape hI.row
    obtain ⟨X, J, C, hT⟩ : ∃ X J C, textV text i = (X, J, C) := ⟨_, _, _, rfl⟩
    have HG : Hid (∀ u, Calls Tryd.prog 48 #[.string text, .int .i64 i] u fun e w' => e = .returned (.agg #[.string X, .int .i64 J, .int .i64 C]) ∧ Below u.heap.size u w') := fun u => by
      have := ts.spec_out text i u (Nat.le_trans ht (by decide)) (by simp [Lit.wf, IntKind.min, IntKind.max, IntKind.signed, IntKind.bits]; omega)
      rwa [hT] at this
    have hN : NextL macB key text c i ↔ C = 0 ∧ X.size ≤ 200 ∧ J + 8 ≤ (text.size : Int) ∧ text.extract J.toNat (J + 8).toNat = (chainN macB key c X).extract 0 8 := by
      unfold NextL; rw [hT]
    have HStop : Hid (¬ (C = 0 ∧ X.size ≤ 200 ∧ J + 8 ≤ (text.size : Int) ∧ text.extract J.toNat (J + 8).toNat = (chainN macB key c X).extract 0 8) → readL macB key text = (l, i)) := fun h => by
      rw [readF_stop (fun h' => h (hN.1 h')), List.append_nil] at htold
      exact htold
    have HGo : Hid (l.length < 60 → C = 0 ∧ X.size ≤ 200 ∧ J + 8 ≤ (text.size : Int) ∧ text.extract J.toNat (J + 8).toNat = (chainN macB key c X).extract 0 8 → readL macB key text = ((l ++ [X]) ++ (readF macB key text (60 - (l ++ [X]).length) (chainN macB key c X) (J + 8)).1, (readF macB key text (60 - (l ++ [X]).length) (chainN macB key c X) (J + 8)).2)) := fun h1 h => by
      rw [show 60 - l.length = (60 - (l ++ [X]).length) + 1 by simp; omega, readF_go (hN.2 h), hT] at htold
      rw [htold, List.append_assoc]; rfl
    have HEnd : Hid (¬ l.length < 60 → readL macB key text = (l, i)) := fun h => by
      rw [show 60 - l.length = 0 by omega] at htold
      rw [htold]; simp [readF]
    have HJ : Hid (C = 0 → 0 ≤ J ∧ J ≤ text.size) := fun h => by
      have := textV_range (s := text) (i := i) (by rw [hT]; exact h)
      rw [hT] at this
      exact ⟨this.1, this.2.1⟩
    have hXs : X.size ≤ 8000 := by
      have : (textV text i).1.size ≤ 8000 := by
        by_cases h : (textV text i).2.2 = 0
        · have := (textV_range h).2.2; omega
        · rw [show (textV text i).1 = ⟨#[]⟩ from textV_bad h]; exact Nat.zero_le _
      rwa [hT] at this
    clear htold hN hT
    by_cases hlt : l.length < 60
    · have d60 : decide ((l.length : Int) < 60) = true := decide_eq_true (by omega)
      obtain ⟨⟨x0, x1, x2⟩, f0, f1, f2⟩ := hI.cells
      go_upto_region 9 with (go_at_call 48; (refine (HG.out _).mono ?_); rintro r w2 ⟨rfl, hb2⟩)
      refine wp_w (InX w (.slice p l.length cap) i (.slice p l.length cap) l w2.heap.size X J C) ((hI.up hb2).toX X J C) ?_
      clear hb2 hI x0 x1 x2 f0 f1 f2 HG
      intro u hX
      obtain ⟨⟨x0, x1, x2⟩, f0, f1, f2⟩ := hX.inr.cells
      obtain ⟨⟨r0, r1, r2⟩, g0, g1, g2⟩ := hX.inr.rcells
      obtain ⟨y0, y1, y2⟩ := hX.cells
      by_cases hC : C = 0
      · subst hC
        obtain ⟨hJ0, hJ1⟩ := HJ.out rfl
        have HC : Hid (∀ u, Calls Tryd.prog 49 #[.string X] u fun e w' => e = .returned (.bool (decide (X.size ≤ 200))) ∧ w' = u) := fun u => recM_any X u (Nat.le_trans hXs (by decide))
        by_cases hX2 : X.size ≤ 200
        · rw [decide_eq_true hX2] at HC
          by_cases hJ8 : J + 8 ≤ (text.size : Int)
          · have dJ : decide ((text.size : Int) < J + 8) = false := decide_eq_false (by omega)
            obtain ⟨z, hz⟩ : ∃ z, z = chainN macB key c X := ⟨_, rfl⟩
            have HNx : Hid (∀ u, Calls Tryd.prog 17 #[.string key, .string c, .string X] u fun r w' => r = .returned (.string z) ∧ Below u.heap.size u w') := fun u => by rw [hz]; exact nextM_any key c X u (Nat.le_trans hk2 (by decide)) (by rw [hc]; decide) (Nat.le_trans hXs (by decide))
            have hz32 : z.size = 32 := by rw [hz]; exact chainN_size macB_32 hk hc hX2
            rw [← hz] at HStop HGo
            clear hz HEnd HJ
            go_wp2_with (first | (go_at_call 49; (with_reducible refine (HC.out _).mono ?_); rintro r w' ⟨rfl, hw'⟩; obtain rfl := hw'.symm) | (go_at_call 17; (refine (HNx.out _).mono ?_); rintro r w3 ⟨rfl, hb3⟩))
            clear x0 x1 x2 f0 f1 f2 r0 r1 r2 g0 g1 g2 y0 y1 y2
            have hX3 := hX.up hb3
            clear hX hb3 HNx HC
            obtain ⟨y0, y1, y2⟩ := hX3.cells
            by_cases hE : text.extract J.toNat (J + 8).toNat = z.extract 0 8
            · have HT := HGo.out hlt ⟨trivial, hX2, hJ8, hE⟩
              have dE : ((text.extract J.toNat (J + 8).toNat).toList == (z.extract 0 8).toList) = true := beqT hE
              clear HGo HStop
              go_quiet (fail)
              go_upto_region 12 with (fail)
              refine wp_w (InX w (.slice p l.length cap) i (.slice p l.length cap) l w2.heap.size X J 0) (hX3.up (below_drewN (Below.refl _ _) _)) ?_
              clear hX3 y0 y1 y2 dE hE
              intro u4 hX
              obtain ⟨⟨x0, x1, x2⟩, f0, f1, f2⟩ := hX.inr.cells
              obtain ⟨y0, y1, y2⟩ := hX.cells
              have hXA : InX w (.slice p l.length cap) i (.slice p l.length cap) l w2.heap.size X J 0 (u4.alloc (.cells #[.string X] 9)) := hX.up ((Below.refl _ _).alloc (Nat.le_refl _) _)
              have hbase : w.heap.size + 2 ≤ (u4.alloc (.cells #[.string X] 9)).heap.size := hXA.inr.lt
              go_upto_region 13 with (at_builtin; refine wpList_append_own _ rfl _ _ 23 rfl (w.heap.size + 2) 9 i0 (.string ⟨#[]⟩) 1 16 Tryd.underlying23 hi hz0 hz1 hz2 rfl (by decide) _ _ _ rfl hXA.inr.row ⟨u4.heap.size, 0, none⟩ 1 1 [_] rfl rfl (cell_one_new _ _ _) (fun x hx => by simp at hx; subst hx; rfl) (by unfold maxLen; omega) (by omega) hbase ?_; intro v3 w5 hown hgr hnil; clear hnil; replace hXA := hXA.app hgr hown; obtain ⟨p3, n3, cap3, rfl⟩ := row_shape3 hXA.inr.row; clear hown hgr hX x0 x1 x2 f0 f1 f2 y0 y1 y2 hbase; obtain ⟨⟨x0, x1, x2⟩, f0, f1, f2⟩ := hXA.inr.cells)
              refine wp_w (InX w (.slice p3 n3 cap3) i (.slice p3 n3 cap3) (l ++ [X]) w2.heap.size X J 0) (hXA.set0 _) ?_
              clear hXA x0 x1 x2 f0 f1 f2
              intro u6 hX
              obtain ⟨⟨x0, x1, x2⟩, f0, f1, f2⟩ := hX.inr.cells
              obtain ⟨y0, y1, y2⟩ := hX.cells
              have HR7 : Hid (AtR w key text (.slice p3 n3 cap3) (l ++ [X]) (J + 8) z (u6.setCell ⟨w.heap.size + 1, 1, none⟩ (.int .i64 (J + 8)))) := ⟨hX.inr.set1 (J + 8), by omega, hJ8, hz32, by simp; omega, HT⟩
              have HL7 : Hid (60 - lenAt (u6.setCell ⟨w.heap.size + 1, 1, none⟩ (.int .i64 (J + 8))) ⟨w.heap.size + 1, 0, none⟩ < 60 - lenAt wr ⟨w.heap.size + 1, 0, none⟩) := by
                show 60 - lenAt _ _ < _
                rw [(hX.inr.set1 (J + 8)).len, HLen.out]; simp; omega
              clear hX HT
              go_wp2
              exact ⟨⟨z, _, _, _, rfl, HR7⟩, HL7.out⟩
            · have HF : Hid (readL macB key text = (l, i)) := HStop.out (fun h => hE h.2.2.2)
              have dE : ((text.extract J.toNat (J + 8).toNat).toList == (z.extract 0 8).toList) = false := beqF hE
              obtain ⟨⟨x0, x1, x2⟩, f0, f1, f2⟩ := hX3.inr.cells
              obtain ⟨⟨r0, r1, r2⟩, g0, g1, g2⟩ := hX3.inr.rcells
              clear HGo HStop
              go_quiet (fail)
              go_wp2
              obtain ⟨hg, hB, hO⟩ := (hX3.up (below_drewN (Below.refl _ _) _)).inr.fin (.slice p l.length cap) (.int .i64 i) (.int .i64 0)
              refine bodyPost_ret (results_cell_row Tryd.results15 _ _ w.heap.size _ _ _ _ rfl hg Tryd.underlying36 rfl infoR) rfl ⟨.slice p l.length cap, ?_, hB, ?_⟩
              · rw [HF.out]
              · rw [HF.out]; exact hO
          · have HF : Hid (readL macB key text = (l, i)) := HStop.out (fun h => hJ8 h.2.2.1)
            have dJ : decide ((text.size : Int) < J + 8) = true := decide_eq_true (by omega)
            clear HStop HGo HEnd HJ
            go_wp2_with (go_at_call 49; (with_reducible refine (HC.out _).mono ?_); rintro r w' ⟨rfl, hw'⟩; obtain rfl := hw'.symm)
            obtain ⟨hg, hB, hO⟩ := hX.inr.fin (.slice p l.length cap) (.int .i64 i) (.int .i64 0)
            refine bodyPost_ret (results_cell_row Tryd.results15 _ _ w.heap.size _ _ _ _ rfl hg Tryd.underlying36 rfl infoR) rfl ⟨.slice p l.length cap, ?_, hB, ?_⟩
            · rw [HF.out]
            · rw [HF.out]; exact hO
        · have HF : Hid (readL macB key text = (l, i)) := HStop.out (fun h => hX2 h.2.1)
          rw [decide_eq_false hX2] at HC
          clear HStop HGo HEnd HJ
          go_wp2_with (go_at_call 49; (with_reducible refine (HC.out _).mono ?_); rintro r w' ⟨rfl, hw'⟩; obtain rfl := hw'.symm)
          obtain ⟨hg, hB, hO⟩ := hX.inr.fin (.slice p l.length cap) (.int .i64 i) (.int .i64 0)
          refine bodyPost_ret (results_cell_row Tryd.results15 _ _ w.heap.size _ _ _ _ rfl hg Tryd.underlying36 rfl infoR) rfl ⟨.slice p l.length cap, ?_, hB, ?_⟩
          · rw [HF.out]
          · rw [HF.out]; exact hO
      · have HF : Hid (readL macB key text = (l, i)) := HStop.out (fun h => hC h.1)
        have dC : (C == 0) = false := by simpa using hC
        clear HStop HGo HEnd HJ
        go_wp2
        obtain ⟨hg, hB, hO⟩ := hX.inr.fin (.slice p l.length cap) (.int .i64 i) (.int .i64 0)
        refine bodyPost_ret (results_cell_row Tryd.results15 _ _ w.heap.size _ _ _ _ rfl hg Tryd.underlying36 rfl infoR) rfl ⟨.slice p l.length cap, ?_, hB, ?_⟩
        · rw [HF.out]
        · rw [HF.out]; exact hO
    · have HF : Hid (readL macB key text = (l, i)) := HEnd.out hlt
      have d60 : decide ((l.length : Int) < 60) = false := decide_eq_false (by omega)
      obtain ⟨⟨x0, x1, x2⟩, f0, f1, f2⟩ := hI.cells
      obtain ⟨⟨r0, r1, r2⟩, g0, g1, g2⟩ := hI.rcells
      clear HStop HGo HEnd HJ HG
      go_wp2
      obtain ⟨hg, hB, hO⟩ := hI.fin (.slice p l.length cap) (.int .i64 i) (.int .i64 0)
      refine bodyPost_ret (results_cell_row Tryd.results15 _ _ w.heap.size _ _ _ _ rfl hg Tryd.underlying36 rfl infoR) rfl ⟨.slice p l.length cap, ?_, hB, ?_⟩
      · rw [HF.out]
      · rw [HF.out]; exact hO

theorem logR_yes {key text : ByteArray} (hk : KeyL key) (ht : text.size ≤ 8000) : logR macB key text = ((readL macB key text).1, (readL macB key text).2, 0) := by
  have h1 := hk.2
  unfold logR
  rw [if_neg (by omega)]
  exact if_neg (fun h => h hk)
theorem logR_size {key text : ByteArray} (h : 8000 < key.size ∨ 8000 < text.size) : logR macB key text = ([], 0, 2) := if_pos h
theorem logR_form {key text : ByteArray} (h0 : ¬ (8000 < key.size ∨ 8000 < text.size)) (hk : ¬ KeyL key) : logR macB key text = ([], 0, 1) := by
  unfold logR
  rw [if_neg h0]
  exact if_pos hk
/-- what LogRead hands back -/
def ReadPost (w : World) (r : List ByteArray × Int × Int) (e : Ending) (w' : World) : Prop := ∃ v, e = .returned (.agg #[v, .int .i64 r.2.1, .int .i64 r.2.2]) ∧ Below w.heap.size w w' ∧ w'.ownsRow w.heap.size 9 1 v r.1.length (r.1.map Value.string)
theorem readM_stop (w : World) (c : Int) : (w.alloc (.cells #[.slice none 0 0, .int .i64 0, .int .i64 c] 36)).heap[w.heap.size]? = some (.cells #[.slice none 0 0, .int .i64 0, .int .i64 c] 36 (0, 0)) ∧ ReadPost w ([], 0, c) (.returned (.agg #[.slice none 0 0, .int .i64 0, .int .i64 c])) (w.alloc (.cells #[.slice none 0 0, .int .i64 0, .int .i64 c] 36)) :=
  ⟨heap_alloc_new _ _, .slice none 0 0, rfl, (Below.refl _ _).alloc (Nat.le_refl _) _, rfl, .inl ⟨rfl, rfl⟩⟩
set_option maxHeartbeats 8000000 in
theorem readM_any (key text : ByteArray) (w : World) (hk : key.size ≤ maxLen) (ht : text.size ≤ maxLen) :
    Calls Tryd.prog 15 #[.string key, .string text] w (ReadPost w (logR macB key text)) := by
  by_cases h0 : 8000 < key.size ∨ 8000 < text.size
  · rw [logR_size h0]
    obtain ⟨hg, HP⟩ := readM_stop w 2
    unfold maxLen at hk ht
    by_cases h1 : 8000 < key.size
    · have d1 : decide (8000 < (key.size : Int)) = true := decide_eq_true (by omega)
      go_enter Tryd.func15, Tryd.ntmps15
      go_wp2
      exact bodyPost_ret (results_cell_row Tryd.results15 _ _ w.heap.size _ _ _ _ rfl hg Tryd.underlying36 rfl infoR) rfl HP
    · have d1 : decide (8000 < (key.size : Int)) = false := decide_eq_false (by omega)
      have d2 : decide (8000 < (text.size : Int)) = true := decide_eq_true (by omega)
      go_enter Tryd.func15, Tryd.ntmps15
      go_wp2
      exact bodyPost_ret (results_cell_row Tryd.results15 _ _ w.heap.size _ _ _ _ rfl hg Tryd.underlying36 rfl infoR) rfl HP
  · by_cases h : KeyL key
    · rw [logR_yes h (by omega)]
      exact readM_yes key text w h (by omega)
    · have HK : Hid (∀ u, Calls Tryd.prog 47 #[.string key] u fun e w' => e = .returned (.bool false) ∧ w' = u) := fun u => keyM_no key u hk h
      rw [logR_form h0 h]
      obtain ⟨hg, HP⟩ := readM_stop w 1
      unfold maxLen at hk ht
      have d1 : decide (8000 < (key.size : Int)) = false := decide_eq_false (by omega)
      have d2 : decide (8000 < (text.size : Int)) = false := decide_eq_false (by omega)
      clear h h0
      go_enter Tryd.func15, Tryd.ntmps15
      go_wp2_with (go_at_call 47; (with_reducible refine (HK.out _).mono ?_); rintro r w' ⟨rfl, hw'⟩; obtain rfl := hw'.symm)
      exact bodyPost_ret (results_cell_row Tryd.results15 _ _ w.heap.size _ _ _ _ rfl hg Tryd.underlying36 rfl infoR) rfl HP
end Go.Proofs.YtcfekhahibklfaaDoor.lm
