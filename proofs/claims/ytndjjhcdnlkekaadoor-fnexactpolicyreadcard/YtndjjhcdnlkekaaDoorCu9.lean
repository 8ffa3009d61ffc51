/-
  The model's PolicyRead. No condition.
-/
import Derived.Test.YtndjjhcdnlkekaaDoorCu8
import Derived.Test.YtndjjhcdnlkekaaDoorCu6
import Derived.Test.YtndjjhcdnlkekaaDoorLgAp
namespace Go.Proofs.YtndjjhcdnlkekaaDoor.cu
open Go.ChangeShapes Go.WideShapes Go.ChangeAt Go.RowKit
open Go.Proofs.YtndjjhcdnlkekaaDoor.gb (bat bat_eq GlobR)
open Go.Proofs.YtndjjhcdnlkekaaDoor.rl
open Go.Proofs.YtndjjhcdnlkekaaDoor.ot (below_own OwT)
open Go.Proofs.YtndjjhcdnlkekaaDoor.wi (heap_lt calls_w wp_w)
open Classical
set_option linter.unusedVariables false

theorem pieces_size (s : ByteArray) : ∀ n a i, ∀ x ∈ pieces s n a i, x.size ≤ s.size := by
  intro n
  induction n with
  | zero => intro a i x hx; simp [pieces] at hx
  | succ n ih =>
    intro a i x hx
    unfold pieces at hx
    split at hx
    · split at hx
      · simp only [List.mem_cons] at hx
        rcases hx with rfl | hx
        · simp; omega
        · exact ih _ _ x hx
      · exact ih _ _ x hx
    · simp only [List.mem_singleton] at hx
      subst hx; simp
theorem piece_size (t : ByteArray) (k : Nat) : ((Pcs t 0 0).getD k nob).size ≤ t.size := by
  rw [List.getD_eq_getElem?_getD]
  by_cases h : k < (Pcs t 0 0).length
  · rw [List.getElem?_eq_getElem h]; exact pieces_size t _ 0 0 _ (List.getElem_mem h)
  · rw [List.getElem?_eq_none (by omega)]; exact Nat.zero_le _
theorem pieces_le (s : ByteArray) : ∀ n a i, (pieces s n a i).length ≤ n
  | 0, a, i => by simp [pieces]
  | n + 1, a, i => by
    have h1 := pieces_le s n (i + 1) (i + 1)
    have h2 := pieces_le s n a (i + 1)
    unfold pieces
    split
    · split
      · simp; exact h1
      · omega
    · simp
theorem pcs_le (t : ByteArray) (h : t.size ≤ 8000) : (Pcs t 0 0).length ≤ 8001 := by
  have := pieces_le t (t.size + 1 - 0) 0 0
  unfold Pcs
  omega
/-- the pieces read so far -/
def InS (w v1 : World) (t : ByteArray) (q : Nat) (l : List Ln) (v : Value) (u : World) : Prop := (Below w.heap.size w u ∧ rw.At u w.heap.size #[.slice none 0 0, .int .i64 0, .int .i64 0] 38 ∧ Below v1.heap.size v1 u) ∧ rw.At u q #[v, .int .i64 0, .int .i64 0] 38 ∧ OwR (q + 1) v l u ∧ GoodTo (Pcs t 0 0) l ∧ w.heap.size < q ∧ v1.heap.size ≤ q
theorem InS.up {w v1 u u' : World} {t : ByteArray} {q : Nat} {l : List Ln} {v : Value} (h : InS w v1 t q l v u) (hb : Below u.heap.size u u') : InS w v1 t q l v u' := ⟨⟨h.1.1.trans (hb.mono h.1.1.size), h.1.2.1.up hb, h.1.2.2.trans (hb.mono h.1.2.2.size)⟩, h.2.1.up hb, h.2.2.1.up hb, h.2.2.2⟩
theorem InS.new {w v1 : World} (t : ByteArray) (h : Below w.heap.size w v1) (ha : rw.At v1 w.heap.size #[.slice none 0 0, .int .i64 0, .int .i64 0] 38) : InS w v1 t v1.heap.size [] (.slice none 0 0) (v1.alloc (.cells #[.slice none 0 0, .int .i64 0, .int .i64 0] 38)) :=
  ⟨⟨h.alloc h.size _, ha.up (rw.up_alloc _ _), rw.up_alloc _ _⟩, rw.At.new v1 _ _, OwR.nil _ _, good_zero t, ha.lt, Nat.le_refl _⟩
def InA (w v1 : World) (q : Nat) (l : List Ln) (v v' : Value) (u : World) : Prop := (Below w.heap.size w u ∧ rw.At u w.heap.size #[.slice none 0 0, .int .i64 0, .int .i64 0] 38 ∧ Below v1.heap.size v1 u) ∧ rw.At u q #[v, .int .i64 0, .int .i64 0] 38 ∧ OwR (q + 1) v' l u
theorem InS.grow {w v1 u u' : World} {t : ByteArray} {q : Nat} {l : List Ln} {v v' : Value} {x : Ln} (h : InS w v1 t q l v u) (o : Obj) (hg : (u.alloc o).grownBy u' v.ownBlock)
    (ho : u'.ownsRow (q + 1) 26 4 v' (l.length + 1) (l.flatMap flat1 ++ [.int .i64 x.1, .int .i64 x.2.1, .string x.2.2.1, .string x.2.2.2])) : InA w v1 q (l ++ [x]) v v' u' := by
  have hr := h.2.2.1.up (rw.up_alloc u o)
  have s1 := h.1.1.size
  have s2 := h.1.2.2.size
  have l1 := h.1.2.1.lt
  have l2 := h.2.1.lt
  have h5 := h.2.2.2.2.1
  have h6 := h.2.2.2.2.2
  have lo1 : w.heap.size < (u.alloc o).heap.size := by rw [World.size_alloc]; omega
  have lo2 : q < (u.alloc o).heap.size := by rw [World.size_alloc]; omega
  refine ⟨⟨below_own (h.1.1.alloc s1 o) hg hr (by omega) (by omega), ?_, below_own (h.1.2.2.alloc s2 o) hg hr (by omega) (by rw [World.size_alloc]; omega)⟩, ?_, OwR.of ho⟩
  · exact (hg.block _ lo1 (fun e => by obtain ⟨h1, _⟩ := h.2.2.1.block _ e.symm; omega)).trans (h.1.2.1.up (rw.up_alloc _ _))
  · exact (hg.block _ lo2 (fun e => by obtain ⟨h1, _⟩ := h.2.2.1.block _ e.symm; omega)).trans (h.2.1.up (rw.up_alloc _ _))
theorem InA.store {w v1 u : World} {t : ByteArray} {q : Nat} {l : List Ln} {v v' : Value} (h : InA w v1 q l v v' u) (hg : GoodTo (Pcs t 0 0) l) (h5 : w.heap.size < q) (h6 : v1.heap.size ≤ q) : InS w v1 t q l v' (u.setCell ⟨q, 0, none⟩ v') :=
  ⟨⟨h.1.1.setCell (Nat.le_of_lt h5) _, h.1.2.1.far (Nat.ne_of_lt h5) _ _, h.1.2.2.setCell h6 _⟩, h.2.1.set 0 _, h.2.2.set (Nat.lt_succ_self _) _ _, hg, h5, h6⟩
theorem InS.tell {w v1 u : World} {t : ByteArray} {q : Nat} {l : List Ln} {v : Value} (h : InS w v1 t q l v u) : InO2 w l v 0 0 (outW u w.heap.size v 0 0) :=
  have h5 := h.2.2.2.2.1
  have hr : OwR (w.heap.size + 1) v l u := la.own_le h.2.2.1 (by omega)
  ⟨((h.1.1.setCell (Nat.le_refl _) _).setCell (Nat.le_refl _) _).setCell (Nat.le_refl _) _, ((h.1.2.1.set 0 _).set 1 _).set 2 _, ((hr.set (Nat.lt_succ_self _) _ _).set (Nat.lt_succ_self _) _ _).set (Nat.lt_succ_self _) _ _⟩
theorem InS.err {w v1 u : World} {t : ByteArray} {q : Nat} {l : List Ln} {v : Value} (h : InS w v1 t q l v u) (a b : Int) : InO2 w [] (.slice none 0 0) a b (outW u w.heap.size (.slice none 0 0) a b) :=
  ⟨((h.1.1.setCell (Nat.le_refl _) _).setCell (Nat.le_refl _) _).setCell (Nat.le_refl _) _, ((h.1.2.1.set 0 _).set 1 _).set 2 _, OwR.nil _ _⟩
theorem InS.cells {w v1 u : World} {t : ByteArray} {q : Nat} {l : List Ln} {v : Value} (h : InS w v1 t q l v u) : (u.cell? ⟨w.heap.size, 0, none⟩ = some (.slice none 0 0) ∧ u.cell? ⟨w.heap.size, 1, none⟩ = some (.int .i64 0) ∧ u.cell? ⟨w.heap.size, 2, none⟩ = some (.int .i64 0)) ∧ ∀ k, u.frozen? ⟨w.heap.size, k, none⟩ = false := ⟨⟨h.1.2.1.cell 0, h.1.2.1.cell 1, h.1.2.1.cell 2⟩, fun k => h.1.2.1.frozen k⟩
theorem InS.qcells {w v1 u : World} {t : ByteArray} {q : Nat} {l : List Ln} {v : Value} (h : InS w v1 t q l v u) : u.cell? ⟨q, 0, none⟩ = some v ∧ u.cell? ⟨q, 1, none⟩ = some (.int .i64 0) ∧ u.cell? ⟨q, 2, none⟩ = some (.int .i64 0) := ⟨h.2.1.cell 0, h.2.1.cell 1, h.2.1.cell 2⟩
theorem InS.bad {w v1 u : World} {t : ByteArray} {q : Nat} {l : List Ln} {v : Value} (h : InS w v1 t q l v u) (ht : t.size ≤ 8000) (hb : Bad (Pcs t 0 0) l.length) : OutIs t [] l.length 3 := .inr ⟨ht, l, h.2.2.2.1, .inl ⟨hb, rfl, rfl, rfl⟩⟩
/-- and the line's rule, in a block of its own -/
def InT (w v1 : World) (t : ByteArray) (q : Nat) (l : List Ln) (v : Value) (p2 : Nat) (x : Ln) (u : World) : Prop := InS w v1 t q l v u ∧ rw.At u p2 #[.int .i64 x.1, .int .i64 x.2.1, .string x.2.2.1, .string x.2.2.2] 26
theorem InT.up {w v1 u u' : World} {t : ByteArray} {q : Nat} {l : List Ln} {v : Value} {p2 : Nat} {x : Ln} (h : InT w v1 t q l v p2 x u) (hb : Below u.heap.size u u') : InT w v1 t q l v p2 x u' := ⟨h.1.up hb, h.2.up hb⟩
set_option maxRecDepth 20000 in
set_option maxHeartbeats 8000000 in
theorem readM_any (t : ByteArray) (w : World) (ht : t.size ≤ 1048576) :
    Calls Tryd.prog 20 #[.string t] w (OutPost t w) := by
  by_cases hsz : 8000 < t.size
  · have h1 : (8000 : Int) < t.size := by omega
    have HO : Hid (OutIs t [] 0 2) := .inl ⟨hsz, rfl, rfl, rfl⟩
    have HB : Hid (∀ o, Below w.heap.size w (w.alloc o)) := fun o => (Below.refl _ _).alloc (Nat.le_refl _) o
    go_enter Tryd.func20, Tryd.ntmps20
    go_wp2
    exact bodyPost_ret (results_cell_row Tryd.results20 _ _ w.heap.size _ #[.slice none 0 0, .int .i64 0, .int .i64 2] _ _ rfl (rw.At.new w _ _) Tryd.underlying38 rfl infoPO) rfl ⟨[], _, _, _, rfl, HO.out, HB.out _, OwR.nil _ _⟩
  · have h1 : ¬ (8000 : Int) < t.size := by omega
    have ht8 : t.size ≤ 8000 := by omega
    obtain ⟨i0, hi, hz0, hz1, hz2⟩ := info_parts infoILz
    have HI : Hid (_ ∧ _ ∧ _ ∧ _) := ⟨hi, hz0, hz1, hz2⟩
    clear hi hz0 hz1 hz2 hsz
    go_enter Tryd.func20, Tryd.ntmps20
    go_wp2_with (go_at_call 40; fail)
    refine calls_w (fun u => Below w.heap.size w u ∧ rw.At u w.heap.size #[.slice none 0 0, .int .i64 0, .int .i64 0] 38) ⟨(Below.refl _ _).alloc (Nat.le_refl _) _, rw.At.new w _ _⟩ ?_
    rintro u0 ⟨b0, a0⟩
    refine (split_any t u0 ht).mono ?_
    rintro r7 v1 ⟨vs, rfl, hb, hs⟩
    have HS0 : Hid (InS w v1 t v1.heap.size [] (.slice none 0 0) _) := InS.new t (b0.trans (hb.mono b0.size)) (a0.up hb)
    have hsl := hs.slice
    have hpz := pcs_pos t
    have HP : Hid (Pcs t 0 0 = Pcs t 0 0) := rfl
    obtain ⟨m, hm⟩ : ∃ m, m = (Pcs t 0 0).length := ⟨_, rfl⟩
    have hm8 : m ≤ 8001 := by rw [hm]; exact pcs_le t ht8
    have hvs : ∃ b off cap, vs = .slice (some ⟨b, off, none⟩) m cap ∧ ∀ u, Below v1.heap.size v1 u → ∀ j, j < m → u.cell? ⟨b, off + j, none⟩ = some (.string ((Pcs t 0 0).getD j nob)) := by
      rcases hsl with ⟨p, cap, hl, _⟩ | ⟨b, off, cap, hbl, rfl, hr⟩
      · rw [hl] at hpz; simp at hpz
      · exact ⟨b, off, cap, by rw [hm], fun u hu j hj => (hu.cell (p := ⟨b, off + j, none⟩) hbl).trans (hr j (by omega))⟩
    obtain ⟨sb, so, sc, rfl, hr⟩ := hvs
    have HR : Hid (∀ u, Below v1.heap.size v1 u → ∀ j, j < m → u.cell? ⟨sb, so + j, none⟩ = some (.string ((Pcs t 0 0).getD j nob))) := hr
    have HM : Hid (m = (Pcs t 0 0).length) := hm
    have hm1 : 1 ≤ m := by omega
    clear hr hm hpz hsl hs b0 a0 hb
    go_wp2
    obtain ⟨q, hq⟩ : ∃ q, q = v1.heap.size := ⟨_, rfl⟩
    have HQ : Hid (v1.heap.size ≤ q) := Nat.le_of_eq hq.symm
    rw [← hq] at HS0 ⊢
    clear hq
    have hw1 : IntKind.i64.wrap ((m : Int) - 1) = (m : Int) - 1 := by rw [IntKind.wrap_i64]; omega
    go_loopw [5] (fun i u => ∃ (l : List Ln) (v : Value), i = .int .i64 l.length ∧ Hid (InS w v1 t q l v u)) (fun i _ => m - (intOf i).toNat)
    case atStart => exact ⟨[], _, rfl, HS0⟩
    case round =>
      clear HS0 h1
      obtain ⟨l, v, rfl, HS⟩ := hrel
      have i := HS.out
      have hl12 : l.length ≤ 12 := i.2.2.2.1.2.1
      have hlm : l.length + 1 ≤ m := by rw [HM.out]; exact i.2.2.2.1.1
      obtain ⟨p, c, hv⟩ := i.2.2.1.shape
      subst hv
      clear HS
      by_cases hlt : l.length + 1 < m
      · have hli : (l.length : Int) < (m : Int) - 1 := by omega
        have cp := HR.out _ i.1.2.2 l.length (by omega)
        have hap : ((Pcs t 0 0).getD l.length nob).size ≤ 8000 := Nat.le_trans (piece_size t _) ht8
        obtain ⟨a, ha⟩ : ∃ a, a = (Pcs t 0 0).getD l.length nob := ⟨_, rfl⟩
        have HA : Hid (a = (Pcs t 0 0).getD l.length nob) := ha
        rw [← ha] at cp hap
        have HRA : Hid (∀ u, Below v1.heap.size v1 u → u.cell? ⟨sb, so + l.length, none⟩ = some (.string a)) := fun u hu => by rw [HA.out]; exact HR.out u hu _ (by omega)
        clear ha
        go_wp2_with (go_at_call 41; fail)
        refine calls_w (InS w v1 t q l (.slice p l.length c)) i ?_
        clear i cp
        intro u2 i
        refine (ruleOf_any a u2 hap).mono ?_
        rintro r7 u3 ⟨⟨x, rfl, hx, hx3, hx4⟩, hb⟩
        have HX : Hid (ModIs a x) := hx
        replace i := i.up hb
        clear hb hx
        obtain ⟨x1, x2, x3, x4⟩ := x
        dsimp only at *
        go_wp2_with fail
        obtain ⟨p2, hp2⟩ : ∃ p2, p2 = u3.heap.size := ⟨_, rfl⟩
        have iT : InT w v1 t q l (.slice p l.length c) p2 (x1, x2, x3, x4) (u3.alloc (.cells #[.int .i64 x1, .int .i64 x2, .string x3, .string x4] 26)) := ⟨i.up (rw.up_alloc _ _), by rw [hp2]; exact rw.At.new _ _ _⟩
        rw [← hp2]
        clear hp2 i
        have hx3m : x3.size ≤ maxLen := by unfold maxLen; omega
        have hx4m : x4.size ≤ maxLen := by unfold maxLen; omega
        have HS : Hid (∀ u, InT w v1 t q l (.slice p l.length c) p2 (x1, x2, x3, x4) u → ((u.cell? ⟨p2, 0, none⟩ = some (.int .i64 x1) ∧ u.cell? ⟨p2, 1, none⟩ = some (.int .i64 x2) ∧ u.cell? ⟨p2, 2, none⟩ = some (.string x3) ∧ u.cell? ⟨p2, 3, none⟩ = some (.string x4)) ∧ u.cell? ⟨sb, so + l.length, none⟩ = some (.string a))) := fun u h => ⟨⟨h.2.cell 0, h.2.cell 1, h.2.cell 2, h.2.cell 3⟩, HRA.out u h.1.1.2.2⟩
        have hrr := fun u => ruleM_any x1 x2 x3 x4 u hx3m hx4m
        clear hx3m hx4m
        have hlm2 : l.length < m := by omega
        have hcat : ¬ 9223372036854775807 < a.size + 1 := by omega
        by_cases hk : 12 ≤ l.length
        · have dk : (12 : Int) ≤ (l.length : Int) := by omega
          have HE : Hid (OutIs t [] l.length 3) := iT.1.bad ht8 (.inl ⟨by rw [← HM.out]; exact hlt, .inl hk⟩)
          clear hrr HX
          refine wp_region_noPanic ?_
          refine wp_region_held_drew (S := fun u => (u.cell? ⟨p2, 0, none⟩ = some (.int .i64 x1) ∧ u.cell? ⟨p2, 1, none⟩ = some (.int .i64 x2) ∧ u.cell? ⟨p2, 2, none⟩ = some (.string x3) ∧ u.cell? ⟨p2, 3, none⟩ = some (.string x4)) ∧ u.cell? ⟨sb, so + l.length, none⟩ = some (.string a)) (by kernel_rfl) (HS.out _ (iT.up (rw.up_drew _))) (fun _ => ?_)
          refine rw.region_w (fun u => InT w v1 t q l (.slice p l.length c) p2 (x1, x2, x3, x4) u) (iT.up (rw.up_drew _)) ?_
          clear iT
          intro u i
          have hHeld : ((u.cell? ⟨p2, 0, none⟩ = some (.int .i64 x1) ∧ u.cell? ⟨p2, 1, none⟩ = some (.int .i64 x2) ∧ u.cell? ⟨p2, 2, none⟩ = some (.string x3) ∧ u.cell? ⟨p2, 3, none⟩ = some (.string x4)) ∧ u.cell? ⟨sb, so + l.length, none⟩ = some (.string a)) := HS.out u i
          refine wpAnyH_take (i := 0) (oi := { dst := some 26, op := Op.move (Operand.tmp 5), type := 3, pos := "l08_policy.go:86", after := #[], guard := none }) (v := ?_) rfl (by kernel_rfl) (by kernel_rfl) (by kernel_rfl) (fun _ _ _ h => h) (Or.inl ⟨by rfl, ?_⟩) hHeld ?_
          rotate_left
          · rintro w ⟨⟨z0, z1, z2, z3⟩, z4⟩; go_simp; (try with_reducible rfl)
          try simp only [Act.put, List.setIfInBounds_toArray, List.set_cons_zero, List.set_cons_succ]
          refine wpAnyH_take (i := 1) (oi := { dst := some 27, op := Op.binOp BinOp.geq 3 (Operand.tmp 26) (Operand.const (Value.int IntKind.i64 12)) 3, type := 4, pos := "l08_policy.go:86", after := #[{ on := 0, ground := Ground.data }], guard := none }) (v := .bool true) rfl (by kernel_rfl) (by kernel_rfl) (by kernel_rfl) (fun _ _ _ h => h) (Or.inl ⟨by rfl, ?_⟩) hHeld ?_
          · rintro w ⟨⟨z0, z1, z2, z3⟩, z4⟩; go_simp; (try with_reducible rfl)
          try simp only [Act.put, List.setIfInBounds_toArray, List.set_cons_zero, List.set_cons_succ]
          refine wpAnyH_take (i := 2) (oi := { dst := some 28, op := Op.move (Operand.tmp 27), type := 4, pos := "l08_policy.go:86", after := #[{ on := 1, ground := Ground.data }], guard := none }) (v := ?_) rfl (by kernel_rfl) (by kernel_rfl) (by kernel_rfl) (fun _ _ _ h => h) (Or.inl ⟨by rfl, ?_⟩) hHeld ?_
          rotate_left
          · rintro w ⟨⟨z0, z1, z2, z3⟩, z4⟩; go_simp; (try with_reducible rfl)
          try simp only [Act.put, List.setIfInBounds_toArray, List.set_cons_zero, List.set_cons_succ]
          refine wpAnyH_take (i := 3) (oi := { dst := some 29, op := Op.load 26 (Operand.tmp 6), type := 26, pos := "l08_policy.go:86", after := #[{ on := 2, ground := Ground.guard }], guard := some (2, false) }) (v := undef) rfl (by kernel_rfl) (by kernel_rfl) (by kernel_rfl) (fun _ _ _ h => h) (Or.inr ⟨by rfl, rfl⟩) hHeld ?_
          try simp only [Act.put, List.setIfInBounds_toArray, List.set_cons_zero, List.set_cons_succ]
          refine wpAnyH_take (i := 4) (oi := { dst := some 30, op := Op.call { callee := Callee.value (Operand.func 10), args := #[Operand.tmp 29], argTypes := #[26] }, type := 4, pos := "l08_policy.go:86", after := #[{ on := 3, ground := Ground.data }, { on := 2, ground := Ground.chain }, { on := 2, ground := Ground.guard }], guard := some (2, false) }) (v := undef) rfl (by kernel_rfl) (by kernel_rfl) (by kernel_rfl) (fun _ _ _ h => h) (Or.inr ⟨by rfl, rfl⟩) hHeld ?_
          try simp only [Act.put, List.setIfInBounds_toArray, List.set_cons_zero, List.set_cons_succ]
          refine wpAnyH_take (i := 5) (oi := { dst := some 31, op := Op.unOp UnOp.not 4 (Operand.tmp 30), type := 4, pos := "l08_policy.go:86", after := #[{ on := 4, ground := Ground.data }, { on := 2, ground := Ground.guard }], guard := some (2, false) }) (v := undef) rfl (by kernel_rfl) (by kernel_rfl) (by kernel_rfl) (fun _ _ _ h => h) (Or.inr ⟨by rfl, rfl⟩) hHeld ?_
          try simp only [Act.put, List.setIfInBounds_toArray, List.set_cons_zero, List.set_cons_succ]
          refine wpAnyH_take (i := 6) (oi := { dst := some 32, op := Op.pick (Operand.tmp 28) (Operand.const (Value.bool true)) (Operand.tmp 31), type := 4, pos := "l08_policy.go:86", after := #[{ on := 2, ground := Ground.data }, { on := 5, ground := Ground.data }], guard := none }) (v := ?_) rfl (by kernel_rfl) (by kernel_rfl) (by kernel_rfl) (fun _ _ _ h => h) (Or.inl ⟨by rfl, ?_⟩) hHeld ?_
          rotate_left
          · rintro w ⟨⟨z0, z1, z2, z3⟩, z4⟩; go_simp; (try with_reducible rfl)
          try simp only [Act.put, List.setIfInBounds_toArray, List.set_cons_zero, List.set_cons_succ]
          refine wpAnyH_take (i := 7) (oi := { dst := some 33, op := Op.move (Operand.tmp 32), type := 4, pos := "l08_policy.go:86", after := #[{ on := 6, ground := Ground.data }, { on := 4, ground := Ground.chain }], guard := none }) (v := ?_) rfl (by kernel_rfl) (by kernel_rfl) (by kernel_rfl) (fun _ _ _ h => h) (Or.inl ⟨by rfl, ?_⟩) hHeld ?_
          rotate_left
          · rintro w ⟨⟨z0, z1, z2, z3⟩, z4⟩; go_simp; (try with_reducible rfl)
          try simp only [Act.put, List.setIfInBounds_toArray, List.set_cons_zero, List.set_cons_succ]
          refine wpAnyH_take (i := 8) (oi := { dst := some 34, op := Op.load 26 (Operand.tmp 6), type := 26, pos := "l08_policy.go:86", after := #[{ on := 7, ground := Ground.guard }], guard := some (7, false) }) (v := undef) rfl (by kernel_rfl) (by kernel_rfl) (by kernel_rfl) (fun _ _ _ h => h) (Or.inr ⟨by rfl, rfl⟩) hHeld ?_
          try simp only [Act.put, List.setIfInBounds_toArray, List.set_cons_zero, List.set_cons_succ]
          refine wpAnyH_take (i := 9) (oi := { dst := some 35, op := Op.call { callee := Callee.value (Operand.func 37), args := #[Operand.tmp 34], argTypes := #[26] }, type := 9, pos := "l08_policy.go:86", after := #[{ on := 8, ground := Ground.data }, { on := 7, ground := Ground.chain }, { on := 7, ground := Ground.guard }], guard := some (7, false) }) (v := undef) rfl (by kernel_rfl) (by kernel_rfl) (by kernel_rfl) (fun _ _ _ h => h) (Or.inr ⟨by rfl, rfl⟩) hHeld ?_
          try simp only [Act.put, List.setIfInBounds_toArray, List.set_cons_zero, List.set_cons_succ]
          refine wpAnyH_take (i := 10) (oi := { dst := some 36, op := Op.move (Operand.tmp 3), type := 57, pos := "l08_policy.go:86", after := #[{ on := 7, ground := Ground.guard }], guard := some (7, false) }) (v := undef) rfl (by kernel_rfl) (by kernel_rfl) (by kernel_rfl) (fun _ _ _ h => h) (Or.inr ⟨by rfl, rfl⟩) hHeld ?_
          try simp only [Act.put, List.setIfInBounds_toArray, List.set_cons_zero, List.set_cons_succ]
          refine wpAnyH_take (i := 11) (oi := { dst := some 37, op := Op.move (Operand.tmp 5), type := 3, pos := "l08_policy.go:86", after := #[{ on := 7, ground := Ground.guard }], guard := some (7, false) }) (v := undef) rfl (by kernel_rfl) (by kernel_rfl) (by kernel_rfl) (fun _ _ _ h => h) (Or.inr ⟨by rfl, rfl⟩) hHeld ?_
          try simp only [Act.put, List.setIfInBounds_toArray, List.set_cons_zero, List.set_cons_succ]
          refine wpAnyH_take (i := 12) (oi := { dst := some 38, op := Op.indexAddr 57 (Operand.tmp 36) (Operand.tmp 37), type := 0, pos := "l08_policy.go:86", after := #[{ on := 10, ground := Ground.data }, { on := 11, ground := Ground.data }, { on := 7, ground := Ground.guard }], guard := some (7, false) }) (v := undef) rfl (by kernel_rfl) (by kernel_rfl) (by kernel_rfl) (fun _ _ _ h => h) (Or.inr ⟨by rfl, rfl⟩) hHeld ?_
          try simp only [Act.put, List.setIfInBounds_toArray, List.set_cons_zero, List.set_cons_succ]
          refine wpAnyH_take (i := 13) (oi := { dst := some 39, op := Op.load 9 (Operand.tmp 38), type := 9, pos := "l08_policy.go:86", after := #[{ on := 12, ground := Ground.data }, { on := 7, ground := Ground.guard }], guard := some (7, false) }) (v := undef) rfl (by kernel_rfl) (by kernel_rfl) (by kernel_rfl) (fun _ _ _ h => h) (Or.inr ⟨by rfl, rfl⟩) hHeld ?_
          try simp only [Act.put, List.setIfInBounds_toArray, List.set_cons_zero, List.set_cons_succ]
          refine wpAnyH_take (i := 14) (oi := { dst := some 40, op := Op.binOp BinOp.add 9 (Operand.tmp 39) (Operand.const (Value.string { data := #[10] })) 9, type := 9, pos := "l08_policy.go:86", after := #[{ on := 13, ground := Ground.data }, { on := 7, ground := Ground.guard }], guard := some (7, false) }) (v := undef) rfl (by kernel_rfl) (by kernel_rfl) (by kernel_rfl) (fun _ _ _ h => h) (Or.inr ⟨by rfl, rfl⟩) hHeld ?_
          try simp only [Act.put, List.setIfInBounds_toArray, List.set_cons_zero, List.set_cons_succ]
          refine wpAnyH_take (i := 15) (oi := { dst := some 41, op := Op.binOp BinOp.neq 9 (Operand.tmp 35) (Operand.tmp 40) 9, type := 4, pos := "l08_policy.go:86", after := #[{ on := 9, ground := Ground.data }, { on := 14, ground := Ground.data }, { on := 7, ground := Ground.guard }], guard := some (7, false) }) (v := undef) rfl (by kernel_rfl) (by kernel_rfl) (by kernel_rfl) (fun _ _ _ h => h) (Or.inr ⟨by rfl, rfl⟩) hHeld ?_
          try simp only [Act.put, List.setIfInBounds_toArray, List.set_cons_zero, List.set_cons_succ]
          refine wpAnyH_take (i := 16) (oi := { dst := some 42, op := Op.pick (Operand.tmp 33) (Operand.const (Value.bool true)) (Operand.tmp 41), type := 4, pos := "l08_policy.go:86", after := #[{ on := 7, ground := Ground.data }, { on := 15, ground := Ground.data }], guard := none }) (v := ?_) rfl (by kernel_rfl) (by kernel_rfl) (by kernel_rfl) (fun _ _ _ h => h) (Or.inl ⟨by rfl, ?_⟩) hHeld ?_
          rotate_left
          · rintro w ⟨⟨z0, z1, z2, z3⟩, z4⟩; go_simp; (try with_reducible rfl)
          try simp only [Act.put, List.setIfInBounds_toArray, List.set_cons_zero, List.set_cons_succ]
          refine wpAnyH_done (by kernel_rfl) ?_ _
          refine NoPanic.normal ?_
          obtain ⟨⟨c0, c1, c2⟩, f0⟩ := i.1.cells
          have HF : Hid _ := i.1.err l.length 3
          clear i hHeld HS
          go_wp2
          obtain ⟨d1, d2, d3⟩ := HF.out
          exact bodyPost_ret (results_cell_row Tryd.results20 _ _ w.heap.size _ #[.slice none 0 0, .int .i64 l.length, .int .i64 3] _ _ rfl d2 Tryd.underlying38 rfl infoPO) rfl ⟨[], _, _, _, rfl, HE.out, d1, d3⟩
        · have dk : ¬ (12 : Int) ≤ (l.length : Int) := by omega
          by_cases hR : RuleR x1 x2 x3 x4
          · rw [decide_eq_true hR] at hrr
            have hsz := LnR.sizes (x := (x1, x2, x3, x4)) hR
            have htx := fun u => textM_any x1 x2 x3 x4 u hR.1 hsz.1 hsz.2
            have hlb : lineB x1 x2 x3 x4 = bare (x1, x2, x3, x4) ++ one 10 := line_bare (x1, x2, x3, x4)
            by_cases hE : bare (x1, x2, x3, x4) = a
            · have HGD : Hid (GoodTo (Pcs t 0 0) (l ++ [(x1, x2, x3, x4)])) := iT.1.2.2.2.1.add (by rw [← HM.out]; exact hlt) (by omega) hR (hE.trans HA.out)
              rw [hE] at hlb
              rw [hlb] at htx
              unfold one at htx
              clear hlb hE hR hsz HX
              refine wp_region_noPanic ?_
              refine wp_region_held_drew (S := fun u => (u.cell? ⟨p2, 0, none⟩ = some (.int .i64 x1) ∧ u.cell? ⟨p2, 1, none⟩ = some (.int .i64 x2) ∧ u.cell? ⟨p2, 2, none⟩ = some (.string x3) ∧ u.cell? ⟨p2, 3, none⟩ = some (.string x4)) ∧ u.cell? ⟨sb, so + l.length, none⟩ = some (.string a)) (by kernel_rfl) (HS.out _ (iT.up (rw.up_drew _))) (fun _ => ?_)
              refine rw.region_w (fun u => InT w v1 t q l (.slice p l.length c) p2 (x1, x2, x3, x4) u) (iT.up (rw.up_drew _)) ?_
              clear iT
              intro u i
              have hHeld : ((u.cell? ⟨p2, 0, none⟩ = some (.int .i64 x1) ∧ u.cell? ⟨p2, 1, none⟩ = some (.int .i64 x2) ∧ u.cell? ⟨p2, 2, none⟩ = some (.string x3) ∧ u.cell? ⟨p2, 3, none⟩ = some (.string x4)) ∧ u.cell? ⟨sb, so + l.length, none⟩ = some (.string a)) := HS.out u i
              refine wpAnyH_take (i := 0) (oi := { dst := some 26, op := Op.move (Operand.tmp 5), type := 3, pos := "l08_policy.go:86", after := #[], guard := none }) (v := ?_) rfl (by kernel_rfl) (by kernel_rfl) (by kernel_rfl) (fun _ _ _ h => h) (Or.inl ⟨by rfl, ?_⟩) hHeld ?_
              rotate_left
              · rintro w ⟨⟨z0, z1, z2, z3⟩, z4⟩; go_simp; (try with_reducible rfl)
              try simp only [Act.put, List.setIfInBounds_toArray, List.set_cons_zero, List.set_cons_succ]
              refine wpAnyH_take (i := 1) (oi := { dst := some 27, op := Op.binOp BinOp.geq 3 (Operand.tmp 26) (Operand.const (Value.int IntKind.i64 12)) 3, type := 4, pos := "l08_policy.go:86", after := #[{ on := 0, ground := Ground.data }], guard := none }) (v := .bool false) rfl (by kernel_rfl) (by kernel_rfl) (by kernel_rfl) (fun _ _ _ h => h) (Or.inl ⟨by rfl, ?_⟩) hHeld ?_
              · rintro w ⟨⟨z0, z1, z2, z3⟩, z4⟩; go_simp; (try with_reducible rfl)
              try simp only [Act.put, List.setIfInBounds_toArray, List.set_cons_zero, List.set_cons_succ]
              refine wpAnyH_take (i := 2) (oi := { dst := some 28, op := Op.move (Operand.tmp 27), type := 4, pos := "l08_policy.go:86", after := #[{ on := 1, ground := Ground.data }], guard := none }) (v := ?_) rfl (by kernel_rfl) (by kernel_rfl) (by kernel_rfl) (fun _ _ _ h => h) (Or.inl ⟨by rfl, ?_⟩) hHeld ?_
              rotate_left
              · rintro w ⟨⟨z0, z1, z2, z3⟩, z4⟩; go_simp; (try with_reducible rfl)
              try simp only [Act.put, List.setIfInBounds_toArray, List.set_cons_zero, List.set_cons_succ]
              refine wpAnyH_take (i := 3) (oi := { dst := some 29, op := Op.load 26 (Operand.tmp 6), type := 26, pos := "l08_policy.go:86", after := #[{ on := 2, ground := Ground.guard }], guard := some (2, false) }) (v := ?_) rfl (by kernel_rfl) (by kernel_rfl) (by kernel_rfl) (fun _ _ _ h => h) (Or.inl ⟨by rfl, ?_⟩) hHeld ?_
              rotate_left
              · rintro w ⟨⟨z0, z1, z2, z3⟩, z4⟩; go_simp; (try with_reducible rfl)
              try simp only [Act.put, List.setIfInBounds_toArray, List.set_cons_zero, List.set_cons_succ]
              refine wpAnyH_ready (rs := [4]) (by kernel_rfl) (by simp) ?_
              refine AllReadyH.cons rfl (fun K hK => ?_) AllReadyH.nil
              go_simp
              go_at_call 10
              refine (hrr u).mono ?_
              rintro r7 w7 ⟨rfl, hb⟩
              go_wp2_with fail
              refine hK.out _ _ (HS.out _ (i.up hb)) (fun _ => ?_)
              clear hK K hHeld
              try simp only [Act.put, List.setIfInBounds_toArray, List.set_cons_zero, List.set_cons_succ]
              refine rw.region_w (fun u => InT w v1 t q l (.slice p l.length c) p2 (x1, x2, x3, x4) u) (i.up hb) ?_
              clear i hb
              intro u i
              have hHeld : ((u.cell? ⟨p2, 0, none⟩ = some (.int .i64 x1) ∧ u.cell? ⟨p2, 1, none⟩ = some (.int .i64 x2) ∧ u.cell? ⟨p2, 2, none⟩ = some (.string x3) ∧ u.cell? ⟨p2, 3, none⟩ = some (.string x4)) ∧ u.cell? ⟨sb, so + l.length, none⟩ = some (.string a)) := HS.out u i
              refine wpAnyH_take (i := 5) (oi := { dst := some 31, op := Op.unOp UnOp.not 4 (Operand.tmp 30), type := 4, pos := "l08_policy.go:86", after := #[{ on := 4, ground := Ground.data }, { on := 2, ground := Ground.guard }], guard := some (2, false) }) (v := ?_) rfl (by kernel_rfl) (by kernel_rfl) (by kernel_rfl) (fun _ _ _ h => h) (Or.inl ⟨by rfl, ?_⟩) hHeld ?_
              rotate_left
              · rintro w ⟨⟨z0, z1, z2, z3⟩, z4⟩; go_simp; (try with_reducible rfl)
              try simp only [Act.put, List.setIfInBounds_toArray, List.set_cons_zero, List.set_cons_succ]
              refine wpAnyH_take (i := 6) (oi := { dst := some 32, op := Op.pick (Operand.tmp 28) (Operand.const (Value.bool true)) (Operand.tmp 31), type := 4, pos := "l08_policy.go:86", after := #[{ on := 2, ground := Ground.data }, { on := 5, ground := Ground.data }], guard := none }) (v := ?_) rfl (by kernel_rfl) (by kernel_rfl) (by kernel_rfl) (fun _ _ _ h => h) (Or.inl ⟨by rfl, ?_⟩) hHeld ?_
              rotate_left
              · rintro w ⟨⟨z0, z1, z2, z3⟩, z4⟩; go_simp; (try with_reducible rfl)
              try simp only [Act.put, List.setIfInBounds_toArray, List.set_cons_zero, List.set_cons_succ]
              refine wpAnyH_take (i := 7) (oi := { dst := some 33, op := Op.move (Operand.tmp 32), type := 4, pos := "l08_policy.go:86", after := #[{ on := 6, ground := Ground.data }, { on := 4, ground := Ground.chain }], guard := none }) (v := ?_) rfl (by kernel_rfl) (by kernel_rfl) (by kernel_rfl) (fun _ _ _ h => h) (Or.inl ⟨by rfl, ?_⟩) hHeld ?_
              rotate_left
              · rintro w ⟨⟨z0, z1, z2, z3⟩, z4⟩; go_simp; (try with_reducible rfl)
              try simp only [Act.put, List.setIfInBounds_toArray, List.set_cons_zero, List.set_cons_succ]
              refine wpAnyH_take (i := 8) (oi := { dst := some 34, op := Op.load 26 (Operand.tmp 6), type := 26, pos := "l08_policy.go:86", after := #[{ on := 7, ground := Ground.guard }], guard := some (7, false) }) (v := ?_) rfl (by kernel_rfl) (by kernel_rfl) (by kernel_rfl) (fun _ _ _ h => h) (Or.inl ⟨by rfl, ?_⟩) hHeld ?_
              rotate_left
              · rintro w ⟨⟨z0, z1, z2, z3⟩, z4⟩; go_simp; (try with_reducible rfl)
              try simp only [Act.put, List.setIfInBounds_toArray, List.set_cons_zero, List.set_cons_succ]
              refine wpAnyH_take (i := 10) (oi := { dst := some 36, op := Op.move (Operand.tmp 3), type := 57, pos := "l08_policy.go:86", after := #[{ on := 7, ground := Ground.guard }], guard := some (7, false) }) (v := ?_) rfl (by kernel_rfl) (by kernel_rfl) (by kernel_rfl) (fun _ _ _ h => h) (Or.inl ⟨by rfl, ?_⟩) hHeld ?_
              rotate_left
              · rintro w ⟨⟨z0, z1, z2, z3⟩, z4⟩; go_simp; (try with_reducible rfl)
              try simp only [Act.put, List.setIfInBounds_toArray, List.set_cons_zero, List.set_cons_succ]
              refine wpAnyH_take (i := 11) (oi := { dst := some 37, op := Op.move (Operand.tmp 5), type := 3, pos := "l08_policy.go:86", after := #[{ on := 7, ground := Ground.guard }], guard := some (7, false) }) (v := ?_) rfl (by kernel_rfl) (by kernel_rfl) (by kernel_rfl) (fun _ _ _ h => h) (Or.inl ⟨by rfl, ?_⟩) hHeld ?_
              rotate_left
              · rintro w ⟨⟨z0, z1, z2, z3⟩, z4⟩; go_simp; (try with_reducible rfl)
              try simp only [Act.put, List.setIfInBounds_toArray, List.set_cons_zero, List.set_cons_succ]
              refine wpAnyH_take (i := 12) (oi := { dst := some 38, op := Op.indexAddr 57 (Operand.tmp 36) (Operand.tmp 37), type := 0, pos := "l08_policy.go:86", after := #[{ on := 10, ground := Ground.data }, { on := 11, ground := Ground.data }, { on := 7, ground := Ground.guard }], guard := some (7, false) }) (v := ?_) rfl (by kernel_rfl) (by kernel_rfl) (by kernel_rfl) (fun _ _ _ h => h) (Or.inl ⟨by rfl, ?_⟩) hHeld ?_
              rotate_left
              · rintro w ⟨⟨z0, z1, z2, z3⟩, z4⟩; go_simp; (try with_reducible rfl)
              try simp only [Act.put, List.setIfInBounds_toArray, List.set_cons_zero, List.set_cons_succ]
              refine wpAnyH_take (i := 13) (oi := { dst := some 39, op := Op.load 9 (Operand.tmp 38), type := 9, pos := "l08_policy.go:86", after := #[{ on := 12, ground := Ground.data }, { on := 7, ground := Ground.guard }], guard := some (7, false) }) (v := ?_) rfl (by kernel_rfl) (by kernel_rfl) (by kernel_rfl) (fun _ _ _ h => h) (Or.inl ⟨by rfl, ?_⟩) hHeld ?_
              rotate_left
              · rintro w ⟨⟨z0, z1, z2, z3⟩, z4⟩; go_simp; (try with_reducible rfl)
              try simp only [Act.put, List.setIfInBounds_toArray, List.set_cons_zero, List.set_cons_succ]
              refine wpAnyH_take (i := 14) (oi := { dst := some 40, op := Op.binOp BinOp.add 9 (Operand.tmp 39) (Operand.const (Value.string { data := #[10] })) 9, type := 9, pos := "l08_policy.go:86", after := #[{ on := 13, ground := Ground.data }, { on := 7, ground := Ground.guard }], guard := some (7, false) }) (v := ?_) rfl (by kernel_rfl) (by kernel_rfl) (by kernel_rfl) (fun _ _ _ h => h) (Or.inl ⟨by rfl, ?_⟩) hHeld ?_
              rotate_left
              · rintro w ⟨⟨z0, z1, z2, z3⟩, z4⟩; go_simp; (try with_reducible rfl)
              try simp only [Act.put, List.setIfInBounds_toArray, List.set_cons_zero, List.set_cons_succ]
              refine wpAnyH_ready (rs := [9]) (by kernel_rfl) (by simp) ?_
              refine AllReadyH.cons rfl (fun K hK => ?_) AllReadyH.nil
              go_simp
              go_at_call 37
              refine (htx u).mono ?_
              rintro r7 w7 ⟨rfl, hb⟩
              go_wp2_with fail
              refine hK.out _ _ (HS.out _ (i.up hb)) (fun _ => ?_)
              clear hK K hHeld
              try simp only [Act.put, List.setIfInBounds_toArray, List.set_cons_zero, List.set_cons_succ]
              refine rw.region_w (fun u => InT w v1 t q l (.slice p l.length c) p2 (x1, x2, x3, x4) u) (i.up hb) ?_
              clear i hb
              intro u i
              have hHeld : ((u.cell? ⟨p2, 0, none⟩ = some (.int .i64 x1) ∧ u.cell? ⟨p2, 1, none⟩ = some (.int .i64 x2) ∧ u.cell? ⟨p2, 2, none⟩ = some (.string x3) ∧ u.cell? ⟨p2, 3, none⟩ = some (.string x4)) ∧ u.cell? ⟨sb, so + l.length, none⟩ = some (.string a)) := HS.out u i
              refine wpAnyH_take (i := 15) (oi := { dst := some 41, op := Op.binOp BinOp.neq 9 (Operand.tmp 35) (Operand.tmp 40) 9, type := 4, pos := "l08_policy.go:86", after := #[{ on := 9, ground := Ground.data }, { on := 14, ground := Ground.data }, { on := 7, ground := Ground.guard }], guard := some (7, false) }) (v := .bool false) rfl (by kernel_rfl) (by kernel_rfl) (by kernel_rfl) (fun _ _ _ h => h) (Or.inl ⟨by rfl, ?_⟩) hHeld ?_
              · rintro w ⟨⟨z0, z1, z2, z3⟩, z4⟩; go_simp; (try with_reducible rfl)
              try simp only [Act.put, List.setIfInBounds_toArray, List.set_cons_zero, List.set_cons_succ]
              refine wpAnyH_take (i := 16) (oi := { dst := some 42, op := Op.pick (Operand.tmp 33) (Operand.const (Value.bool true)) (Operand.tmp 41), type := 4, pos := "l08_policy.go:86", after := #[{ on := 7, ground := Ground.data }, { on := 15, ground := Ground.data }], guard := none }) (v := ?_) rfl (by kernel_rfl) (by kernel_rfl) (by kernel_rfl) (fun _ _ _ h => h) (Or.inl ⟨by rfl, ?_⟩) hHeld ?_
              rotate_left
              · rintro w ⟨⟨z0, z1, z2, z3⟩, z4⟩; go_simp; (try with_reducible rfl)
              try simp only [Act.put, List.setIfInBounds_toArray, List.set_cons_zero, List.set_cons_succ]
              refine wpAnyH_done (by kernel_rfl) ?_ _
              refine NoPanic.normal ?_
              obtain ⟨c0, c1, c2⟩ := i.1.qcells
              have a0 := i.2.cell 0
              have a1 := i.2.cell 1
              have a2 := i.2.cell 2
              have a3 := i.2.cell 3
              have HO : Hid (∀ o, World.ownsRow (u.alloc o) (q + 1) 26 4 (.slice p l.length c) l.length (l.flatMap flat1)) := fun o => i.1.2.2.1.up (rw.up_alloc u o)
              have HZ : Hid (∀ o, q + 1 ≤ (u.alloc o).heap.size) := fun o => by have := i.1.2.1.lt; rw [World.size_alloc]; omega
              have HIT : Hid (InT w v1 t q l (.slice p l.length c) p2 (x1, x2, x3, x4) u) := i
              have hwq : w.heap.size < q := i.1.2.2.2.2.1
              clear i hHeld HS
              go_wp2_with (at_builtin; go_loud (refine wpList_append_own _ rfl _ _ 32 rfl (q + 1) 26 i0 (.agg #[.int .i64 0, .int .i64 0, .string ⟨#[]⟩, .string ⟨#[]⟩]) 4 48 Tryd.underlying32 HI.out.1 HI.out.2.1 HI.out.2.2.1 HI.out.2.2.2 rfl (by decide) (.slice p l.length c) l.length (l.flatMap flat1) rfl (HO.out _) ⟨u.heap.size, 0, none⟩ 1 1 [.int .i64 x1, .int .i64 x2, .string x3, .string x4] rfl rfl (four_new _ _ _ _ _ _) (by simp [Value.oneCell']) (by unfold maxLen; omega) (by omega) (HZ.out _) ?_; intro v4 w4 hown hgr hnil; clear hnil; have HA2 : Hid (InA w v1 q (l ++ [(x1, x2, x3, x4)]) (.slice p l.length c) v4 w4) := HIT.out.1.grow _ hgr hown; clear hown hgr HO HZ HIT a0 a1 a2 a3 c0 c1 c2; obtain ⟨p4, c4, hv4⟩ := HA2.out.2.2.shape; rw [show (l ++ [(x1, x2, x3, x4)]).length = l.length + 1 by rw [List.length_append]; rfl] at hv4; subst hv4; have c0 := HA2.out.2.1.cell 0; have f0 := fun k => HA2.out.2.1.frozen k))
              have HX9 : Hid (InS w v1 t q (l ++ [(x1, x2, x3, x4)]) (.slice p4 (l.length + 1) c4) (w4.setCell ⟨q, 0, none⟩ (.slice p4 (l.length + 1) c4))) := HA2.out.store HGD.out hwq HQ.out
              clear c0 f0 HA2
              go_round
              case rel => exact ⟨_, _, by rw [List.length_append]; rfl, HX9⟩
              case measure => simp [intOf]; omega
            · have HE : Hid (OutIs t [] l.length 3) := iT.1.bad ht8 (.inl ⟨by rw [← HM.out]; exact hlt, .inr fun y hy he => by
                have e := HX.out y hy (by rw [HA.out]; exact he)
                rw [e] at he
                exact hE (by rw [HA.out]; exact he)⟩)
              have hne : lineB x1 x2 x3 x4 ≠ a ++ one 10 := fun h => hE ((line_iff (x1, x2, x3, x4) a).1 h)
              unfold one at hne
              have d1 : ((lineB x1 x2 x3 x4).toList == (a ++ ⟨#[10]⟩).toList) = false := ss.beqF hne
              clear hlb hE hR hsz HX hne
              obtain ⟨X, hX⟩ : ∃ X, X = lineB x1 x2 x3 x4 := ⟨_, rfl⟩
              rw [← hX] at htx d1
              clear hX
              refine wp_region_noPanic ?_
              refine wp_region_held_drew (S := fun u => (u.cell? ⟨p2, 0, none⟩ = some (.int .i64 x1) ∧ u.cell? ⟨p2, 1, none⟩ = some (.int .i64 x2) ∧ u.cell? ⟨p2, 2, none⟩ = some (.string x3) ∧ u.cell? ⟨p2, 3, none⟩ = some (.string x4)) ∧ u.cell? ⟨sb, so + l.length, none⟩ = some (.string a)) (by kernel_rfl) (HS.out _ (iT.up (rw.up_drew _))) (fun _ => ?_)
              refine rw.region_w (fun u => InT w v1 t q l (.slice p l.length c) p2 (x1, x2, x3, x4) u) (iT.up (rw.up_drew _)) ?_
              clear iT
              intro u i
              have hHeld : ((u.cell? ⟨p2, 0, none⟩ = some (.int .i64 x1) ∧ u.cell? ⟨p2, 1, none⟩ = some (.int .i64 x2) ∧ u.cell? ⟨p2, 2, none⟩ = some (.string x3) ∧ u.cell? ⟨p2, 3, none⟩ = some (.string x4)) ∧ u.cell? ⟨sb, so + l.length, none⟩ = some (.string a)) := HS.out u i
              refine wpAnyH_take (i := 0) (oi := { dst := some 26, op := Op.move (Operand.tmp 5), type := 3, pos := "l08_policy.go:86", after := #[], guard := none }) (v := ?_) rfl (by kernel_rfl) (by kernel_rfl) (by kernel_rfl) (fun _ _ _ h => h) (Or.inl ⟨by rfl, ?_⟩) hHeld ?_
              rotate_left
              · rintro w ⟨⟨z0, z1, z2, z3⟩, z4⟩; go_simp; (try with_reducible rfl)
              try simp only [Act.put, List.setIfInBounds_toArray, List.set_cons_zero, List.set_cons_succ]
              refine wpAnyH_take (i := 1) (oi := { dst := some 27, op := Op.binOp BinOp.geq 3 (Operand.tmp 26) (Operand.const (Value.int IntKind.i64 12)) 3, type := 4, pos := "l08_policy.go:86", after := #[{ on := 0, ground := Ground.data }], guard := none }) (v := .bool false) rfl (by kernel_rfl) (by kernel_rfl) (by kernel_rfl) (fun _ _ _ h => h) (Or.inl ⟨by rfl, ?_⟩) hHeld ?_
              · rintro w ⟨⟨z0, z1, z2, z3⟩, z4⟩; go_simp; (try with_reducible rfl)
              try simp only [Act.put, List.setIfInBounds_toArray, List.set_cons_zero, List.set_cons_succ]
              refine wpAnyH_take (i := 2) (oi := { dst := some 28, op := Op.move (Operand.tmp 27), type := 4, pos := "l08_policy.go:86", after := #[{ on := 1, ground := Ground.data }], guard := none }) (v := ?_) rfl (by kernel_rfl) (by kernel_rfl) (by kernel_rfl) (fun _ _ _ h => h) (Or.inl ⟨by rfl, ?_⟩) hHeld ?_
              rotate_left
              · rintro w ⟨⟨z0, z1, z2, z3⟩, z4⟩; go_simp; (try with_reducible rfl)
              try simp only [Act.put, List.setIfInBounds_toArray, List.set_cons_zero, List.set_cons_succ]
              refine wpAnyH_take (i := 3) (oi := { dst := some 29, op := Op.load 26 (Operand.tmp 6), type := 26, pos := "l08_policy.go:86", after := #[{ on := 2, ground := Ground.guard }], guard := some (2, false) }) (v := ?_) rfl (by kernel_rfl) (by kernel_rfl) (by kernel_rfl) (fun _ _ _ h => h) (Or.inl ⟨by rfl, ?_⟩) hHeld ?_
              rotate_left
              · rintro w ⟨⟨z0, z1, z2, z3⟩, z4⟩; go_simp; (try with_reducible rfl)
              try simp only [Act.put, List.setIfInBounds_toArray, List.set_cons_zero, List.set_cons_succ]
              refine wpAnyH_ready (rs := [4]) (by kernel_rfl) (by simp) ?_
              refine AllReadyH.cons rfl (fun K hK => ?_) AllReadyH.nil
              go_simp
              go_at_call 10
              refine (hrr u).mono ?_
              rintro r7 w7 ⟨rfl, hb⟩
              go_wp2_with fail
              refine hK.out _ _ (HS.out _ (i.up hb)) (fun _ => ?_)
              clear hK K hHeld
              try simp only [Act.put, List.setIfInBounds_toArray, List.set_cons_zero, List.set_cons_succ]
              refine rw.region_w (fun u => InT w v1 t q l (.slice p l.length c) p2 (x1, x2, x3, x4) u) (i.up hb) ?_
              clear i hb
              intro u i
              have hHeld : ((u.cell? ⟨p2, 0, none⟩ = some (.int .i64 x1) ∧ u.cell? ⟨p2, 1, none⟩ = some (.int .i64 x2) ∧ u.cell? ⟨p2, 2, none⟩ = some (.string x3) ∧ u.cell? ⟨p2, 3, none⟩ = some (.string x4)) ∧ u.cell? ⟨sb, so + l.length, none⟩ = some (.string a)) := HS.out u i
              refine wpAnyH_take (i := 5) (oi := { dst := some 31, op := Op.unOp UnOp.not 4 (Operand.tmp 30), type := 4, pos := "l08_policy.go:86", after := #[{ on := 4, ground := Ground.data }, { on := 2, ground := Ground.guard }], guard := some (2, false) }) (v := ?_) rfl (by kernel_rfl) (by kernel_rfl) (by kernel_rfl) (fun _ _ _ h => h) (Or.inl ⟨by rfl, ?_⟩) hHeld ?_
              rotate_left
              · rintro w ⟨⟨z0, z1, z2, z3⟩, z4⟩; go_simp; (try with_reducible rfl)
              try simp only [Act.put, List.setIfInBounds_toArray, List.set_cons_zero, List.set_cons_succ]
              refine wpAnyH_take (i := 6) (oi := { dst := some 32, op := Op.pick (Operand.tmp 28) (Operand.const (Value.bool true)) (Operand.tmp 31), type := 4, pos := "l08_policy.go:86", after := #[{ on := 2, ground := Ground.data }, { on := 5, ground := Ground.data }], guard := none }) (v := ?_) rfl (by kernel_rfl) (by kernel_rfl) (by kernel_rfl) (fun _ _ _ h => h) (Or.inl ⟨by rfl, ?_⟩) hHeld ?_
              rotate_left
              · rintro w ⟨⟨z0, z1, z2, z3⟩, z4⟩; go_simp; (try with_reducible rfl)
              try simp only [Act.put, List.setIfInBounds_toArray, List.set_cons_zero, List.set_cons_succ]
              refine wpAnyH_take (i := 7) (oi := { dst := some 33, op := Op.move (Operand.tmp 32), type := 4, pos := "l08_policy.go:86", after := #[{ on := 6, ground := Ground.data }, { on := 4, ground := Ground.chain }], guard := none }) (v := ?_) rfl (by kernel_rfl) (by kernel_rfl) (by kernel_rfl) (fun _ _ _ h => h) (Or.inl ⟨by rfl, ?_⟩) hHeld ?_
              rotate_left
              · rintro w ⟨⟨z0, z1, z2, z3⟩, z4⟩; go_simp; (try with_reducible rfl)
              try simp only [Act.put, List.setIfInBounds_toArray, List.set_cons_zero, List.set_cons_succ]
              refine wpAnyH_take (i := 8) (oi := { dst := some 34, op := Op.load 26 (Operand.tmp 6), type := 26, pos := "l08_policy.go:86", after := #[{ on := 7, ground := Ground.guard }], guard := some (7, false) }) (v := ?_) rfl (by kernel_rfl) (by kernel_rfl) (by kernel_rfl) (fun _ _ _ h => h) (Or.inl ⟨by rfl, ?_⟩) hHeld ?_
              rotate_left
              · rintro w ⟨⟨z0, z1, z2, z3⟩, z4⟩; go_simp; (try with_reducible rfl)
              try simp only [Act.put, List.setIfInBounds_toArray, List.set_cons_zero, List.set_cons_succ]
              refine wpAnyH_take (i := 10) (oi := { dst := some 36, op := Op.move (Operand.tmp 3), type := 57, pos := "l08_policy.go:86", after := #[{ on := 7, ground := Ground.guard }], guard := some (7, false) }) (v := ?_) rfl (by kernel_rfl) (by kernel_rfl) (by kernel_rfl) (fun _ _ _ h => h) (Or.inl ⟨by rfl, ?_⟩) hHeld ?_
              rotate_left
              · rintro w ⟨⟨z0, z1, z2, z3⟩, z4⟩; go_simp; (try with_reducible rfl)
              try simp only [Act.put, List.setIfInBounds_toArray, List.set_cons_zero, List.set_cons_succ]
              refine wpAnyH_take (i := 11) (oi := { dst := some 37, op := Op.move (Operand.tmp 5), type := 3, pos := "l08_policy.go:86", after := #[{ on := 7, ground := Ground.guard }], guard := some (7, false) }) (v := ?_) rfl (by kernel_rfl) (by kernel_rfl) (by kernel_rfl) (fun _ _ _ h => h) (Or.inl ⟨by rfl, ?_⟩) hHeld ?_
              rotate_left
              · rintro w ⟨⟨z0, z1, z2, z3⟩, z4⟩; go_simp; (try with_reducible rfl)
              try simp only [Act.put, List.setIfInBounds_toArray, List.set_cons_zero, List.set_cons_succ]
              refine wpAnyH_take (i := 12) (oi := { dst := some 38, op := Op.indexAddr 57 (Operand.tmp 36) (Operand.tmp 37), type := 0, pos := "l08_policy.go:86", after := #[{ on := 10, ground := Ground.data }, { on := 11, ground := Ground.data }, { on := 7, ground := Ground.guard }], guard := some (7, false) }) (v := ?_) rfl (by kernel_rfl) (by kernel_rfl) (by kernel_rfl) (fun _ _ _ h => h) (Or.inl ⟨by rfl, ?_⟩) hHeld ?_
              rotate_left
              · rintro w ⟨⟨z0, z1, z2, z3⟩, z4⟩; go_simp; (try with_reducible rfl)
              try simp only [Act.put, List.setIfInBounds_toArray, List.set_cons_zero, List.set_cons_succ]
              refine wpAnyH_take (i := 13) (oi := { dst := some 39, op := Op.load 9 (Operand.tmp 38), type := 9, pos := "l08_policy.go:86", after := #[{ on := 12, ground := Ground.data }, { on := 7, ground := Ground.guard }], guard := some (7, false) }) (v := ?_) rfl (by kernel_rfl) (by kernel_rfl) (by kernel_rfl) (fun _ _ _ h => h) (Or.inl ⟨by rfl, ?_⟩) hHeld ?_
              rotate_left
              · rintro w ⟨⟨z0, z1, z2, z3⟩, z4⟩; go_simp; (try with_reducible rfl)
              try simp only [Act.put, List.setIfInBounds_toArray, List.set_cons_zero, List.set_cons_succ]
              refine wpAnyH_take (i := 14) (oi := { dst := some 40, op := Op.binOp BinOp.add 9 (Operand.tmp 39) (Operand.const (Value.string { data := #[10] })) 9, type := 9, pos := "l08_policy.go:86", after := #[{ on := 13, ground := Ground.data }, { on := 7, ground := Ground.guard }], guard := some (7, false) }) (v := ?_) rfl (by kernel_rfl) (by kernel_rfl) (by kernel_rfl) (fun _ _ _ h => h) (Or.inl ⟨by rfl, ?_⟩) hHeld ?_
              rotate_left
              · rintro w ⟨⟨z0, z1, z2, z3⟩, z4⟩; go_simp; (try with_reducible rfl)
              try simp only [Act.put, List.setIfInBounds_toArray, List.set_cons_zero, List.set_cons_succ]
              refine wpAnyH_ready (rs := [9]) (by kernel_rfl) (by simp) ?_
              refine AllReadyH.cons rfl (fun K hK => ?_) AllReadyH.nil
              go_simp
              go_at_call 37
              refine (htx u).mono ?_
              rintro r7 w7 ⟨rfl, hb⟩
              go_wp2_with fail
              refine hK.out _ _ (HS.out _ (i.up hb)) (fun _ => ?_)
              clear hK K hHeld
              try simp only [Act.put, List.setIfInBounds_toArray, List.set_cons_zero, List.set_cons_succ]
              refine rw.region_w (fun u => InT w v1 t q l (.slice p l.length c) p2 (x1, x2, x3, x4) u) (i.up hb) ?_
              clear i hb
              intro u i
              have hHeld : ((u.cell? ⟨p2, 0, none⟩ = some (.int .i64 x1) ∧ u.cell? ⟨p2, 1, none⟩ = some (.int .i64 x2) ∧ u.cell? ⟨p2, 2, none⟩ = some (.string x3) ∧ u.cell? ⟨p2, 3, none⟩ = some (.string x4)) ∧ u.cell? ⟨sb, so + l.length, none⟩ = some (.string a)) := HS.out u i
              refine wpAnyH_take (i := 15) (oi := { dst := some 41, op := Op.binOp BinOp.neq 9 (Operand.tmp 35) (Operand.tmp 40) 9, type := 4, pos := "l08_policy.go:86", after := #[{ on := 9, ground := Ground.data }, { on := 14, ground := Ground.data }, { on := 7, ground := Ground.guard }], guard := some (7, false) }) (v := .bool true) rfl (by kernel_rfl) (by kernel_rfl) (by kernel_rfl) (fun _ _ _ h => h) (Or.inl ⟨by rfl, ?_⟩) hHeld ?_
              · rintro w ⟨⟨z0, z1, z2, z3⟩, z4⟩; go_simp; (try with_reducible rfl)
              try simp only [Act.put, List.setIfInBounds_toArray, List.set_cons_zero, List.set_cons_succ]
              refine wpAnyH_take (i := 16) (oi := { dst := some 42, op := Op.pick (Operand.tmp 33) (Operand.const (Value.bool true)) (Operand.tmp 41), type := 4, pos := "l08_policy.go:86", after := #[{ on := 7, ground := Ground.data }, { on := 15, ground := Ground.data }], guard := none }) (v := ?_) rfl (by kernel_rfl) (by kernel_rfl) (by kernel_rfl) (fun _ _ _ h => h) (Or.inl ⟨by rfl, ?_⟩) hHeld ?_
              rotate_left
              · rintro w ⟨⟨z0, z1, z2, z3⟩, z4⟩; go_simp; (try with_reducible rfl)
              try simp only [Act.put, List.setIfInBounds_toArray, List.set_cons_zero, List.set_cons_succ]
              refine wpAnyH_done (by kernel_rfl) ?_ _
              refine NoPanic.normal ?_
              obtain ⟨⟨c0, c1, c2⟩, f0⟩ := i.1.cells
              have HF : Hid _ := i.1.err l.length 3
              clear i hHeld HS
              go_wp2
              obtain ⟨d1, d2, d3⟩ := HF.out
              exact bodyPost_ret (results_cell_row Tryd.results20 _ _ w.heap.size _ #[.slice none 0 0, .int .i64 l.length, .int .i64 3] _ _ rfl d2 Tryd.underlying38 rfl infoPO) rfl ⟨[], _, _, _, rfl, HE.out, d1, d3⟩
          · rw [decide_eq_false hR] at hrr
            have HE : Hid (OutIs t [] l.length 3) := iT.1.bad ht8 (.inl ⟨by rw [← HM.out]; exact hlt, .inr fun y hy he => by
              have e := HX.out y hy (by rw [HA.out]; exact he)
              rw [e] at hy
              exact hR hy⟩)
            clear hR HX
            refine wp_region_noPanic ?_
            refine wp_region_held_drew (S := fun u => (u.cell? ⟨p2, 0, none⟩ = some (.int .i64 x1) ∧ u.cell? ⟨p2, 1, none⟩ = some (.int .i64 x2) ∧ u.cell? ⟨p2, 2, none⟩ = some (.string x3) ∧ u.cell? ⟨p2, 3, none⟩ = some (.string x4)) ∧ u.cell? ⟨sb, so + l.length, none⟩ = some (.string a)) (by kernel_rfl) (HS.out _ (iT.up (rw.up_drew _))) (fun _ => ?_)
            refine rw.region_w (fun u => InT w v1 t q l (.slice p l.length c) p2 (x1, x2, x3, x4) u) (iT.up (rw.up_drew _)) ?_
            clear iT
            intro u i
            have hHeld : ((u.cell? ⟨p2, 0, none⟩ = some (.int .i64 x1) ∧ u.cell? ⟨p2, 1, none⟩ = some (.int .i64 x2) ∧ u.cell? ⟨p2, 2, none⟩ = some (.string x3) ∧ u.cell? ⟨p2, 3, none⟩ = some (.string x4)) ∧ u.cell? ⟨sb, so + l.length, none⟩ = some (.string a)) := HS.out u i
            refine wpAnyH_take (i := 0) (oi := { dst := some 26, op := Op.move (Operand.tmp 5), type := 3, pos := "l08_policy.go:86", after := #[], guard := none }) (v := ?_) rfl (by kernel_rfl) (by kernel_rfl) (by kernel_rfl) (fun _ _ _ h => h) (Or.inl ⟨by rfl, ?_⟩) hHeld ?_
            rotate_left
            · rintro w ⟨⟨z0, z1, z2, z3⟩, z4⟩; go_simp; (try with_reducible rfl)
            try simp only [Act.put, List.setIfInBounds_toArray, List.set_cons_zero, List.set_cons_succ]
            refine wpAnyH_take (i := 1) (oi := { dst := some 27, op := Op.binOp BinOp.geq 3 (Operand.tmp 26) (Operand.const (Value.int IntKind.i64 12)) 3, type := 4, pos := "l08_policy.go:86", after := #[{ on := 0, ground := Ground.data }], guard := none }) (v := .bool false) rfl (by kernel_rfl) (by kernel_rfl) (by kernel_rfl) (fun _ _ _ h => h) (Or.inl ⟨by rfl, ?_⟩) hHeld ?_
            · rintro w ⟨⟨z0, z1, z2, z3⟩, z4⟩; go_simp; (try with_reducible rfl)
            try simp only [Act.put, List.setIfInBounds_toArray, List.set_cons_zero, List.set_cons_succ]
            refine wpAnyH_take (i := 2) (oi := { dst := some 28, op := Op.move (Operand.tmp 27), type := 4, pos := "l08_policy.go:86", after := #[{ on := 1, ground := Ground.data }], guard := none }) (v := ?_) rfl (by kernel_rfl) (by kernel_rfl) (by kernel_rfl) (fun _ _ _ h => h) (Or.inl ⟨by rfl, ?_⟩) hHeld ?_
            rotate_left
            · rintro w ⟨⟨z0, z1, z2, z3⟩, z4⟩; go_simp; (try with_reducible rfl)
            try simp only [Act.put, List.setIfInBounds_toArray, List.set_cons_zero, List.set_cons_succ]
            refine wpAnyH_take (i := 3) (oi := { dst := some 29, op := Op.load 26 (Operand.tmp 6), type := 26, pos := "l08_policy.go:86", after := #[{ on := 2, ground := Ground.guard }], guard := some (2, false) }) (v := ?_) rfl (by kernel_rfl) (by kernel_rfl) (by kernel_rfl) (fun _ _ _ h => h) (Or.inl ⟨by rfl, ?_⟩) hHeld ?_
            rotate_left
            · rintro w ⟨⟨z0, z1, z2, z3⟩, z4⟩; go_simp; (try with_reducible rfl)
            try simp only [Act.put, List.setIfInBounds_toArray, List.set_cons_zero, List.set_cons_succ]
            refine wpAnyH_ready (rs := [4]) (by kernel_rfl) (by simp) ?_
            refine AllReadyH.cons rfl (fun K hK => ?_) AllReadyH.nil
            go_simp
            go_at_call 10
            refine (hrr u).mono ?_
            rintro r7 w7 ⟨rfl, hb⟩
            go_wp2_with fail
            refine hK.out _ _ (HS.out _ (i.up hb)) (fun _ => ?_)
            clear hK K hHeld
            try simp only [Act.put, List.setIfInBounds_toArray, List.set_cons_zero, List.set_cons_succ]
            refine rw.region_w (fun u => InT w v1 t q l (.slice p l.length c) p2 (x1, x2, x3, x4) u) (i.up hb) ?_
            clear i hb
            intro u i
            have hHeld : ((u.cell? ⟨p2, 0, none⟩ = some (.int .i64 x1) ∧ u.cell? ⟨p2, 1, none⟩ = some (.int .i64 x2) ∧ u.cell? ⟨p2, 2, none⟩ = some (.string x3) ∧ u.cell? ⟨p2, 3, none⟩ = some (.string x4)) ∧ u.cell? ⟨sb, so + l.length, none⟩ = some (.string a)) := HS.out u i
            refine wpAnyH_take (i := 5) (oi := { dst := some 31, op := Op.unOp UnOp.not 4 (Operand.tmp 30), type := 4, pos := "l08_policy.go:86", after := #[{ on := 4, ground := Ground.data }, { on := 2, ground := Ground.guard }], guard := some (2, false) }) (v := ?_) rfl (by kernel_rfl) (by kernel_rfl) (by kernel_rfl) (fun _ _ _ h => h) (Or.inl ⟨by rfl, ?_⟩) hHeld ?_
            rotate_left
            · rintro w ⟨⟨z0, z1, z2, z3⟩, z4⟩; go_simp; (try with_reducible rfl)
            try simp only [Act.put, List.setIfInBounds_toArray, List.set_cons_zero, List.set_cons_succ]
            refine wpAnyH_take (i := 6) (oi := { dst := some 32, op := Op.pick (Operand.tmp 28) (Operand.const (Value.bool true)) (Operand.tmp 31), type := 4, pos := "l08_policy.go:86", after := #[{ on := 2, ground := Ground.data }, { on := 5, ground := Ground.data }], guard := none }) (v := ?_) rfl (by kernel_rfl) (by kernel_rfl) (by kernel_rfl) (fun _ _ _ h => h) (Or.inl ⟨by rfl, ?_⟩) hHeld ?_
            rotate_left
            · rintro w ⟨⟨z0, z1, z2, z3⟩, z4⟩; go_simp; (try with_reducible rfl)
            try simp only [Act.put, List.setIfInBounds_toArray, List.set_cons_zero, List.set_cons_succ]
            refine wpAnyH_take (i := 7) (oi := { dst := some 33, op := Op.move (Operand.tmp 32), type := 4, pos := "l08_policy.go:86", after := #[{ on := 6, ground := Ground.data }, { on := 4, ground := Ground.chain }], guard := none }) (v := ?_) rfl (by kernel_rfl) (by kernel_rfl) (by kernel_rfl) (fun _ _ _ h => h) (Or.inl ⟨by rfl, ?_⟩) hHeld ?_
            rotate_left
            · rintro w ⟨⟨z0, z1, z2, z3⟩, z4⟩; go_simp; (try with_reducible rfl)
            try simp only [Act.put, List.setIfInBounds_toArray, List.set_cons_zero, List.set_cons_succ]
            refine wpAnyH_take (i := 8) (oi := { dst := some 34, op := Op.load 26 (Operand.tmp 6), type := 26, pos := "l08_policy.go:86", after := #[{ on := 7, ground := Ground.guard }], guard := some (7, false) }) (v := undef) rfl (by kernel_rfl) (by kernel_rfl) (by kernel_rfl) (fun _ _ _ h => h) (Or.inr ⟨by rfl, rfl⟩) hHeld ?_
            try simp only [Act.put, List.setIfInBounds_toArray, List.set_cons_zero, List.set_cons_succ]
            refine wpAnyH_take (i := 9) (oi := { dst := some 35, op := Op.call { callee := Callee.value (Operand.func 37), args := #[Operand.tmp 34], argTypes := #[26] }, type := 9, pos := "l08_policy.go:86", after := #[{ on := 8, ground := Ground.data }, { on := 7, ground := Ground.chain }, { on := 7, ground := Ground.guard }], guard := some (7, false) }) (v := undef) rfl (by kernel_rfl) (by kernel_rfl) (by kernel_rfl) (fun _ _ _ h => h) (Or.inr ⟨by rfl, rfl⟩) hHeld ?_
            try simp only [Act.put, List.setIfInBounds_toArray, List.set_cons_zero, List.set_cons_succ]
            refine wpAnyH_take (i := 10) (oi := { dst := some 36, op := Op.move (Operand.tmp 3), type := 57, pos := "l08_policy.go:86", after := #[{ on := 7, ground := Ground.guard }], guard := some (7, false) }) (v := undef) rfl (by kernel_rfl) (by kernel_rfl) (by kernel_rfl) (fun _ _ _ h => h) (Or.inr ⟨by rfl, rfl⟩) hHeld ?_
            try simp only [Act.put, List.setIfInBounds_toArray, List.set_cons_zero, List.set_cons_succ]
            refine wpAnyH_take (i := 11) (oi := { dst := some 37, op := Op.move (Operand.tmp 5), type := 3, pos := "l08_policy.go:86", after := #[{ on := 7, ground := Ground.guard }], guard := some (7, false) }) (v := undef) rfl (by kernel_rfl) (by kernel_rfl) (by kernel_rfl) (fun _ _ _ h => h) (Or.inr ⟨by rfl, rfl⟩) hHeld ?_
            try simp only [Act.put, List.setIfInBounds_toArray, List.set_cons_zero, List.set_cons_succ]
            refine wpAnyH_take (i := 12) (oi := { dst := some 38, op := Op.indexAddr 57 (Operand.tmp 36) (Operand.tmp 37), type := 0, pos := "l08_policy.go:86", after := #[{ on := 10, ground := Ground.data }, { on := 11, ground := Ground.data }, { on := 7, ground := Ground.guard }], guard := some (7, false) }) (v := undef) rfl (by kernel_rfl) (by kernel_rfl) (by kernel_rfl) (fun _ _ _ h => h) (Or.inr ⟨by rfl, rfl⟩) hHeld ?_
            try simp only [Act.put, List.setIfInBounds_toArray, List.set_cons_zero, List.set_cons_succ]
            refine wpAnyH_take (i := 13) (oi := { dst := some 39, op := Op.load 9 (Operand.tmp 38), type := 9, pos := "l08_policy.go:86", after := #[{ on := 12, ground := Ground.data }, { on := 7, ground := Ground.guard }], guard := some (7, false) }) (v := undef) rfl (by kernel_rfl) (by kernel_rfl) (by kernel_rfl) (fun _ _ _ h => h) (Or.inr ⟨by rfl, rfl⟩) hHeld ?_
            try simp only [Act.put, List.setIfInBounds_toArray, List.set_cons_zero, List.set_cons_succ]
            refine wpAnyH_take (i := 14) (oi := { dst := some 40, op := Op.binOp BinOp.add 9 (Operand.tmp 39) (Operand.const (Value.string { data := #[10] })) 9, type := 9, pos := "l08_policy.go:86", after := #[{ on := 13, ground := Ground.data }, { on := 7, ground := Ground.guard }], guard := some (7, false) }) (v := undef) rfl (by kernel_rfl) (by kernel_rfl) (by kernel_rfl) (fun _ _ _ h => h) (Or.inr ⟨by rfl, rfl⟩) hHeld ?_
            try simp only [Act.put, List.setIfInBounds_toArray, List.set_cons_zero, List.set_cons_succ]
            refine wpAnyH_take (i := 15) (oi := { dst := some 41, op := Op.binOp BinOp.neq 9 (Operand.tmp 35) (Operand.tmp 40) 9, type := 4, pos := "l08_policy.go:86", after := #[{ on := 9, ground := Ground.data }, { on := 14, ground := Ground.data }, { on := 7, ground := Ground.guard }], guard := some (7, false) }) (v := undef) rfl (by kernel_rfl) (by kernel_rfl) (by kernel_rfl) (fun _ _ _ h => h) (Or.inr ⟨by rfl, rfl⟩) hHeld ?_
            try simp only [Act.put, List.setIfInBounds_toArray, List.set_cons_zero, List.set_cons_succ]
            refine wpAnyH_take (i := 16) (oi := { dst := some 42, op := Op.pick (Operand.tmp 33) (Operand.const (Value.bool true)) (Operand.tmp 41), type := 4, pos := "l08_policy.go:86", after := #[{ on := 7, ground := Ground.data }, { on := 15, ground := Ground.data }], guard := none }) (v := ?_) rfl (by kernel_rfl) (by kernel_rfl) (by kernel_rfl) (fun _ _ _ h => h) (Or.inl ⟨by rfl, ?_⟩) hHeld ?_
            rotate_left
            · rintro w ⟨⟨z0, z1, z2, z3⟩, z4⟩; go_simp; (try with_reducible rfl)
            try simp only [Act.put, List.setIfInBounds_toArray, List.set_cons_zero, List.set_cons_succ]
            refine wpAnyH_done (by kernel_rfl) ?_ _
            refine NoPanic.normal ?_
            obtain ⟨⟨c0, c1, c2⟩, f0⟩ := i.1.cells
            have HF : Hid _ := i.1.err l.length 3
            clear i hHeld HS
            go_wp2
            obtain ⟨d1, d2, d3⟩ := HF.out
            exact bodyPost_ret (results_cell_row Tryd.results20 _ _ w.heap.size _ #[.slice none 0 0, .int .i64 l.length, .int .i64 3] _ _ rfl d2 Tryd.underlying38 rfl infoPO) rfl ⟨[], _, _, _, rfl, HE.out, d1, d3⟩
      · have hli : ¬ (l.length : Int) < (m : Int) - 1 := by omega
        have cp := HR.out _ i.1.2.2 (m - 1) (by omega)
        have hml : m - 1 = l.length := by omega
        have ht2 : ((m : Int) - 1).toNat = m - 1 := by omega
        have hge : ¬ ((m : Int) - 1) < 0 := by omega
        have hge2 : (0 : Int) ≤ ((m : Int) - 1) := by omega
        have hlt2 : ((m : Int) - 1) < (m : Int) := by omega
        by_cases hs : (Pcs t 0 0).getD l.length nob = nob
        · have HO : Hid (OutIs t l 0 0) := .inr ⟨ht8, l, i.2.2.2.1, .inr ⟨by rw [← HM.out]; omega, hs, rfl, rfl, rfl⟩⟩
          rw [hml, hs] at cp
          rw [← hml] at cp
          have hsl : (nob.toList == []) = true := by rw [ByteArray.toList_eq]; rfl
          obtain ⟨⟨r0, r1, r2⟩, f0⟩ := i.cells
          obtain ⟨c0, c1, c2⟩ := i.qcells
          have HF : Hid _ := i.tell
          clear i hs hml
          unfold nob at cp hsl
          go_wp2
          obtain ⟨d1, d2, d3⟩ := HF.out
          exact bodyPost_ret (results_cell_row Tryd.results20 _ _ w.heap.size _ #[.slice p l.length c, .int .i64 0, .int .i64 0] _ _ rfl d2 Tryd.underlying38 rfl infoPO) rfl ⟨l, _, _, _, rfl, HO.out, d1, d3⟩
        · have HE : Hid (OutIs t [] ((m : Int) - 1) 3) := by
            have e : (m : Int) - 1 = l.length := by omega
            rw [e]
            exact i.bad ht8 (.inr ⟨by rw [← HM.out]; omega, hs⟩)
          have hsl := ne_nob hs
          obtain ⟨⟨r0, r1, r2⟩, f0⟩ := i.cells
          have HF : Hid _ := i.err ((m : Int) - 1) 3
          rw [← hml] at hsl
          obtain ⟨z, hz⟩ : ∃ z, z = (Pcs t 0 0).getD (m - 1) nob := ⟨_, rfl⟩
          rw [← hz] at hsl cp
          clear i hml hz hs
          go_wp2
          obtain ⟨d1, d2, d3⟩ := HF.out
          exact bodyPost_ret (results_cell_row Tryd.results20 _ _ w.heap.size _ #[.slice none 0 0, .int .i64 ((m : Int) - 1), .int .i64 3] _ _ rfl d2 Tryd.underlying38 rfl infoPO) rfl ⟨[], _, _, _, rfl, HE.out, d1, d3⟩
end Go.Proofs.YtndjjhcdnlkekaaDoor.cu
