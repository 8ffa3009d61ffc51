/-
  The law's own helpers on senders: measured, copied, held against another; no old block turns. No condition.
-/
import Derived.Test.YtjjfdkmhoocfhaaStT
import Derived.Test.YtjjfdkmhoocfhaaRegW
namespace Go.Proofs.Ytjjfdkmhoocfhaa.st
open Go.ChangeShapes Go.WideShapes Go.ChangeAt Go.RowKit
open Go.Proofs.Ytjjfdkmhoocfhaa.wi (heap_lt calls_w wp_w)
set_option linter.unusedVariables false

theorem infoS1 : (Try.prog.info? 49).map (·.size) = some 1 := by kernel_rfl
theorem ret_i {a b : Int} (h : a = b) : Ending.returned (.int .i64 a) = .returned (.int .i64 b) := by rw [h]
set_option maxHeartbeats 4000000 in
theorem szSnd_any (v : Value) (l : List Ln) (left : Int) (w : World) (h0 : 0 ≤ left) (h1 : left ≤ 1048576) (hl : l.length ≤ maxLen) (hz : ∀ r ∈ l, r.2.size ≤ maxLen) (hv : SliceIs w v l) :
    Calls Try.prog 19 #[.agg #[v], .int .i64 left] w fun r w' => r = .returned (.int .i64 (szV left l)) ∧ Below w.heap.size w w' := by
  have HB0 : Hid (∀ o, Below w.heap.size w (w.alloc o)) := fun o => (Below.refl _ _).alloc (Nat.le_refl _) o
  have HV : Hid (∀ u, Below w.heap.size w u → SliceIs u v l) := fun u hu => hv.up hu
  have hx : szV left l = -1 ∨ 0 ≤ szV left l := by
    unfold szV
    split
    · exact .inl rfl
    · rename_i h; exact .inr (by omega)
  clear hv
  go_enter Try.func19, Try.ntmps19
  go_wp2_with (go_at_call 44; fail)
  refine calls_w (fun u => Below w.heap.size w u) (HB0.out _) ?_
  clear HB0
  intro u hu
  refine (szStates_any v l left u h0 h1 hl hz (HV.out u hu)).mono ?_
  rintro r w1 ⟨rfl, hb1⟩
  have HB : Hid (Below w.heap.size w w1) := hu.trans (hb1.mono hu.size)
  clear hu hb1 HV hz
  rcases hx with hx | hx
  · have HX : Hid (-1 = szV left l) := hx.symm
    rw [hx]
    clear hx
    go_wp2
    go_ret
    exact ⟨ret_i HX.out, HB.out⟩
  · have d : decide (szV left l < 0) = false := decide_eq_false (by omega)
    obtain ⟨y, hy⟩ : ∃ y, y = szV left l := ⟨_, rfl⟩
    have HX : Hid (y = szV left l) := hy
    rw [← hy] at d ⊢
    clear hx hy
    go_wp2
    go_ret
    exact ⟨ret_i HX.out, HB.out⟩
set_option maxHeartbeats 8000000 in
theorem toSnd_any (v : Value) (l : List Ln) (w : World) (hl : l.length ≤ 1048576) (hv : SliceIs w v l) :
    Calls Try.prog 21 #[.agg #[v]] w fun r w' => ∃ g, r = .returned (.agg #[.slice (some ⟨g, 0, none⟩) l.length l.length]) ∧ Below w.heap.size w w' ∧ Blk w' g l ∧ w.heap.size ≤ g := by
  have HI0 : Hid ((fun u => Below w.heap.size w u ∧ rw.At u (w.heap.size + 1) #[.slice none 0 0] 49 ∧ rw.At u (w.heap.size + 1 + 1) #[.slice none 0 0] 49) (((w.alloc (.cells #[v] 44)).alloc (.cells #[.slice none 0 0] 49)).alloc (.cells #[.slice none 0 0] 49))) := by
    refine ⟨(((Below.refl _ _).alloc (Nat.le_refl _) _).alloc (by simp) _).alloc (by simp; omega) _, ?_, ?_⟩
    · exact (Below.heap_alloc _ _ _ (by simp)).trans (by simpa using heap_alloc_new (w.alloc (.cells #[v] 44)) (.cells #[.slice none 0 0] 49))
    · have := rw.At.new ((w.alloc (.cells #[v] 44)).alloc (.cells #[.slice none 0 0] 49)) #[.slice none 0 0] 49
      simpa using this
  have HV : Hid (∀ u, Below w.heap.size w u → SliceIs u v l) := fun u hu => hv.up hu
  clear hv
  go_enter Try.func21, Try.ntmps21
  go_wp2_with (go_at_call 45; fail)
  refine calls_w (fun u => Below w.heap.size w u ∧ rw.At u (w.heap.size + 1) #[.slice none 0 0] 49 ∧ rw.At u (w.heap.size + 1 + 1) #[.slice none 0 0] 49) HI0.out ?_
  clear HI0
  rintro u ⟨hu, h1, h2⟩
  refine (toStates_any v l u hl (HV.out u hu)).mono ?_
  rintro r w1 ⟨rfl, hb1, hk1⟩
  have hg : w.heap.size + 1 + 1 < u.heap.size := h2.lt
  obtain ⟨g, hge⟩ : ∃ g, g = u.heap.size := ⟨_, rfl⟩
  rw [← hge] at hk1 hg ⊢
  have hB1 : Below w.heap.size w w1 := hu.trans (hb1.mono hu.size)
  replace h1 := h1.up hb1
  replace h2 := h2.up hb1
  have o0 : w1.cell? ⟨w.heap.size + 1 + 1, 0, none⟩ = some (.slice none 0 0) := h2.cell 0
  have r0 : w1.cell? ⟨w.heap.size + 1, 0, none⟩ = some (.slice none 0 0) := h1.cell 0
  have f0 : ∀ k, w1.frozen? ⟨w.heap.size + 1 + 1, k, none⟩ = false := fun k => h2.frozen k
  have g0 : ∀ k, w1.frozen? ⟨w.heap.size + 1, k, none⟩ = false := fun k => h1.frozen k
  have HR : Hid (rw.At ((w1.setCell ⟨w.heap.size + 1 + 1, 0, none⟩ (.slice (some ⟨g, 0, none⟩) l.length l.length)).setCell ⟨w.heap.size + 1, 0, none⟩ (.slice (some ⟨g, 0, none⟩) l.length l.length)) (w.heap.size + 1) #[.slice (some ⟨g, 0, none⟩) l.length l.length] 49) := (h1.far (by omega) 0 _).set 0 _
  have HB2 : Hid (Below w.heap.size w ((w1.setCell ⟨w.heap.size + 1 + 1, 0, none⟩ (.slice (some ⟨g, 0, none⟩) l.length l.length)).setCell ⟨w.heap.size + 1, 0, none⟩ (.slice (some ⟨g, 0, none⟩) l.length l.length))) := (hB1.setCell (by simp; omega) _).setCell (by simp) _
  have HK2 : Hid (Blk ((w1.setCell ⟨w.heap.size + 1 + 1, 0, none⟩ (.slice (some ⟨g, 0, none⟩) l.length l.length)).setCell ⟨w.heap.size + 1, 0, none⟩ (.slice (some ⟨g, 0, none⟩) l.length l.length)) g l) := by
    show _ = _
    rw [heap_setCell_other _ _ _ _ (by simp; omega), heap_setCell_other _ _ _ _ (by simp; omega)]; exact hk1
  clear hu hb1 hge h1 h2 hk1 hB1 HV
  go_wp2
  exact bodyPost_ret (results_cell_row Try.results21 _ _ (w.heap.size + 1) _ #[.slice (some ⟨g, 0, none⟩) l.length l.length] _ _ rfl HR.out Try.underlying49 rfl infoS1) rfl ⟨g, rfl, HB2.out, HK2.out, by omega⟩
set_option maxHeartbeats 8000000 in
theorem eqSnd_any (va vb : Value) (l : List Ln) (w : World) (hl : l.length ≤ maxLen) (ha : SliceIs w va l) (hb : SliceIs w vb l) :
    Calls Try.prog 23 #[.agg #[va], .agg #[vb]] w fun r w' => r = .returned (.bool true) ∧ Below w.heap.size w w' := by
  have HB0 : Hid (∀ o p, Below w.heap.size w ((w.alloc o).alloc p)) := fun o p => ((Below.refl _ _).alloc (Nat.le_refl _) _).alloc (by simp) _
  have HE : Hid (∀ u, Below w.heap.size w u → Calls Try.prog 47 #[va, vb] u fun r w' => r = .returned (.bool true) ∧ Below u.heap.size u w') := fun u hu => eqStates_any va vb l u hl (ha.up hu) (hb.up hu)
  clear ha hb
  go_enter Try.func23, Try.ntmps23
  go_wp2_with (go_at_call 47; fail)
  refine calls_w (fun u => Below w.heap.size w u) (HB0.out _ _) ?_
  clear HB0
  intro u hu
  refine (HE.out u hu).mono ?_
  rintro r w1 ⟨rfl, hb1⟩
  have HB : Hid (Below w.heap.size w w1) := hu.trans (hb1.mono hu.size)
  clear hu hb1 HE
  go_wp2
  go_ret
  exact ⟨rfl, HB.out⟩
end Go.Proofs.Ytjjfdkmhoocfhaa.st
