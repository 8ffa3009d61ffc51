/-
  The walk of the law that holds the program's SenderRight against the model's: true at every sender. No condition.
-/
import Derived.Test.YtjjfdkmhoocfhaaStLs
import Derived.Test.YtjjfdkmhoocfhaaStR2
namespace Go.Proofs.Ytjjfdkmhoocfhaa.st
open Go.ChangeShapes Go.WideShapes Go.ChangeAt Go.RowKit
open Go.Proofs.Ytjjfdkmhoocfhaa.wi (heap_lt calls_w wp_w)
open Classical
set_option linter.unusedVariables false

set_option maxHeartbeats 8000000 in
theorem lawSenderRight (w : World) (v : Value) (l : List Ln) (hl : l.length ≤ maxLen) (hz : ∀ r ∈ l, r.2.size ≤ maxLen) (hv : SliceIs w v l) :
    Calls Try.prog 5 #[.agg #[v]] w fun r w' => r = .returned (.bool true) ∧ Below w.heap.size w w' := by
  have HI : Hid (InA w v (w.alloc (.cells #[v] 44))) := InA.new
  have HV : Hid (∀ u, Below w.heap.size w u → SliceIs u v l) := fun u hu => hv.up hu
  clear hv
  go_enter Try.func5, Try.ntmps5
  go_wp2_with (go_at_call 19; fail)
  refine calls_w (InA w v) HI.out ?_
  clear HI
  intro u i
  refine (szSnd_any v l 1048576 u (by decide) (Int.le_refl _) hl hz (HV.out _ i.1)).mono ?_
  rintro r u1 ⟨rfl, hb⟩
  replace i := i.up hb
  clear hb
  by_cases hneg : szV 1048576 l < 0
  · have d : decide (szV 1048576 l < 0) = true := decide_eq_true hneg
    have HB : Hid (Below w.heap.size w u1) := i.1
    generalize szV 1048576 l = z at *
    clear i hz
    go_wp2
    go_ret
    exact ⟨rfl, HB.out⟩
  · obtain ⟨hs2, _⟩ := szV_ok hneg (Int.le_refl _)
    have d : decide (szV 1048576 l < 0) = false := decide_eq_false hneg
    generalize szV 1048576 l = z at *
    have x0 := i.cell
    go_wp2_with (go_at_call 21; fail)
    refine calls_w (InA w v) i ?_
    clear i x0 hneg d
    intro u i
    refine (toSnd_any v l u hs2 (HV.out _ i.1)).mono ?_
    rintro r w2 ⟨g1, rfl, hb2, hk1, _⟩
    replace i := i.up hb2
    clear hb2
    go_wp2_with (go_at_call 20; fail)
    refine (sndM_any _ l w2 hl hz hk1.slice).mono ?_
    rintro r w3 ⟨rfl, hb3⟩
    replace i := i.up hb3
    clear hb3 hk1
    have x0 := i.cell
    go_wp2_with (go_at_call 21; fail)
    refine (toSnd_any v l w3 hs2 (HV.out _ i.1)).mono ?_
    rintro r w4 ⟨g2, rfl, hb4, hk2, _⟩
    replace i := i.up hb4
    clear hb4 x0
    go_wp2_with (go_at_call 22; fail)
    obtain ⟨q, hq⟩ : ∃ q, q = w4.heap.size := ⟨_, rfl⟩
    have j0 := InC.new i hk2
    rw [← hq] at j0 ⊢
    refine calls_w (InC w v q g2 l) j0 ?_
    clear j0 i hk2 hq
    intro u j
    refine (sndI_any _ l u hl hz j.slice).mono ?_
    rintro r w6 ⟨rfl, hb6⟩
    replace j := j.up hb6
    clear hb6
    obtain ⟨z, hz'⟩ : ∃ z, z = decide (SndR l) := ⟨_, rfl⟩
    rw [← hz']
    clear hz'
    have hzz : (z == z) = true := by simp
    have hzn : (z != z) = false := by simp
    go_wp2_with fail
    obtain ⟨x0, x1⟩ := j.cells
    replace j := j.up (rw.up_drew _)
    go_region_with (first | (go_at_call 21; (with_reducible refine (toSnd_any _ _ _ hs2 (HV.out _ j.bel)).mono ?_); rintro r w7 ⟨g3, rfl, hb7, hk7, hg7⟩; replace j := j.up hb7; clear hb7 x0 x1; obtain ⟨x0, x1⟩ := j.cells) | (go_at_call 23; (with_reducible refine (eqSnd_any _ _ _ _ hl j.slice hk7.slice).mono ?_); rintro r w8 ⟨rfl, hb8⟩; replace j := j.up hb8; clear hb8 x0 x1; obtain ⟨x0, x1⟩ := j.cells))
    all_goals
      have HB : Hid (Below w.heap.size w w8) := j.bel
      clear j x0 x1 hk7
      go_wp2
      go_ret
      exact ⟨rfl, HB.out⟩
end Go.Proofs.Ytjjfdkmhoocfhaa.st
