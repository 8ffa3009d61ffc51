/-
  The walk of the law that holds the program's PolicyText against the model's: true at every list of rules. No condition.
-/
import Derived.Test.YtndjjhcdnlkekaaDoorRuL2
import Derived.Test.YtndjjhcdnlkekaaDoorPt3
namespace Go.Proofs.YtndjjhcdnlkekaaDoor.rl
open Go.ChangeShapes Go.WideShapes Go.ChangeAt Go.RowKit
open Go.Proofs.YtndjjhcdnlkekaaDoor.wi (heap_lt calls_w wp_w)
open Classical
set_option linter.unusedVariables false

set_option maxHeartbeats 8000000 in
theorem lawPolicyText (w : World) (v : Value) (l : List Ln) (hl : l.length ≤ maxLen) (hz : ∀ r ∈ l, r.2.2.1.size ≤ maxLen ∧ r.2.2.2.size ≤ maxLen) (hv : SliceIs w v l) :
    Calls Tryd.prog 5 #[v] w fun r w' => r = .returned (.bool true) ∧ Below w.heap.size w w' := by
  have HV : Hid (∀ u, Below w.heap.size w u → SliceIs u v l) := fun u hu => hv.up hu
  have hsz := szRules_any v l 1048576 w (by decide) (Int.le_refl _) hl hz hv
  obtain ⟨p, cap, rfl⟩ := hv.shape
  clear hv
  go_enter Tryd.func5, Tryd.ntmps5
  go_wp2_with (go_at_call 13; fail)
  refine hsz.mono ?_
  rintro r u1 ⟨rfl, hb⟩
  have i : Below w.heap.size w u1 := hb
  clear hb hsz
  by_cases hneg : szV 1048576 l < 0
  · have HB : Hid (Below w.heap.size w u1) := i
    generalize szV 1048576 l = z at *
    clear i hz
    go_wp2
    go_ret
    exact ⟨rfl, HB.out⟩
  · have hs2 := szV_ok hneg (Int.le_refl _)
    generalize szV 1048576 l = z at *
    have hto := fun u (h : Below w.heap.size w u) => toRules_any (.slice p l.length cap) l u hs2 (HV.out u h)
    have hm := fun vv u (h : SliceIs u vv l) => ptM_any vv l u hl hz h
    have hi := fun vv u (h : SliceIs u vv l) => ptI_any vv l u hl hz h
    have HI : Hid (Below w.heap.size w u1) := i
    clear i
    go_wp2_with (go_at_call 15; fail)
    refine (hto _ HI.out).mono ?_
    rintro r u2 ⟨rfl, hb, hk⟩
    replace HI : Hid (Below w.heap.size w u2) := HI.out.trans (hb.mono HI.out.size)
    clear hb
    go_wp2_with (go_at_call 18; fail)
    refine (hm _ _ hk.slice).mono ?_
    rintro r u3 ⟨⟨t, rfl, ht⟩, hb⟩
    have HT : Hid (TextIs l t) := ht
    clear ht
    replace HI : Hid (Below w.heap.size w u3) := HI.out.trans (hb.mono HI.out.size)
    clear hb hk hm
    go_wp2_with (go_at_call 15; fail)
    refine (hto _ HI.out).mono ?_
    rintro r u4 ⟨rfl, hb, hk⟩
    have i : InL w u3.heap.size l u4 := ⟨HI.out.trans (hb.mono HI.out.size), hk⟩
    obtain ⟨g, hg⟩ : ∃ g, g = u3.heap.size := ⟨_, rfl⟩
    rw [← hg] at i ⊢
    clear hb hk HI hg
    go_wp2_with (go_at_call 19; fail)
    refine (hi _ _ i.2.slice).mono ?_
    rintro r u5 ⟨⟨t', rfl, ht⟩, hb⟩
    obtain rfl := HT.out.uniq ht
    have hbb : (t.toList == t.toList) = true := by simp
    clear ht HT
    replace i := i.up hb
    clear hb hi
    go_wp2_with (go_at_call 15; fail)
    refine (hto _ i.1).mono ?_
    rintro r w7 ⟨rfl, hb7, hk7⟩
    replace i := i.up hb7
    clear hb7
    go_wp2_with (go_at_call 17; fail)
    refine (eqRules_any _ _ _ _ hl i.2.slice hk7.slice).mono ?_
    rintro r w8 ⟨rfl, hb8⟩
    replace i := i.up hb8
    have HB : Hid (Below w.heap.size w w8) := i.1
    clear i hk7 hb8
    go_wp2
    go_ret
    exact ⟨rfl, HB.out⟩
end Go.Proofs.YtndjjhcdnlkekaaDoor.rl
