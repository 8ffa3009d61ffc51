/-
  The law that holds the program's GlobFits against the model's: true at every two texts. No condition.
-/
import Derived.Test.YtndjjhcdnlkekaaDoorGl7
namespace Go.Proofs.YtndjjhcdnlkekaaDoor.gb
open Go.ChangeShapes Go.WideShapes Go.ChangeAt Go.RowKit
open Go.Proofs.YtndjjhcdnlkekaaDoor.sc (prn AllB AllB.not ret_b d_true d_false)
open Go.Proofs.YtndjjhcdnlkekaaDoor.wi (heap_lt calls_w wp_w)
open Classical
set_option linter.unusedVariables false

set_option maxHeartbeats 4000000 in
theorem lawGlobFits (g t : ByteArray) (w : World) (hg : g.size ≤ maxLen) (ht : t.size ≤ maxLen) :
    Calls Tryd.prog 7 #[.string g, .string t] w fun e w' => e = .returned (.bool true) ∧ Below w.heap.size w w' := by
  have hm := fun u => gfM_any g t u hg ht
  have hi := fun u => fitsI_any g t u hg ht
  have HB0 : Hid (Below w.heap.size w w) := Below.refl _ _
  unfold maxLen at hg ht
  by_cases h1 : (1048576 : Int) < (g.size : Int)
  · clear hm hi
    go_enter Tryd.func7, Tryd.ntmps7
    go_wp2
    go_ret
    exact ⟨rfl, HB0.out⟩
  · by_cases h2 : (1048576 : Int) < (t.size : Int)
    · clear hm hi
      go_enter Tryd.func7, Tryd.ntmps7
      go_wp2
      go_ret
      exact ⟨rfl, HB0.out⟩
    · generalize decide (GFits g t) = z at hm hi
      have hz : (z != z) = false := by simp
      go_enter Tryd.func7, Tryd.ntmps7
      go_wp2_with (first | (go_at_call 25; (with_reducible refine (hm _).mono ?_); rintro r w2 ⟨rfl, hb2⟩; have HB2 : Hid (Below w.heap.size w w2) := hb2; clear hb2) | (go_at_call 26; (with_reducible refine (hi _).mono ?_); rintro r w3 ⟨rfl, hb3⟩; have HB3 : Hid (Below w.heap.size w w3) := HB2.out.trans (hb3.mono HB2.out.size); clear hb3))
      go_ret
      exact ⟨rfl, HB3.out⟩
end Go.Proofs.YtndjjhcdnlkekaaDoor.gb
