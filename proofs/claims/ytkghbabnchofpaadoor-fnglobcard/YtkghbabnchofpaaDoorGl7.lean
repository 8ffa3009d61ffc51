/-
  The model's GlobFits, and the law that holds the program's against it: true at every two texts. No condition.
-/
import Derived.Test.YtkghbabnchofpaaDoorGl6
namespace Go.Proofs.YtkghbabnchofpaaDoor.gb
open Go.ChangeShapes Go.WideShapes Go.ChangeAt Go.RowKit
open Go.Proofs.YtkghbabnchofpaaDoor.sc (prn AllB AllB.not ret_b d_true d_false)
open Go.Proofs.YtkghbabnchofpaaDoor.wi (heap_lt calls_w wp_w)
open Classical
set_option linter.unusedVariables false

set_option maxHeartbeats 4000000 in
theorem gfM_any (g t : ByteArray) (w : World) (hg : g.size ≤ maxLen) (ht : t.size ≤ maxLen) :
    Calls Tryd.prog 7 #[.string g, .string t] w fun e w' => e = .returned (.bool (decide (GFits g t))) ∧ Below w.heap.size w w' := by
  have hc := fun u => globM_any g u hg
  have HB0 : Hid (Below w.heap.size w w) := Below.refl _ _
  unfold maxLen at hg ht
  by_cases h2 : t.size ≤ 60
  · have h3 : (t.size : Int) ≤ 60 := by omega
    by_cases h1 : GlobR g
    · rw [decide_eq_true h1] at hc
      have hf := fun u => fitsM_any g t u h1.1.2 h2
      have HF : Hid (fitB g t = decide (GFits g t)) := by
        show _ = _
        by_cases h : fitB g t = true
        · rw [h, decide_eq_true (show GFits g t from ⟨h1, h2, h⟩)]
        · rw [decide_eq_false (fun h' : GFits g t => h h'.2.2)]; simpa using h
      clear h1 h2
      go_enter Tryd.func7, Tryd.ntmps7
      go_wp2_with (first | (go_at_call 31; (with_reducible refine (hc _).mono ?_); rintro r w' ⟨rfl, hw'⟩; obtain rfl := hw'.symm) | (go_at_call 32; (with_reducible refine (hf _).mono ?_); rintro r w2 ⟨rfl, hb2⟩; have HB2 : Hid (Below w.heap.size w w2) := hb2; clear hb2))
      go_ret
      exact ⟨ret_b HF.out, HB2.out⟩
    · rw [decide_eq_false h1] at hc
      have HF : Hid (false = decide (GFits g t)) := (decide_eq_false (fun h : GFits g t => h1 h.1)).symm
      clear h1 h2
      go_enter Tryd.func7, Tryd.ntmps7
      go_wp2_with (go_at_call 31; (with_reducible refine (hc _).mono ?_); rintro r w' ⟨rfl, hw'⟩; obtain rfl := hw'.symm)
      go_ret
      exact ⟨ret_b HF.out, HB0.out⟩
  · have h3 : ¬ (t.size : Int) ≤ 60 := by omega
    have HF : Hid (false = decide (GFits g t)) := (decide_eq_false (fun h : GFits g t => h2 h.2.1)).symm
    clear h2 hc
    go_enter Tryd.func7, Tryd.ntmps7
    go_wp2
    go_ret
    exact ⟨ret_b HF.out, HB0.out⟩
end Go.Proofs.YtkghbabnchofpaaDoor.gb
