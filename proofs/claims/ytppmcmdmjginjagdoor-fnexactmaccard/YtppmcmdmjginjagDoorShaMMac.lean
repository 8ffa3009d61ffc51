/-
  The model's Mac at every argument: what the plain function tells; no old block turns.
-/
import Derived.Test.YtppmcmdmjginjagDoorShaMM
namespace Go.Proofs.YtppmcmdmjginjagDoor.sh
open Go.ChangeShapes Go.WideShapes Go.ChangeAt Go.RowKit
set_option linter.unusedVariables false

theorem specMac_any (key t : ByteArray) (w : World) (hk : key.size ≤ maxLen) (ht : t.size ≤ maxLen) :
    Calls Tryd.prog 5 #[.string key, .string t] w fun e w' => e = .returned (.string (macA key t)) ∧ Below w.heap.size w w' := by
  unfold maxLen at hk ht
  by_cases hb : 8000 < key.size ∨ 8000 < t.size
  · rw [macA_no hb]
    by_cases h1 : 8000 < key.size
    · clear hb
      go_enter Tryd.func5, Tryd.ntmps5
      go_wp2
      go_ret
      exact ⟨rfl, Below.refl _ _⟩
    · have h2 : 8000 < t.size := by omega
      clear hb
      go_enter Tryd.func5, Tryd.ntmps5
      go_wp2
      go_ret
      exact ⟨rfl, Below.refl _ _⟩
  · rw [macA_yes hb]
    go_enter Tryd.func5, Tryd.ntmps5
    go_wp2_with (go_at_call 9; refine (macM_any key t w (by omega) (by omega)).mono ?_; rintro e w1 ⟨rfl, hB1⟩)
    go_ret
    exact ⟨rfl, hB1⟩
end Go.Proofs.YtppmcmdmjginjagDoor.sh
