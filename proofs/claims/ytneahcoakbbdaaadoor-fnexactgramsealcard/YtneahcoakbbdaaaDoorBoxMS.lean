/-
  The model's SealBox at every argument: what the plain function tells; no old block turns.
-/
import Derived.Test.YtneahcoakbbdaaaDoorBoxM
namespace Go.Proofs.YtneahcoakbbdaaaDoor.cc
open Go.ChangeShapes Go.WideShapes Go.ChangeAt Go.RowKit
set_option linter.unusedVariables false

set_option maxRecDepth 20000 in
set_option maxHeartbeats 4000000 in
theorem specSeal_any (key : ByteArray) (n : Int) (t : ByteArray) (w : World) (hk : key.size ≤ maxLen) (ht : t.size ≤ maxLen) :
    Calls Tryd.prog 7 #[.string key, .int .i64 n, .string t] w fun e w' => e = .returned (.string (sealA key n t)) ∧ Below w.heap.size w w' := by
  have HR := keyM_any key n w hk
  unfold maxLen at hk ht
  by_cases hc : 1 ≤ key.size ∧ key.size ≤ 64 ∧ 0 ≤ n ∧ n ≤ 1000000
  · rw [decide_eq_true hc] at HR
    by_cases h8 : 1000 < t.size
    · rw [sealA_no (fun h => by have := h.2; omega)]
      go_enter Tryd.func7, Tryd.ntmps7
      go_wp2_with (go_at_call 25; refine HR.mono ?_; rintro e w1 ⟨rfl, hw1⟩; obtain rfl := hw1.symm)
      go_ret
      exact ⟨rfl, Below.refl _ _⟩
    · rw [sealA_yes ⟨hc, by omega⟩]
      obtain ⟨c0, c1, c2, c3⟩ := hc
      have ht1 : decide (1000 < (t.size : Int)) = false := decide_eq_false (by omega)
      have HBX : Hid (boxB key n t = hideB key n t ++ signB key n (hideB key n t)) := rfl
      have hXs := hideB_size key n t
      go_enter Tryd.func7, Tryd.ntmps7
      go_wp2_with (go_at_call 25; refine HR.mono ?_; rintro e w1 ⟨rfl, hw1⟩; obtain rfl := hw1.symm)
      clear HR
      refine (hideM_any key n t w c1 c2 c3 (by omega)).mono ?_
      rintro e w1 ⟨rfl, hb1⟩
      generalize hX : hideB key n t = X at *
      have HX : Hid (hideB key n t = X) := hX
      clear hX
      go_wp2_with fail
      refine (signM_any key n X w1 c1 c2 c3 (by omega)).mono ?_
      rintro e w2 ⟨rfl, hb2⟩
      have hYs := signB_size key n X
      generalize hY : signB key n X = Y at *
      have HY : Hid (signB key n X = Y) := hY
      clear hY
      go_wp2_with fail
      go_ret
      refine ⟨congrArg (fun m : ByteArray => Ending.returned (Value.string m)) ?_, hb1.trans (hb2.mono hb1.size)⟩
      rw [HBX.out]
  · rw [decide_eq_false hc] at HR
    rw [sealA_no (fun h => hc h.1)]
    go_enter Tryd.func7, Tryd.ntmps7
    go_wp2_with (go_at_call 25; refine HR.mono ?_; rintro e w1 ⟨rfl, hw1⟩; obtain rfl := hw1.symm)
    go_ret
    exact ⟨rfl, Below.refl _ _⟩
end Go.Proofs.YtneahcoakbbdaaaDoor.cc
