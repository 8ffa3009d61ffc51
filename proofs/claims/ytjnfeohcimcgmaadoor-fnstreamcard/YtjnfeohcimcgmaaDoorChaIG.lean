/-
  The program's Block at every argument, where the table of places lies in its variable: what the plain function tells; no old block turns.
-/
import Derived.Test.YtjnfeohcimcgmaaDoorChaIE
namespace Go.Proofs.YtjnfeohcimcgmaaDoor.cc
open Go.ChangeShapes Go.WideShapes Go.ChangeAt Go.RowKit
open Go.Proofs.YtjnfeohcimcgmaaDoor.sh (U bits_U wr_U byteAt)
set_option linter.unusedVariables false

set_option maxHeartbeats 2000000 in
theorem implBlock_any (key : ByteArray) (n : Int) (nonce : ByteArray) (w : World) (hk : key.size ≤ maxLen) (hn : nonce.size ≤ maxLen) (hM : Mixes w) :
    Calls Tryd.prog 29 #[.string key, .int .i64 n, .string nonce] w fun e w' => e = .returned (.string (blockA key n nonce)) ∧ Below w.heap.size w w' := by
  have HR := right_any key n nonce w hk hn
  have HM : Hid (Mixes w) := hM
  clear hM
  by_cases h : key.size = 32 ∧ nonce.size = 12 ∧ 0 ≤ n ∧ n ≤ 4294967295
  · rw [blockA_yes h]
    have h4 : decide (key.size = 32 ∧ nonce.size = 12 ∧ 0 ≤ n ∧ n ≤ 4294967295) = true := by simp [h]
    rw [h4] at HR
    obtain ⟨h1, h2, h3⟩ := h
    go_enter Tryd.func29, Tryd.ntmps29
    go_wp2_with (first | (go_at_call 58; refine HR.mono ?_; rintro e w1 ⟨rfl, hw1⟩; obtain rfl := hw1.symm) | (go_at_call 59; refine (new_any key nonce n w h1 h2 h3).mono ?_; rintro e w2 ⟨rfl, hB2⟩) | (go_at_call 60; refine (blockI_any (first key.data.toList n nonce.data.toList) w2 (first_length _ _ _) (firstU _ _ _ h3) (HM.out.up hB2)).mono ?_; rintro e w3 ⟨rfl, hB3⟩))
    go_ret
    exact ⟨rfl, hB2.trans (hB3.mono hB2.size)⟩
  · rw [blockA_no h]
    have h4 : decide (key.size = 32 ∧ nonce.size = 12 ∧ 0 ≤ n ∧ n ≤ 4294967295) = false := by simp only [h, decide_false]
    rw [h4] at HR
    go_enter Tryd.func29, Tryd.ntmps29
    go_wp2_with (go_at_call 58; refine HR.mono ?_; rintro e w1 ⟨rfl, hw1⟩; obtain rfl := hw1.symm)
    go_ret
    exact ⟨rfl, Below.refl _ _⟩
end Go.Proofs.YtjnfeohcimcgmaaDoor.cc
