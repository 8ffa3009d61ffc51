/-
  The program's test of key, counter and nonce; what the sixteen numbers at first are.
-/
import Derived.Test.YtneahcoakbbdaaaDoorChaID
namespace Go.Proofs.YtneahcoakbbdaaaDoor.cc
open Go.ChangeShapes Go.WideShapes Go.ChangeAt Go.RowKit
open Go.Proofs.YtneahcoakbbdaaaDoor.sh (U bits_U wr_U byteAt)
set_option linter.unusedVariables false

theorem right_any (key : ByteArray) (n : Int) (nonce : ByteArray) (w : World) (hk : key.size ≤ maxLen) (hn : nonce.size ≤ maxLen) :
    Calls Tryd.prog 83 #[.string key, .int .i64 n, .string nonce] w fun e w' => e = .returned (.bool (decide (key.size = 32 ∧ nonce.size = 12 ∧ 0 ≤ n ∧ n ≤ 4294967295))) ∧ w' = w := by
  unfold maxLen at hk hn
  by_cases h1 : key.size = 32
  · by_cases h3 : 0 ≤ n ∧ n ≤ 4294967295
    · have h4 : decide (0 ≤ n ∧ n ≤ 4294967295) = true := by simp [h3]
      by_cases h2 : nonce.size = 12
      · have e : decide (key.size = 32 ∧ nonce.size = 12 ∧ 0 ≤ n ∧ n ≤ 4294967295) = true := by simp [h1, h2, h3]
        rw [e]
        go_enter Tryd.func83, Tryd.ntmps83
        go_wp2_with (go_at_call 96; refine (isWord_any n w).mono ?_; rw [h4]; rintro e w1 ⟨rfl, hw1⟩; obtain rfl := hw1.symm)
        go_ret
        exact ⟨rfl, rfl⟩
      · have h5 : ((nonce.size : Int) == 12) = false := by simp; omega
        have e : decide (key.size = 32 ∧ nonce.size = 12 ∧ 0 ≤ n ∧ n ≤ 4294967295) = false := by simp [h2]
        rw [e]
        go_enter Tryd.func83, Tryd.ntmps83
        go_wp2_with (go_at_call 96; refine (isWord_any n w).mono ?_; rw [h4]; rintro e w1 ⟨rfl, hw1⟩; obtain rfl := hw1.symm)
        go_ret
        exact ⟨rfl, rfl⟩
    · have h4 : decide (0 ≤ n ∧ n ≤ 4294967295) = false := by simp [h3]
      have e : decide (key.size = 32 ∧ nonce.size = 12 ∧ 0 ≤ n ∧ n ≤ 4294967295) = false := by simp [h3]
      rw [e]
      go_enter Tryd.func83, Tryd.ntmps83
      go_wp2_with (go_at_call 96; refine (isWord_any n w).mono ?_; rw [h4]; rintro e w1 ⟨rfl, hw1⟩; obtain rfl := hw1.symm)
      go_ret
      exact ⟨rfl, rfl⟩
  · have e : decide (key.size = 32 ∧ nonce.size = 12 ∧ 0 ≤ n ∧ n ≤ 4294967295) = false := by simp [h1]
    rw [e]
    go_enter Tryd.func83, Tryd.ntmps83
    go_wp2
    go_ret
    exact ⟨rfl, rfl⟩
theorem first_at (key nonce : List UInt8) (c : Int) : (first key c nonce).getD 12 0 = c := by simp [first, lows]
theorem first_set (key nonce : List UInt8) (c c' : Int) : (first key c nonce).set 12 c' = first key c' nonce := by
  unfold first
  rw [List.set_append_left _ _ (by simp [lows]), List.set_append_right _ _ (by simp [lows])]
  simp [lows]
theorem firstU (key : List UInt8) (ctr : Int) (nonce : List UInt8) (hc : U ctr) : AllU (first key ctr nonce) := by
  intro x hx
  unfold first at hx
  rcases List.mem_append.1 hx with h | h
  · rcases List.mem_append.1 h with h | h
    · obtain ⟨i, _, rfl⟩ := List.mem_map.1 h; exact lowAt_U _ _
    · rw [List.mem_singleton.1 h]; exact hc
  · obtain ⟨i, _, rfl⟩ := List.mem_map.1 h; exact lowAt_U _ _
end Go.Proofs.YtneahcoakbbdaaaDoor.cc
