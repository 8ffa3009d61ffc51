/-
  The program's Block at every argument, where the table of places lies in its variable: what the plain function tells; no old block turns.
-/
import Derived.Test.YtjnfeohcimcgmagDoorChaID
namespace Go.Proofs.YtjnfeohcimcgmagDoor.cc
open Go.ChangeShapes Go.WideShapes Go.ChangeAt Go.RowKit
open Go.Proofs.YtjnfeohcimcgmagDoor.sh (U bits_U wr_U byteAt)
set_option linter.unusedVariables false

theorem right_any (key : ByteArray) (n : Int) (nonce : ByteArray) (w : World) (hk : key.size ≤ maxLen) (hn : nonce.size ≤ maxLen) :
    Calls Tryd.prog 23 #[.string key, .int .i64 n, .string nonce] w fun e w' => e = .returned (.bool (decide (key.size = 32 ∧ nonce.size = 12 ∧ 0 ≤ n ∧ n ≤ 4294967295))) ∧ w' = w := by
  unfold maxLen at hk hn
  by_cases h1 : key.size = 32
  · by_cases h3 : 0 ≤ n ∧ n ≤ 4294967295
    · have h4 : decide (0 ≤ n ∧ n ≤ 4294967295) = true := by simp [h3]
      by_cases h2 : nonce.size = 12
      · have e : decide (key.size = 32 ∧ nonce.size = 12 ∧ 0 ≤ n ∧ n ≤ 4294967295) = true := by simp [h1, h2, h3]
        rw [e]
        go_enter Tryd.func23, Tryd.ntmps23
        go_wp2_with (go_at_call 42; refine (isWord_any n w).mono ?_; rw [h4]; rintro e w1 ⟨rfl, hw1⟩; obtain rfl := hw1.symm)
        go_ret
        exact ⟨rfl, rfl⟩
      · have h5 : ((nonce.size : Int) == 12) = false := by simp; omega
        have e : decide (key.size = 32 ∧ nonce.size = 12 ∧ 0 ≤ n ∧ n ≤ 4294967295) = false := by simp [h2]
        rw [e]
        go_enter Tryd.func23, Tryd.ntmps23
        go_wp2_with (go_at_call 42; refine (isWord_any n w).mono ?_; rw [h4]; rintro e w1 ⟨rfl, hw1⟩; obtain rfl := hw1.symm)
        go_ret
        exact ⟨rfl, rfl⟩
    · have h4 : decide (0 ≤ n ∧ n ≤ 4294967295) = false := by simp [h3]
      have e : decide (key.size = 32 ∧ nonce.size = 12 ∧ 0 ≤ n ∧ n ≤ 4294967295) = false := by simp [h3]
      rw [e]
      go_enter Tryd.func23, Tryd.ntmps23
      go_wp2_with (go_at_call 42; refine (isWord_any n w).mono ?_; rw [h4]; rintro e w1 ⟨rfl, hw1⟩; obtain rfl := hw1.symm)
      go_ret
      exact ⟨rfl, rfl⟩
  · have e : decide (key.size = 32 ∧ nonce.size = 12 ∧ 0 ≤ n ∧ n ≤ 4294967295) = false := by simp [h1]
    rw [e]
    go_enter Tryd.func23, Tryd.ntmps23
    go_wp2
    go_ret
    exact ⟨rfl, rfl⟩
theorem first_at (key nonce : List UInt8) (c : Int) : (first key c nonce).getD 12 0 = c := by simp [first, lows]
theorem first_set (key nonce : List UInt8) (c c' : Int) : (first key c nonce).set 12 c' = first key c' nonce := by
  unfold first
  rw [List.set_append_left _ _ (by simp [lows]), List.set_append_right _ _ (by simp [lows])]
  simp [lows]
theorem firstU (key : List UInt8) (ctr : Int) (nonce : List UInt8) (hc : U ctr) : AllU (first key ctr nonce) := by
  intro x hx
  unfold first at hx
  rcases List.mem_append.1 hx with h | h
  · rcases List.mem_append.1 h with h | h
    · obtain ⟨i, _, rfl⟩ := List.mem_map.1 h; exact lowAt_U _ _
    · rw [List.mem_singleton.1 h]; exact hc
  · obtain ⟨i, _, rfl⟩ := List.mem_map.1 h; exact lowAt_U _ _

set_option maxHeartbeats 2000000 in
theorem implBlock_any (key : ByteArray) (n : Int) (nonce : ByteArray) (w : World) (hk : key.size ≤ maxLen) (hn : nonce.size ≤ maxLen) (hM : Mixes w) :
    Calls Tryd.prog 13 #[.string key, .int .i64 n, .string nonce] w fun e w' => e = .returned (.string (blockA key n nonce)) ∧ Below w.heap.size w w' := by
  have HR := right_any key n nonce w hk hn
  have HM : Hid (Mixes w) := hM
  clear hM
  by_cases h : key.size = 32 ∧ nonce.size = 12 ∧ 0 ≤ n ∧ n ≤ 4294967295
  · rw [blockA_yes h]
    have h4 : decide (key.size = 32 ∧ nonce.size = 12 ∧ 0 ≤ n ∧ n ≤ 4294967295) = true := by simp [h]
    rw [h4] at HR
    obtain ⟨h1, h2, h3⟩ := h
    go_enter Tryd.func13, Tryd.ntmps13
    go_wp2_with (first | (go_at_call 23; refine HR.mono ?_; rintro e w1 ⟨rfl, hw1⟩; obtain rfl := hw1.symm) | (go_at_call 24; refine (new_any key nonce n w h1 h2 h3).mono ?_; rintro e w2 ⟨rfl, hB2⟩) | (go_at_call 25; refine (blockI_any (first key.data.toList n nonce.data.toList) w2 (first_length _ _ _) (firstU _ _ _ h3) (HM.out.up hB2)).mono ?_; rintro e w3 ⟨rfl, hB3⟩))
    go_ret
    exact ⟨rfl, hB2.trans (hB3.mono hB2.size)⟩
  · rw [blockA_no h]
    have h4 : decide (key.size = 32 ∧ nonce.size = 12 ∧ 0 ≤ n ∧ n ≤ 4294967295) = false := by simp only [h, decide_false]
    rw [h4] at HR
    go_enter Tryd.func13, Tryd.ntmps13
    go_wp2_with (go_at_call 23; refine HR.mono ?_; rintro e w1 ⟨rfl, hw1⟩; obtain rfl := hw1.symm)
    go_ret
    exact ⟨rfl, Below.refl _ _⟩
end Go.Proofs.YtjnfeohcimcgmagDoor.cc
