/-
  The model's chain of a log: ChainStart, ChainNext, l05Chain, LogText by plain functions; no old block turns. No condition.
-/
import Derived.Test.YtjnlffdopbfelabDoorLogK
import Derived.Test.YtjnlffdopbfelabDoorShaMM
namespace Go.Proofs.YtjnlffdopbfelabDoor.lm
open Go.ChangeShapes Go.WideShapes Go.ChangeAt Go.RowKit
open Go.Proofs.YtjnlffdopbfelabDoor.wi (heap_lt calls_w wp_w)
open Go.Proofs.YtjnlffdopbfelabDoor.lg Go.Proofs.YtjnlffdopbfelabDoor.ss
open Go.Proofs.YtjnlffdopbfelabDoor.sh (macB macB_size macM_any)
set_option linter.unusedVariables false

theorem macB_32 : ∀ k x : ByteArray, (macB k x).size = 32 := macB_size
theorem chainS_le (key : ByteArray) : (chainS macB key).size ≤ 32 := by
  by_cases h : KeyL key
  · rw [chainS_size macB_32 h]; exact Nat.le_refl _
  · rw [chainS_no h]; exact Nat.zero_le _
theorem chainN_le (key c r : ByteArray) : (chainN macB key c r).size ≤ 32 := by
  by_cases h : KeyL key ∧ c.size = 32 ∧ r.size ≤ 200
  · rw [chainN_size macB_32 h.1 h.2.1 h.2.2]; exact Nat.le_refl _
  · rw [chainN_no h]; exact Nat.zero_le _
theorem chainF_le (key : ByteArray) : ∀ (l : List ByteArray) (c : ByteArray), c.size ≤ 32 → (chainF macB key c l).size ≤ 32
  | [], c, h => h
  | r :: l, c, h => chainF_le key l _ (chainN_le key c r)
theorem chain_le (key : ByteArray) (l : List ByteArray) : (chain macB key l).size ≤ 32 := chainF_le key l _ (chainS_le key)

set_option maxHeartbeats 8000000 in
theorem startM_any (key : ByteArray) (w : World) (hk : key.size ≤ maxLen) :
    Calls Tryd.prog 13 #[.string key] w fun r w' => r = .returned (.string (chainS macB key)) ∧ Below w.heap.size w w' := by
  by_cases h : KeyL key
  · have HK : Hid (∀ u, Calls Tryd.prog 23 #[.string key] u fun e w' => e = .returned (.bool true) ∧ w' = u) := fun u => keyM_yes key u h
    have HM : Hid (∀ u, Calls Tryd.prog 24 #[.string key, .string ⟨#[108, 111, 103]⟩] u fun e w' => e = .returned (.string (macB key logW)) ∧ Below u.heap.size u w') := fun u => macM_any key logW u (by have := h.2; omega) (by decide)
    rw [chainS_yes h]
    obtain ⟨x, hx⟩ : ∃ x, x = macB key logW := ⟨_, rfl⟩
    rw [← hx] at HM ⊢
    clear hx h
    go_enter Tryd.func13, Tryd.ntmps13
    go_wp2_with (first | (go_at_call 23; (with_reducible refine (HK.out _).mono ?_); rintro r w' ⟨rfl, hw'⟩; obtain rfl := hw'.symm) | (go_at_call 24; (refine (HM.out _).mono ?_); rintro r w' ⟨rfl, hb⟩))
    go_ret
    exact ⟨rfl, hb⟩
  · have HK : Hid (∀ u, Calls Tryd.prog 23 #[.string key] u fun e w' => e = .returned (.bool false) ∧ w' = u) := fun u => keyM_no key u hk h
    rw [chainS_no h]
    clear h
    go_enter Tryd.func13, Tryd.ntmps13
    go_wp2_with (go_at_call 23; (with_reducible refine (HK.out _).mono ?_); rintro r w' ⟨rfl, hw'⟩; obtain rfl := hw'.symm)
    go_ret
    exact ⟨rfl, Below.refl _ _⟩
set_option maxHeartbeats 8000000 in
theorem nextM_any (key c r : ByteArray) (w : World) (hk : key.size ≤ maxLen) (hc : c.size ≤ maxLen) (hr : r.size ≤ maxLen) :
    Calls Tryd.prog 14 #[.string key, .string c, .string r] w fun e w' => e = .returned (.string (chainN macB key c r)) ∧ Below w.heap.size w w' := by
  have HC : Hid (∀ u, Calls Tryd.prog 22 #[.string r] u fun e w' => e = .returned (.bool (decide (r.size ≤ 200))) ∧ w' = u) := fun u => recM_any r u hr
  unfold maxLen at hc hr
  by_cases h : KeyL key
  · have HK : Hid (∀ u, Calls Tryd.prog 23 #[.string key] u fun e w' => e = .returned (.bool true) ∧ w' = u) := fun u => keyM_yes key u h
    by_cases h32 : c.size = 32
    · by_cases h200 : r.size ≤ 200
      · rw [decide_eq_true h200] at HC
        have HM : Hid (∀ u, Calls Tryd.prog 24 #[.string key, .string (c ++ r)] u fun e w' => e = .returned (.string (macB key (c ++ r))) ∧ Below u.heap.size u w') := fun u => macM_any key (c ++ r) u (by have := h.2; omega) (by rw [ByteArray.size_append]; omega)
        rw [chainN_yes h h32 h200]
        obtain ⟨x, hx⟩ : ∃ x, x = macB key (c ++ r) := ⟨_, rfl⟩
        rw [← hx] at HM ⊢
        have d32 : ((c.size : Int) == 32) = true := by simp; omega
        clear hx h
        go_enter Tryd.func14, Tryd.ntmps14
        go_wp2_with (first | (go_at_call 23; (with_reducible refine (HK.out _).mono ?_); rintro r w' ⟨rfl, hw'⟩; obtain rfl := hw'.symm) | (go_at_call 22; (with_reducible refine (HC.out _).mono ?_); rintro r w' ⟨rfl, hw'⟩; obtain rfl := hw'.symm) | (go_at_call 24; (refine (HM.out _).mono ?_); rintro r w' ⟨rfl, hb⟩))
        go_ret
        exact ⟨rfl, hb⟩
      · rw [decide_eq_false h200] at HC
        rw [chainN_no fun x => h200 x.2.2]
        have d32 : ((c.size : Int) == 32) = true := by simp; omega
        clear h
        go_enter Tryd.func14, Tryd.ntmps14
        go_wp2_with (first | (go_at_call 23; (with_reducible refine (HK.out _).mono ?_); rintro r w' ⟨rfl, hw'⟩; obtain rfl := hw'.symm) | (go_at_call 22; (with_reducible refine (HC.out _).mono ?_); rintro r w' ⟨rfl, hw'⟩; obtain rfl := hw'.symm))
        go_ret
        exact ⟨rfl, Below.refl _ _⟩
    · rw [chainN_no fun x => h32 x.2.1]
      have d32 : ((c.size : Int) == 32) = false := by simp; omega
      clear h HC
      go_enter Tryd.func14, Tryd.ntmps14
      go_wp2_with (first | (go_at_call 23; (with_reducible refine (HK.out _).mono ?_); rintro r w' ⟨rfl, hw'⟩; obtain rfl := hw'.symm))
      go_ret
      exact ⟨rfl, Below.refl _ _⟩
  · have HK : Hid (∀ u, Calls Tryd.prog 23 #[.string key] u fun e w' => e = .returned (.bool false) ∧ w' = u) := fun u => keyM_no key u hk h
    rw [chainN_no fun x => h x.1]
    clear h HC
    go_enter Tryd.func14, Tryd.ntmps14
    go_wp2_with (first | (go_at_call 23; (with_reducible refine (HK.out _).mono ?_); rintro r w' ⟨rfl, hw'⟩; obtain rfl := hw'.symm))
    go_ret
    exact ⟨rfl, Below.refl _ _⟩
end Go.Proofs.YtjnlffdopbfelabDoor.lm
