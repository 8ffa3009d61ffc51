/-
  The program's within and the model's l03Is: a number between two others; stateRight and l07State. No condition.
-/
import Derived.Test.YtmbeanimjmfddaaSt0
namespace Go.Proofs.Ytmbeanimjmfddaa.st
open Go.ChangeShapes Go.WideShapes Go.ChangeAt Go.RowKit
open Classical
set_option linter.unusedVariables false

theorem is_any (n lo hi : Int) (w : World) : Calls Try.prog 44 #[.int .i64 n, .int .i64 lo, .int .i64 hi] w fun e w' => e = .returned (.bool (decide (lo ≤ n ∧ n ≤ hi))) ∧ w' = w := by
  by_cases h1 : lo ≤ n
  · by_cases h2 : n ≤ hi
    · rw [decide_eq_true ⟨h1, h2⟩]
      go_enter Try.func44, Try.ntmps44
      go_wp2
      go_ret
      exact ⟨rfl, rfl⟩
    · rw [decide_eq_false (fun h => h2 h.2)]
      go_enter Try.func44, Try.ntmps44
      go_wp2
      go_ret
      exact ⟨rfl, rfl⟩
  · rw [decide_eq_false (fun h => h1 h.1)]
    go_enter Try.func44, Try.ntmps44
    go_wp2
    go_ret
    exact ⟨rfl, rfl⟩
theorem within_any (n lo hi : Int) (w : World) : Calls Try.prog 59 #[.int .i64 n, .int .i64 lo, .int .i64 hi] w fun e w' => e = .returned (.bool (decide (lo ≤ n ∧ n ≤ hi))) ∧ w' = w := by
  by_cases h1 : lo ≤ n
  · by_cases h2 : n ≤ hi
    · rw [decide_eq_true ⟨h1, h2⟩]
      go_enter Try.func59, Try.ntmps59
      go_wp2
      go_ret
      exact ⟨rfl, rfl⟩
    · rw [decide_eq_false (fun h => h2 h.2)]
      go_enter Try.func59, Try.ntmps59
      go_wp2
      go_ret
      exact ⟨rfl, rfl⟩
  · rw [decide_eq_false (fun h => h1 h.1)]
    go_enter Try.func59, Try.ntmps59
    go_wp2
    go_ret
    exact ⟨rfl, rfl⟩
theorem stateI_any (n : Int) (t : ByteArray) (w : World) (ht : t.size ≤ maxLen) : Calls Try.prog 37 #[.agg #[.int .i64 n, .string t]] w fun e w' => e = .returned (.bool (decide (StR n t))) ∧ Below w.heap.size w w' := by
  have HB : Hid (∀ o, Below w.heap.size w (w.alloc o)) := fun o => (Below.refl _ _).alloc (Nat.le_refl _) o
  unfold maxLen at ht
  have hw := within_any n 0 1000000
  by_cases h1 : 0 ≤ n ∧ n ≤ 1000000
  · rw [decide_eq_true h1] at hw
    have HF : Hid (decide ((t.size : Int) ≤ 400) = decide (StR n t)) := by
      show _ = _
      rw [decide_eq_decide]; exact ⟨fun h => ⟨h1, by omega⟩, fun h => by have := h.2; omega⟩
    go_enter Try.func37, Try.ntmps37
    go_wp2_with (go_at_call 59; (with_reducible refine (hw _).mono ?_); rintro r w' ⟨rfl, hw'⟩; obtain rfl := hw'.symm)
    go_ret
    exact ⟨ret_b HF.out, HB.out _⟩
  · rw [decide_eq_false h1] at hw
    have HF : Hid (false = decide (StR n t)) := (decide_eq_false (fun h : StR n t => h1 h.1)).symm
    go_enter Try.func37, Try.ntmps37
    go_wp2_with (go_at_call 59; (with_reducible refine (hw _).mono ?_); rintro r w' ⟨rfl, hw'⟩; obtain rfl := hw'.symm)
    go_ret
    exact ⟨ret_b HF.out, HB.out _⟩
theorem stateM_any (n : Int) (t : ByteArray) (w : World) (ht : t.size ≤ maxLen) : Calls Try.prog 41 #[.agg #[.int .i64 n, .string t]] w fun e w' => e = .returned (.bool (decide (StR n t))) ∧ Below w.heap.size w w' := by
  have HB : Hid (∀ o, Below w.heap.size w (w.alloc o)) := fun o => (Below.refl _ _).alloc (Nat.le_refl _) o
  unfold maxLen at ht
  have hw := is_any n 0 1000000
  by_cases h1 : 0 ≤ n ∧ n ≤ 1000000
  · rw [decide_eq_true h1] at hw
    have HF : Hid (decide ((t.size : Int) ≤ 400) = decide (StR n t)) := by
      show _ = _
      rw [decide_eq_decide]; exact ⟨fun h => ⟨h1, by omega⟩, fun h => by have := h.2; omega⟩
    go_enter Try.func41, Try.ntmps41
    go_wp2_with (go_at_call 44; (with_reducible refine (hw _).mono ?_); rintro r w' ⟨rfl, hw'⟩; obtain rfl := hw'.symm)
    go_ret
    exact ⟨ret_b HF.out, HB.out _⟩
  · rw [decide_eq_false h1] at hw
    have HF : Hid (false = decide (StR n t)) := (decide_eq_false (fun h : StR n t => h1 h.1)).symm
    go_enter Try.func41, Try.ntmps41
    go_wp2_with (go_at_call 44; (with_reducible refine (hw _).mono ?_); rintro r w' ⟨rfl, hw'⟩; obtain rfl := hw'.symm)
    go_ret
    exact ⟨ret_b HF.out, HB.out _⟩
end Go.Proofs.Ytmbeanimjmfddaa.st
