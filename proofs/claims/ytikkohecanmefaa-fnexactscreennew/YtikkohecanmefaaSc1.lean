/-
  The program's sizeRight and escRight: they tell what the plain conditions tell; no old block turns. No condition.
-/
import Derived.Test.YtikkohecanmefaaScI1
namespace Go.Proofs.Ytikkohecanmefaa.sc
open Go.ChangeShapes Go.WideShapes Go.ChangeAt Go.RowKit
open Classical
set_option linter.unusedVariables false

theorem is_any (n lo hi : Int) (w : World) : Calls Try.prog 34 #[.int .i64 n, .int .i64 lo, .int .i64 hi] w fun e w' => e = .returned (.bool (decide (lo ≤ n ∧ n ≤ hi))) ∧ w' = w := by
  by_cases h1 : lo ≤ n
  · by_cases h2 : n ≤ hi
    · rw [decide_eq_true ⟨h1, h2⟩]
      go_enter Try.func34, Try.ntmps34
      go_wp2
      go_ret
      exact ⟨rfl, rfl⟩
    · rw [decide_eq_false (fun h => h2 h.2)]
      go_enter Try.func34, Try.ntmps34
      go_wp2
      go_ret
      exact ⟨rfl, rfl⟩
  · rw [decide_eq_false (fun h => h1 h.1)]
    go_enter Try.func34, Try.ntmps34
    go_wp2
    go_ret
    exact ⟨rfl, rfl⟩
theorem within_any (n lo hi : Int) (w : World) : Calls Try.prog 40 #[.int .i64 n, .int .i64 lo, .int .i64 hi] w fun e w' => e = .returned (.bool (decide (lo ≤ n ∧ n ≤ hi))) ∧ w' = w := by
  by_cases h1 : lo ≤ n
  · by_cases h2 : n ≤ hi
    · rw [decide_eq_true ⟨h1, h2⟩]
      go_enter Try.func40, Try.ntmps40
      go_wp2
      go_ret
      exact ⟨rfl, rfl⟩
    · rw [decide_eq_false (fun h => h2 h.2)]
      go_enter Try.func40, Try.ntmps40
      go_wp2
      go_ret
      exact ⟨rfl, rfl⟩
  · rw [decide_eq_false (fun h => h1 h.1)]
    go_enter Try.func40, Try.ntmps40
    go_wp2
    go_ret
    exact ⟨rfl, rfl⟩
theorem sizeI_any (a b : Int) (w : World) : Calls Try.prog 37 #[.int .i64 a, .int .i64 b] w fun e w' => e = .returned (.bool (decide (SizeR a b))) ∧ w' = w := by
  by_cases h1 : 1 ≤ a ∧ a ≤ 20
  · have d1 := decide_eq_true h1
    by_cases h2 : 1 ≤ b ∧ b ≤ 6
    · have d2 := decide_eq_true h2
      rw [decide_eq_true (show SizeR a b from ⟨h1, h2⟩)]
      go_enter Try.func37, Try.ntmps37
      go_wp2_with (go_at_call 40; (with_reducible refine (within_any _ _ _ _).mono ?_); rintro r w' ⟨rfl, hw'⟩; obtain rfl := hw'.symm)
      go_ret
      exact ⟨rfl, rfl⟩
    · have d2 := decide_eq_false h2
      rw [decide_eq_false (fun h : SizeR a b => h2 h.2)]
      go_enter Try.func37, Try.ntmps37
      go_wp2_with (go_at_call 40; (with_reducible refine (within_any _ _ _ _).mono ?_); rintro r w' ⟨rfl, hw'⟩; obtain rfl := hw'.symm)
      go_ret
      exact ⟨rfl, rfl⟩
  · have d1 := decide_eq_false h1
    rw [decide_eq_false (fun h : SizeR a b => h1 h.1)]
    go_enter Try.func37, Try.ntmps37
    go_wp2_with (go_at_call 40; (with_reducible refine (within_any _ _ _ _).mono ?_); rintro r w' ⟨rfl, hw'⟩; obtain rfl := hw'.symm)
    go_ret
    exact ⟨rfl, rfl⟩
theorem sizeM_any (a b : Int) (w : World) : Calls Try.prog 32 #[.int .i64 a, .int .i64 b] w fun e w' => e = .returned (.bool (decide (SizeR a b))) ∧ w' = w := by
  by_cases h1 : 1 ≤ a ∧ a ≤ 20
  · have d1 := decide_eq_true h1
    by_cases h2 : 1 ≤ b ∧ b ≤ 6
    · have d2 := decide_eq_true h2
      rw [decide_eq_true (show SizeR a b from ⟨h1, h2⟩)]
      go_enter Try.func32, Try.ntmps32
      go_wp2_with (go_at_call 34; (with_reducible refine (is_any _ _ _ _).mono ?_); rintro r w' ⟨rfl, hw'⟩; obtain rfl := hw'.symm)
      go_ret
      exact ⟨rfl, rfl⟩
    · have d2 := decide_eq_false h2
      rw [decide_eq_false (fun h : SizeR a b => h2 h.2)]
      go_enter Try.func32, Try.ntmps32
      go_wp2_with (go_at_call 34; (with_reducible refine (is_any _ _ _ _).mono ?_); rintro r w' ⟨rfl, hw'⟩; obtain rfl := hw'.symm)
      go_ret
      exact ⟨rfl, rfl⟩
  · have d1 := decide_eq_false h1
    rw [decide_eq_false (fun h : SizeR a b => h1 h.1)]
    go_enter Try.func32, Try.ntmps32
    go_wp2_with (go_at_call 34; (with_reducible refine (is_any _ _ _ _).mono ?_); rintro r w' ⟨rfl, hw'⟩; obtain rfl := hw'.symm)
    go_ret
    exact ⟨rfl, rfl⟩
end Go.Proofs.Ytikkohecanmefaa.sc
