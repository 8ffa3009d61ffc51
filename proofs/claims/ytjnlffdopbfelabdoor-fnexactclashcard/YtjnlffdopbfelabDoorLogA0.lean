/-
  The model's l03Is; no old block turns. No condition.
-/
import Derived.Test.YtjnlffdopbfelabDoorLogM
namespace Go.Proofs.YtjnlffdopbfelabDoor.lm
open Go.ChangeShapes Go.WideShapes Go.ChangeAt Go.RowKit
open Go.Proofs.YtjnlffdopbfelabDoor.wi (heap_lt calls_w wp_w)
open Go.Proofs.YtjnlffdopbfelabDoor.lg Go.Proofs.YtjnlffdopbfelabDoor.ss
open Go.Proofs.YtjnlffdopbfelabDoor.sh (macB macB_size macM_any)
set_option linter.unusedVariables false

theorem isM_any (n lo hi : Int) (w : World) : Calls Tryd.prog 11 #[.int .i64 n, .int .i64 lo, .int .i64 hi] w fun r w' => r = .returned (.bool (decide (lo ≤ n ∧ n ≤ hi))) ∧ w' = w := by
  by_cases h0 : lo ≤ n
  · have d : decide (lo ≤ n ∧ n ≤ hi) = decide (n ≤ hi) := decide_eq_decide.2 ⟨fun h => h.2, fun h => ⟨h0, h⟩⟩
    rw [d]
    clear d
    go_enter Tryd.func11, Tryd.ntmps11
    go_wp2
    go_ret
    exact ⟨rfl, rfl⟩
  · rw [decide_eq_false (fun h => h0 h.1)]
    go_enter Tryd.func11, Tryd.ntmps11
    go_wp2
    go_ret
    exact ⟨rfl, rfl⟩
end Go.Proofs.YtjnlffdopbfelabDoor.lm
