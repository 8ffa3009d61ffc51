/-
  The model's GramRight at every gram: it tells what the plain condition tells; no old block turns. No condition.
-/
import Derived.Test.YtneahcoakbbdaaaDoorGramRI
namespace Go.Proofs.YtneahcoakbbdaaaDoor.wi
open Go.ChangeShapes Go.WideShapes Go.ChangeAt Go.RowKit
open Classical
set_option linter.unusedVariables false

set_option maxHeartbeats 2000000 in
theorem gramM_any (s e c : Int) (b : ByteArray) (w : World) (hb : b.size ≤ maxLen) :
    Calls Tryd.prog 34 #[.agg #[.int .i64 s, .int .i64 e, .int .i64 c, .string b]] w fun r w' => r = .returned (.bool (decide (RightG s e c b.size))) ∧ Below w.heap.size w w' := by
  have HB : Hid (∀ o, Below w.heap.size w (w.alloc o)) := fun o => (Below.refl _ _).alloc (Nat.le_refl _) o
  unfold maxLen at hb
  by_cases h1 : 0 ≤ s ∧ s ≤ 1
  · by_cases h2 : 0 ≤ e ∧ e ≤ 200
    · by_cases h3 : 0 ≤ c ∧ c ≤ 2000
      · by_cases h4 : b.size ≤ 800
        · rw [decide_eq_true (show RightG s e c b.size from ⟨h1, h2, h3, h4⟩)]
          have d4 : decide ((b.size : Int) ≤ 800) = true := decide_eq_true (by omega)
          have d1 := decide_eq_true h1
          have d2 := decide_eq_true h2
          have d3 := decide_eq_true h3
          go_enter Tryd.func34, Tryd.ntmps34
          go_wp2_with (go_at_call 42; (with_reducible refine (is_any _ _ _ _).mono ?_); rintro r w' ⟨rfl, hw'⟩; obtain rfl := hw'.symm)
          go_ret
          exact ⟨rfl, HB.out _⟩
        · rw [decide_eq_false (fun h : RightG s e c b.size => h4 h.2.2.2)]
          have d4 : decide ((b.size : Int) ≤ 800) = false := decide_eq_false (by omega)
          have d1 := decide_eq_true h1
          have d2 := decide_eq_true h2
          have d3 := decide_eq_true h3
          go_enter Tryd.func34, Tryd.ntmps34
          go_wp2_with (go_at_call 42; (with_reducible refine (is_any _ _ _ _).mono ?_); rintro r w' ⟨rfl, hw'⟩; obtain rfl := hw'.symm)
          go_ret
          exact ⟨rfl, HB.out _⟩
      · rw [decide_eq_false (fun h : RightG s e c b.size => h3 h.2.2.1)]
        have d1 := decide_eq_true h1
        have d2 := decide_eq_true h2
        have d3 := decide_eq_false h3
        go_enter Tryd.func34, Tryd.ntmps34
        go_wp2_with (go_at_call 42; (with_reducible refine (is_any _ _ _ _).mono ?_); rintro r w' ⟨rfl, hw'⟩; obtain rfl := hw'.symm)
        go_ret
        exact ⟨rfl, HB.out _⟩
    · rw [decide_eq_false (fun h : RightG s e c b.size => h2 h.2.1)]
      have d1 := decide_eq_true h1
      have d2 := decide_eq_false h2
      go_enter Tryd.func34, Tryd.ntmps34
      go_wp2_with (go_at_call 42; (with_reducible refine (is_any _ _ _ _).mono ?_); rintro r w' ⟨rfl, hw'⟩; obtain rfl := hw'.symm)
      go_ret
      exact ⟨rfl, HB.out _⟩
  · rw [decide_eq_false (fun h : RightG s e c b.size => h1 h.1)]
    have d1 := decide_eq_false h1
    go_enter Tryd.func34, Tryd.ntmps34
    go_wp2_with (go_at_call 42; (with_reducible refine (is_any _ _ _ _).mono ?_); rintro r w' ⟨rfl, hw'⟩; obtain rfl := hw'.symm)
    go_ret
    exact ⟨rfl, HB.out _⟩
end Go.Proofs.YtneahcoakbbdaaaDoor.wi
