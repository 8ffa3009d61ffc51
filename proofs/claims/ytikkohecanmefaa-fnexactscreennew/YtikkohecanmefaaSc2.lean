/-
  The program's escRight at every text: it tells what the plain condition tells; no old block turns. No condition.
-/
import Derived.Test.YtikkohecanmefaaSc1
namespace Go.Proofs.Ytikkohecanmefaa.sc
open Go.ChangeShapes Go.WideShapes Go.ChangeAt Go.RowKit
open Go.Proofs.Ytikkohecanmefaa.ss (beqT beqF)
open Classical
set_option linter.unusedVariables false

/-- is it headed? -/
def Head (e : ByteArray) : Prop := 2 ≤ e.size ∧ e.extract 0 2 = esc2
theorem headI_any (e : ByteArray) (w : World) (he : e.size ≤ maxLen) : Calls Try.prog 80 #[.string e, .string esc2] w fun r w' => r = .returned (.bool (decide (Head e))) ∧ w' = w := by
  unfold maxLen at he
  have h2 : esc2.size = 2 := rfl
  by_cases h : 2 ≤ e.size
  · by_cases hx : e.extract 0 2 = esc2
    · rw [decide_eq_true (show Head e from ⟨h, hx⟩)]
      have hb : ((e.extract 0 2).toList == esc2.toList) = true := beqT hx
      generalize esc2 = o at *
      go_enter Try.func80, Try.ntmps80
      go_wp2
      go_ret
      exact ⟨rfl, rfl⟩
    · rw [decide_eq_false (fun h' : Head e => hx h'.2)]
      have hb : ((e.extract 0 2).toList == esc2.toList) = false := beqF hx
      generalize esc2 = o at *
      go_enter Try.func80, Try.ntmps80
      go_wp2
      go_ret
      exact ⟨rfl, rfl⟩
  · rw [decide_eq_false (fun h' : Head e => h h'.1)]
    generalize esc2 = o at *
    go_enter Try.func80, Try.ntmps80
    go_wp2
    go_ret
    exact ⟨rfl, rfl⟩
theorem cutL_any (e : ByteArray) (w : World) (he : e.size ≤ maxLen) : Calls Try.prog 71 #[.string e, .string esc2] w fun r w' => r = .returned (.tuple #[.string (if Head e then e.extract 2 e.size else e), .bool (decide (Head e))]) ∧ w' = w := by
  unfold maxLen at he
  have h2 : esc2.size = 2 := rfl
  have hc := headI_any e w he
  by_cases h : Head e
  · rw [decide_eq_true h] at hc ⊢
    rw [if_pos h]
    have h3 := h.1
    generalize esc2 = o at *
    clear h
    go_enter Try.func71, Try.ntmps71
    go_wp2_with (go_at_call 80; (with_reducible refine hc.mono ?_); rintro r w' ⟨rfl, hw'⟩; obtain rfl := hw'.symm)
    go_ret2
    exact ⟨rfl, rfl⟩
  · rw [decide_eq_false h] at hc ⊢
    rw [if_neg h]
    generalize esc2 = o at *
    clear h
    go_enter Try.func71, Try.ntmps71
    go_wp2_with (go_at_call 80; (with_reducible refine hc.mono ?_); rintro r w' ⟨rfl, hw'⟩; obtain rfl := hw'.symm)
    go_ret2
    exact ⟨rfl, rfl⟩
theorem cut_any (e : ByteArray) (w : World) (he : e.size ≤ maxLen) : Calls Try.prog 60 #[.string e, .string esc2] w fun r w' => r = .returned (.tuple #[.string (if Head e then e.extract 2 e.size else e), .bool (decide (Head e))]) ∧ w' = w := by
  have hc := cutL_any e w he
  generalize (if Head e then e.extract 2 e.size else e) = x at *
  generalize decide (Head e) = y at *
  generalize esc2 = o at *
  go_enter Try.func60, Try.ntmps60
  go_wp2_with (go_at_call 71; (with_reducible refine hc.mono ?_); rintro r w' ⟨rfl, hw'⟩; obtain rfl := hw'.symm)
  go_ret2
  exact ⟨rfl, rfl⟩
theorem head_not {e : ByteArray} (h : Head e) : e ≠ ⟨#[]⟩ ∧ e ≠ esc1 := by
  have h1 := h.1
  refine ⟨fun h' => ?_, fun h' => ?_⟩
  · rw [h'] at h1; exact absurd h1 (by decide)
  · rw [h'] at h1; exact absurd h1 (by decide)
theorem escR_head {e : ByteArray} (h : Head e) : EscR e ↔ (e.extract 2 e.size).size ≤ 6 ∧ AllB par (e.extract 2 e.size) := by
  have hs : (e.extract 2 e.size).size = e.size - 2 := by rw [ByteArray.size_extract]; omega
  have hn := head_not h
  have h1 := h.1
  constructor
  · rintro (h' | h' | ⟨h2, h3, h4, h5⟩)
    · exact absurd h' hn.1
    · exact absurd h' hn.2
    · exact ⟨by omega, h5⟩
  · rintro ⟨h2, h3⟩
    exact .inr (.inr ⟨h.2, h.1, by omega, h3⟩)
theorem escR_bare {e : ByteArray} (h : ¬ Head e) : EscR e ↔ (e = ⟨#[]⟩ ∨ e = esc1) := by
  constructor
  · rintro (h' | h' | ⟨h2, h3, h4, h5⟩)
    · exact .inl h'
    · exact .inr h'
    · exact absurd ⟨h3, h2⟩ h
  · rintro (h' | h')
    · exact .inl h'
    · exact .inr (.inl h')
theorem escI_any (e : ByteArray) (w : World) (he : e.size ≤ maxLen) : Calls Try.prog 41 #[.string e] w fun r w' => r = .returned (.bool (decide (EscR e))) ∧ Below w.heap.size w w' := by
  have HB : Hid (Below w.heap.size w w) := Below.refl _ _
  have hc := cut_any e w he
  unfold maxLen at he
  by_cases h : Head e
  · rw [if_pos h, decide_eq_true h] at hc
    have ha := all_par (e.extract 2 e.size) w
    have hE := escR_head h
    have hz : (e.extract 2 e.size).size ≤ 9223372036854775807 := by rw [ByteArray.size_extract]; omega
    clear h
    generalize e.extract 2 e.size = n at *
    by_cases h6 : n.size ≤ 6
    · have d6 : decide ((n.size : Int) ≤ 6) = true := decide_eq_true (by omega)
      have e1 : decide (EscR e) = decide (AllB par n) := by rw [decide_eq_decide, hE]; exact ⟨fun h => h.2, fun h => ⟨h6, h⟩⟩
      rw [e1]
      clear e1 hE
      go_enter Try.func41, Try.ntmps41
      go_wp2_with (first | (go_at_call 60; (with_reducible refine hc.mono ?_); rintro r w' ⟨rfl, hw'⟩; obtain rfl := hw'.symm) | (go_at_call 38; (with_reducible refine ha.mono ?_); rintro r w' ⟨rfl, hb⟩))
      go_ret
      exact ⟨rfl, hb⟩
    · have d6 : decide ((n.size : Int) ≤ 6) = false := decide_eq_false (by omega)
      rw [decide_eq_false (fun h => h6 (hE.1 h).1)]
      clear hE
      go_enter Try.func41, Try.ntmps41
      go_wp2_with (first | (go_at_call 60; (with_reducible refine hc.mono ?_); rintro r w' ⟨rfl, hw'⟩; obtain rfl := hw'.symm) | (go_at_call 38; (with_reducible refine ha.mono ?_); rintro r w' ⟨rfl, hb⟩))
      go_ret
      exact ⟨rfl, HB.out⟩
  · rw [if_neg h, decide_eq_false h] at hc
    have hE := escR_bare h
    clear h
    by_cases h0 : e = ⟨#[]⟩
    · rw [decide_eq_true (hE.2 (.inl h0))]
      clear hE
      subst h0
      go_enter Try.func41, Try.ntmps41
      go_wp2_with (first | (go_at_call 60; (with_reducible refine hc.mono ?_); rintro r w' ⟨rfl, hw'⟩; obtain rfl := hw'.symm))
      go_ret
      exact ⟨rfl, HB.out⟩
    · have b0 := beqF h0
      have b0' : e.toList.isEmpty = false := by
        rw [ByteArray.toList_eq, List.isEmpty_eq_false_iff]
        intro h'
        exact h0 (by cases e; simp only [ByteArray.mk.injEq]; exact Array.ext' h')
      by_cases h1 : e = esc1
      · rw [decide_eq_true (hE.2 (.inr h1))]
        clear hE
        subst h1
        go_enter Try.func41, Try.ntmps41
        go_wp2_with (first | (go_at_call 60; (with_reducible refine hc.mono ?_); rintro r w' ⟨rfl, hw'⟩; obtain rfl := hw'.symm))
        go_ret
        exact ⟨rfl, HB.out⟩
      · have b1 : (e.toList == [27]) = false := by have := beqF h1; rwa [show esc1.toList = [27] by rw [ByteArray.toList_eq]] at this
        rw [decide_eq_false (fun h => (hE.1 h).elim h0 h1)]
        clear hE
        go_enter Try.func41, Try.ntmps41
        go_wp2_with (first | (go_at_call 60; (with_reducible refine hc.mono ?_); rintro r w' ⟨rfl, hw'⟩; obtain rfl := hw'.symm))
        go_ret
        exact ⟨rfl, HB.out⟩
end Go.Proofs.Ytikkohecanmefaa.sc
