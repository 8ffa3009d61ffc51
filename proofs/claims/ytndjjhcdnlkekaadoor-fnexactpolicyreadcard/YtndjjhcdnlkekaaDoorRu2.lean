/-
  The program's and the model's RuleRight at every rule: they tell whether it is right; no old block turns. No condition.
-/
import Derived.Test.YtndjjhcdnlkekaaDoorRu1
import Derived.Test.YtndjjhcdnlkekaaDoorName
namespace Go.Proofs.YtndjjhcdnlkekaaDoor.rl
open Go.ChangeShapes Go.WideShapes Go.ChangeAt Go.RowKit
open Go.Proofs.YtndjjhcdnlkekaaDoor.sc (ret_b)
open Go.Proofs.YtndjjhcdnlkekaaDoor.wi (heap_lt calls_w wp_w)
open Go.Proofs.YtndjjhcdnlkekaaDoor.gb (GlobR globI_any globM_any is_any)
open Classical
set_option linter.unusedVariables false

/-- who a rule may be for -/
def UserR (u : ByteArray) : Prop := u = ⟨#[42]⟩ ∨ nm.nameB u = true
/-- a rule that is right -/
def RuleR (k n : Int) (u g : ByteArray) : Prop := Known k n ∧ UserR u ∧ GlobR g
theorem eqA {a b : ByteArray} (h : a = b) : (a.toList == b.toList) = true := ss.beqT h
theorem star_list : (⟨#[42]⟩ : ByteArray).toList = [42] := by rw [ByteArray.toList_eq]
theorem user_star (u : ByteArray) : (u.toList == [42]) = decide (u = ⟨#[42]⟩) := by
  by_cases h : u = ⟨#[42]⟩
  · rw [decide_eq_true h, ← star_list]; exact ss.beqT h
  · rw [decide_eq_false h, ← star_list]; exact ss.beqF h
set_option maxHeartbeats 4000000 in
theorem ruleI_any (k n : Int) (u g : ByteArray) (w : World) (hu : u.size ≤ maxLen) (hg : g.size ≤ maxLen) :
    Calls Tryd.prog 12 #[.agg #[.int .i64 k, .int .i64 n, .string u, .string g]] w fun e w' => e = .returned (.bool (decide (RuleR k n u g))) ∧ Below w.heap.size w w' := by
  have HI : Hid (rw.Bel w (w.alloc (.cells #[.int .i64 k, .int .i64 n, .string u, .string g] 26)) ∧ rw.At (w.alloc (.cells #[.int .i64 k, .int .i64 n, .string u, .string g] 26)) w.heap.size #[.int .i64 k, .int .i64 n, .string u, .string g] 26) := ⟨(Below.refl _ _).alloc (Nat.le_refl _) _, rw.At.new _ _ _⟩
  have hr := fun v => rulingOf_any k n u g v
  have hn := fun v => nm.impl_any u v hu
  have hgl := fun v => globI_any g v hg
  have hus := user_star u
  by_cases hk : Known k n
  · simp only [decide_eq_true hk] at hr
    by_cases hs : u = ⟨#[42]⟩
    · rw [decide_eq_true hs] at hus
      have HF : Hid (decide (GlobR g) = decide (RuleR k n u g)) := by
        show _ = _
        rw [decide_eq_decide]; exact ⟨fun h => ⟨hk, .inl hs, h⟩, fun h => h.2.2⟩
      clear hk hs hn
      go_enter Tryd.func12, Tryd.ntmps12
      go_wp2_with (go_at_call 33; fail)
      refine calls_w (fun u1 => rw.Bel w u1 ∧ rw.At u1 w.heap.size #[.int .i64 k, .int .i64 n, .string u, .string g] 26) HI.out ?_
      clear HI
      rintro u0 ⟨i0, a0⟩
      refine (hr u0).mono ?_
      rintro e w1 ⟨⟨v, rfl, _⟩, hb1⟩
      have i := i0.up hb1
      have a := a0.up hb1
      have c2 := a.cell 2
      have c3 := a.cell 3
      have HB1 : Hid (rw.Bel w w1) := i
      clear i0 a0 hb1 i a
      go_wp2_with (go_at_call 35; (with_reducible refine (hgl _).mono ?_); rintro r w2 ⟨rfl, hb2⟩; have HB2 : Hid (rw.Bel w w2) := HB1.out.up hb2; clear hb2)
      go_ret
      exact ⟨ret_b HF.out, HB2.out⟩
    · rw [decide_eq_false hs] at hus
      by_cases hm : nm.nameB u = true
      · rw [hm] at hn
        have HF : Hid (decide (GlobR g) = decide (RuleR k n u g)) := by
          show _ = _
          rw [decide_eq_decide]; exact ⟨fun h => ⟨hk, .inr hm, h⟩, fun h => h.2.2⟩
        clear hk hs hm
        go_enter Tryd.func12, Tryd.ntmps12
        go_wp2_with (go_at_call 33; fail)
        refine calls_w (fun u1 => rw.Bel w u1 ∧ rw.At u1 w.heap.size #[.int .i64 k, .int .i64 n, .string u, .string g] 26) HI.out ?_
        clear HI
        rintro u0 ⟨i0, a0⟩
        refine (hr u0).mono ?_
        rintro e w1 ⟨⟨v, rfl, _⟩, hb1⟩
        have i := i0.up hb1
        have a := a0.up hb1
        have c2 := a.cell 2
        have c3 := a.cell 3
        have HB1 : Hid (rw.Bel w w1) := i
        clear i0 a0 hb1 i a
        go_wp2_with (first | (go_at_call 34; (with_reducible refine (hn _).mono ?_); rintro r w' ⟨rfl, hw'⟩; obtain rfl := hw'.symm) | (go_at_call 35; (with_reducible refine (hgl _).mono ?_); rintro r w2 ⟨rfl, hb2⟩; have HB2 : Hid (rw.Bel w w2) := HB1.out.up hb2; clear hb2))
        go_ret
        exact ⟨ret_b HF.out, HB2.out⟩
      · have HF : Hid (false = decide (RuleR k n u g)) := (decide_eq_false fun h : RuleR k n u g => h.2.1.elim hs hm).symm
        rw [Bool.eq_false_iff.2 hm] at hn
        clear hk hs hm
        go_enter Tryd.func12, Tryd.ntmps12
        go_wp2_with (go_at_call 33; fail)
        refine calls_w (fun u1 => rw.Bel w u1 ∧ rw.At u1 w.heap.size #[.int .i64 k, .int .i64 n, .string u, .string g] 26) HI.out ?_
        clear HI
        rintro u0 ⟨i0, a0⟩
        refine (hr u0).mono ?_
        rintro e w1 ⟨⟨v, rfl, _⟩, hb1⟩
        have i := i0.up hb1
        have a := a0.up hb1
        have c2 := a.cell 2
        have c3 := a.cell 3
        have HB1 : Hid (rw.Bel w w1) := i
        clear i0 a0 hb1 i a
        go_wp2_with (go_at_call 34; (with_reducible refine (hn _).mono ?_); rintro r w' ⟨rfl, hw'⟩; obtain rfl := hw'.symm)
        go_ret
        exact ⟨ret_b HF.out, HB1.out⟩
  · simp only [decide_eq_false hk] at hr
    have HF : Hid (false = decide (RuleR k n u g)) := (decide_eq_false fun h : RuleR k n u g => hk h.1).symm
    clear hk
    go_enter Tryd.func12, Tryd.ntmps12
    go_wp2_with (go_at_call 33; fail)
    refine calls_w (fun u1 => rw.Bel w u1 ∧ rw.At u1 w.heap.size #[.int .i64 k, .int .i64 n, .string u, .string g] 26) HI.out ?_
    clear HI
    rintro u0 ⟨i0, a0⟩
    refine (hr u0).mono ?_
    rintro e w1 ⟨⟨v, rfl, _⟩, hb1⟩
    have i := i0.up hb1
    have a := a0.up hb1
    have c2 := a.cell 2
    have c3 := a.cell 3
    have HB1 : Hid (rw.Bel w w1) := i
    clear i0 a0 hb1 i a
    go_wp2
    go_ret
    exact ⟨ret_b HF.out, HB1.out⟩
set_option maxHeartbeats 4000000 in
theorem ruleM_any (k n : Int) (u g : ByteArray) (w : World) (hu : u.size ≤ maxLen) (hg : g.size ≤ maxLen) :
    Calls Tryd.prog 10 #[.agg #[.int .i64 k, .int .i64 n, .string u, .string g]] w fun e w' => e = .returned (.bool (decide (RuleR k n u g))) ∧ Below w.heap.size w w' := by
  have HB : Hid (∀ o, Below w.heap.size w (w.alloc o)) := fun o => (Below.refl _ _).alloc (Nat.le_refl _) o
  have hn := fun v => nm.spec_any u v hu
  have hgl := fun v => globM_any g v hg
  have hus := user_star u
  have h3 := fun v => is_any n 1 3 v
  by_cases hk2 : k = 2
  · have hq : (k == 2) = true := beq_iff_eq.2 hk2
    have h2 : ∀ v, Calls Tryd.prog 30 #[.int .i64 k, .int .i64 0, .int .i64 2] v fun e w' => e = .returned (.bool true) ∧ w' = v := fun v => by have := is_any k 0 2 v; rwa [decide_eq_true (by omega)] at this
    by_cases hr : 1 ≤ n ∧ n ≤ 3
    · rw [decide_eq_true hr] at h3
      have hk : Known k n := .inr (.inr ⟨hk2, hr⟩)
      by_cases hs : u = ⟨#[42]⟩
      · rw [decide_eq_true hs] at hus
        have HF : Hid (decide (GlobR g) = decide (RuleR k n u g)) := by
          show _ = _
          rw [decide_eq_decide]; exact ⟨fun h => ⟨hk, .inl hs, h⟩, fun h => h.2.2⟩
        clear hk hs hn hr hk2
        go_enter Tryd.func10, Tryd.ntmps10
        go_wp2_with (first | (go_at_call 30; (with_reducible refine (h3 _).mono ?_); rintro r w' ⟨rfl, hw'⟩; obtain rfl := hw'.symm) | (go_at_call 30; (with_reducible refine (h2 _).mono ?_); rintro r w' ⟨rfl, hw'⟩; obtain rfl := hw'.symm) | (go_at_call 32; (with_reducible refine (hgl _).mono ?_); rintro r w' ⟨rfl, hw'⟩; obtain rfl := hw'.symm))
        go_ret
        exact ⟨ret_b HF.out, HB.out _⟩
      · rw [decide_eq_false hs] at hus
        by_cases hm : nm.nameB u = true
        · rw [hm] at hn
          have HF : Hid (decide (GlobR g) = decide (RuleR k n u g)) := by
            show _ = _
            rw [decide_eq_decide]; exact ⟨fun h => ⟨hk, .inr hm, h⟩, fun h => h.2.2⟩
          clear hk hs hm hr hk2
          go_enter Tryd.func10, Tryd.ntmps10
          go_wp2_with (first | (go_at_call 30; (with_reducible refine (h3 _).mono ?_); rintro r w' ⟨rfl, hw'⟩; obtain rfl := hw'.symm) | (go_at_call 30; (with_reducible refine (h2 _).mono ?_); rintro r w' ⟨rfl, hw'⟩; obtain rfl := hw'.symm) | (go_at_call 31; (with_reducible refine (hn _).mono ?_); rintro r w' ⟨rfl, hw'⟩; obtain rfl := hw'.symm) | (go_at_call 32; (with_reducible refine (hgl _).mono ?_); rintro r w' ⟨rfl, hw'⟩; obtain rfl := hw'.symm))
          go_ret
          exact ⟨ret_b HF.out, HB.out _⟩
        · have HF : Hid (false = decide (RuleR k n u g)) := (decide_eq_false fun h : RuleR k n u g => h.2.1.elim hs hm).symm
          rw [Bool.eq_false_iff.2 hm] at hn
          clear hk hs hm hgl hr hk2
          go_enter Tryd.func10, Tryd.ntmps10
          go_wp2_with (first | (go_at_call 30; (with_reducible refine (h3 _).mono ?_); rintro r w' ⟨rfl, hw'⟩; obtain rfl := hw'.symm) | (go_at_call 30; (with_reducible refine (h2 _).mono ?_); rintro r w' ⟨rfl, hw'⟩; obtain rfl := hw'.symm) | (go_at_call 31; (with_reducible refine (hn _).mono ?_); rintro r w' ⟨rfl, hw'⟩; obtain rfl := hw'.symm))
          go_ret
          exact ⟨ret_b HF.out, HB.out _⟩
    · rw [decide_eq_false hr] at h3
      have HF : Hid (false = decide (RuleR k n u g)) := (decide_eq_false fun h : RuleR k n u g => by rcases h.1 with h | h | h <;> omega).symm
      clear hn hgl hus hr hk2
      go_enter Tryd.func10, Tryd.ntmps10
      go_wp2_with (first | (go_at_call 30; (with_reducible refine (h3 _).mono ?_); rintro r w' ⟨rfl, hw'⟩; obtain rfl := hw'.symm) | (go_at_call 30; (with_reducible refine (h2 _).mono ?_); rintro r w' ⟨rfl, hw'⟩; obtain rfl := hw'.symm))
      go_ret
      exact ⟨ret_b HF.out, HB.out _⟩
  · have hq : (k == 2) = false := beq_eq_false_iff_ne.2 hk2
    by_cases hr : 0 ≤ k ∧ k ≤ 2
    · have h2 : ∀ v, Calls Tryd.prog 30 #[.int .i64 k, .int .i64 0, .int .i64 2] v fun e w' => e = .returned (.bool true) ∧ w' = v := fun v => by have := is_any k 0 2 v; rwa [decide_eq_true hr] at this
      by_cases hz : n = 0
      · have hq2 : (n == 0) = true := beq_iff_eq.2 hz
        have hk : Known k n := by
          rcases (show k = 0 ∨ k = 1 by omega) with h | h
          · exact .inl ⟨h, hz⟩
          · exact .inr (.inl ⟨h, hz⟩)
        by_cases hs : u = ⟨#[42]⟩
        · rw [decide_eq_true hs] at hus
          have HF : Hid (decide (GlobR g) = decide (RuleR k n u g)) := by
            show _ = _
            rw [decide_eq_decide]; exact ⟨fun h => ⟨hk, .inl hs, h⟩, fun h => h.2.2⟩
          clear hk hs hn hr hk2 hz
          go_enter Tryd.func10, Tryd.ntmps10
          go_wp2_with (first | (go_at_call 30; (with_reducible refine (h2 _).mono ?_); rintro r w' ⟨rfl, hw'⟩; obtain rfl := hw'.symm) | (go_at_call 32; (with_reducible refine (hgl _).mono ?_); rintro r w' ⟨rfl, hw'⟩; obtain rfl := hw'.symm))
          go_ret
          exact ⟨ret_b HF.out, HB.out _⟩
        · rw [decide_eq_false hs] at hus
          by_cases hm : nm.nameB u = true
          · rw [hm] at hn
            have HF : Hid (decide (GlobR g) = decide (RuleR k n u g)) := by
              show _ = _
              rw [decide_eq_decide]; exact ⟨fun h => ⟨hk, .inr hm, h⟩, fun h => h.2.2⟩
            clear hk hs hm hr hk2 hz
            go_enter Tryd.func10, Tryd.ntmps10
            go_wp2_with (first | (go_at_call 30; (with_reducible refine (h2 _).mono ?_); rintro r w' ⟨rfl, hw'⟩; obtain rfl := hw'.symm) | (go_at_call 31; (with_reducible refine (hn _).mono ?_); rintro r w' ⟨rfl, hw'⟩; obtain rfl := hw'.symm) | (go_at_call 32; (with_reducible refine (hgl _).mono ?_); rintro r w' ⟨rfl, hw'⟩; obtain rfl := hw'.symm))
            go_ret
            exact ⟨ret_b HF.out, HB.out _⟩
          · have HF : Hid (false = decide (RuleR k n u g)) := (decide_eq_false fun h : RuleR k n u g => h.2.1.elim hs hm).symm
            rw [Bool.eq_false_iff.2 hm] at hn
            clear hk hs hm hgl hr hk2 hz
            go_enter Tryd.func10, Tryd.ntmps10
            go_wp2_with (first | (go_at_call 30; (with_reducible refine (h2 _).mono ?_); rintro r w' ⟨rfl, hw'⟩; obtain rfl := hw'.symm) | (go_at_call 31; (with_reducible refine (hn _).mono ?_); rintro r w' ⟨rfl, hw'⟩; obtain rfl := hw'.symm))
            go_ret
            exact ⟨ret_b HF.out, HB.out _⟩
      · have hq2 : (n == 0) = false := beq_eq_false_iff_ne.2 hz
        have HF : Hid (false = decide (RuleR k n u g)) := (decide_eq_false fun h : RuleR k n u g => by rcases h.1 with h | h | h <;> omega).symm
        clear hn hgl hus hr hk2 hz
        go_enter Tryd.func10, Tryd.ntmps10
        go_wp2_with (go_at_call 30; (with_reducible refine (h2 _).mono ?_); rintro r w' ⟨rfl, hw'⟩; obtain rfl := hw'.symm)
        go_ret
        exact ⟨ret_b HF.out, HB.out _⟩
    · have h2 : ∀ v, Calls Tryd.prog 30 #[.int .i64 k, .int .i64 0, .int .i64 2] v fun e w' => e = .returned (.bool false) ∧ w' = v := fun v => by have := is_any k 0 2 v; rwa [decide_eq_false hr] at this
      have HF : Hid (false = decide (RuleR k n u g)) := (decide_eq_false fun h : RuleR k n u g => by rcases h.1 with h | h | h <;> omega).symm
      clear hn hgl hus hr hk2
      go_enter Tryd.func10, Tryd.ntmps10
      go_wp2_with (go_at_call 30; (with_reducible refine (h2 _).mono ?_); rintro r w' ⟨rfl, hw'⟩; obtain rfl := hw'.symm)
      go_ret
      exact ⟨ret_b HF.out, HB.out _⟩
end Go.Proofs.YtndjjhcdnlkekaaDoor.rl
