/-
  The program's and the model's PolicyRight at every list of rules: they tell whether it is right; no old block turns. No condition.
-/
import Derived.Test.YtndjjhcdnlkekaaDoorRuS
import Derived.Test.YtndjjhcdnlkekaaDoorRu2
namespace Go.Proofs.YtndjjhcdnlkekaaDoor.rl
open Go.ChangeShapes Go.WideShapes Go.ChangeAt Go.RowKit
open Go.Proofs.YtndjjhcdnlkekaaDoor.sc (ret_b)
open Go.Proofs.YtndjjhcdnlkekaaDoor.wi (heap_lt calls_w wp_w)
open Classical
set_option linter.unusedVariables false

def LnR (x : Ln) : Prop := RuleR x.1 x.2.1 x.2.2.1 x.2.2.2
/-- a policy that is right -/
def PolR (l : List Ln) : Prop := l.length ≤ 12 ∧ ∀ j, j < l.length → LnR (l.getD j ln0)
theorem infoIR : (Tryd.prog.info? 26).map (·.size) = some 4 := by kernel_rfl
set_option maxHeartbeats 8000000 in
theorem polI_any (v : Value) (l : List Ln) (w : World) (hl : l.length ≤ maxLen) (hz : ∀ r ∈ l, r.2.2.1.size ≤ maxLen ∧ r.2.2.2.size ≤ maxLen) (hv : SliceIs w v l) :
    Calls Tryd.prog 16 #[v] w fun r w' => r = .returned (.bool (decide (PolR l))) ∧ Below w.heap.size w w' := by
  have HB0 : Hid (Below w.heap.size w w) := Below.refl _ _
  by_cases h12 : (12 : Int) < (l.length : Int)
  · have HF : Hid (false = decide (PolR l)) := (decide_eq_false (fun h : PolR l => by have := h.1; omega)).symm
    obtain ⟨p, cap, rfl⟩ := hv.shape
    unfold maxLen at hl
    clear hv hz
    go_enter Tryd.func16, Tryd.ntmps16
    go_wp2
    go_ret
    exact ⟨ret_b HF.out, HB0.out⟩
  · rcases hv with ⟨p, cap, rfl, rfl⟩ | ⟨b, off, cap, hb, rfl, hR⟩
    · have HF : Hid (true = decide (PolR [])) := (decide_eq_true (show PolR [] from ⟨by simp, fun j h => by simp at h⟩)).symm
      go_enter Tryd.func16, Tryd.ntmps16
      go_wp2
      refine wp_loop_rounds 1 ?_
      rw [rounds_succ]
      go_wp2
      go_ret
      exact ⟨ret_b HF.out, HB0.out⟩
    · have HZ : Hid (∀ k, k < l.length → (l.getD k ln0).2.2.1.size ≤ maxLen ∧ (l.getD k ln0).2.2.2.size ≤ maxLen) := fun k hk => by
        rw [List.getD_eq_getElem?_getD, List.getElem?_eq_getElem hk]; exact hz _ (List.getElem_mem hk)
      have HD : Hid ((∀ j, j < l.length → LnR (l.getD j ln0)) → true = decide (PolR l)) := fun h => (decide_eq_true (show PolR l from ⟨by omega, h⟩)).symm
      have HN : Hid (∀ j, j < l.length → ¬ LnR (l.getD j ln0) → false = decide (PolR l)) := fun j hj h => (decide_eq_false (fun h' : PolR l => h (h'.2 j hj))).symm
      obtain ⟨n, hn⟩ : ∃ n, n = l.length := ⟨_, rfl⟩
      have HR : Hid (∀ u, Below w.heap.size w u → Row u b off l) := fun u hu => hR.below hu hb
      have HNL : Hid (n = l.length) := hn
      rw [← hn] at hl h12 HZ HD HN ⊢
      have hn12 : n ≤ 12 := by omega
      clear hn hR hz
      go_enter Tryd.func16, Tryd.ntmps16
      go_wp2
      go_loopw [10] (fun i u => ∃ k : Nat, k ≤ n ∧ i = .int .i64 k ∧ Hid (∀ j, j < k → LnR (l.getD j ln0)) ∧ Hid (Below w.heap.size w u)) (fun i _ => n - (intOf i).toNat)
      case atStart => exact ⟨0, Nat.zero_le _, rfl, fun j h => by omega, HB0⟩
      case round =>
        clear HB0
        obtain ⟨k, hk, rfl, HG, HU⟩ := hrel
        by_cases hlt : k < n
        · obtain ⟨c1, c2, c3, c4⟩ := HR.out wr HU.out k (by rw [← HNL.out]; exact hlt)
          obtain ⟨hz1, hz2⟩ := HZ.out k hlt
          have HN1 : Hid (¬ LnR (l.getD k ln0) → false = decide (PolR l)) := HN.out k hlt
          have HS : Hid (LnR (l.getD k ln0) → ∀ j, j < k + 1 → LnR (l.getD j ln0)) := fun h j hj => by
            by_cases e : j = k
            · rw [e]; exact h
            · exact HG.out j (by omega)
          obtain ⟨x, hx⟩ : ∃ x, x = l.getD k ln0 := ⟨_, rfl⟩
          rw [← hx] at c1 c2 c3 c4 hz1 hz2 HN1 HS
          clear hx
          obtain ⟨x1, x2, x3, x4⟩ := x
          dsimp only at c1 c2 c3 c4 hz1 hz2
          have hr := fun u => ruleI_any x1 x2 x3 x4 u hz1 hz2
          clear hz1 hz2 HG
          have hBx : Hid (∀ o, Below w.heap.size w (wr.alloc o)) := fun o => HU.out.alloc HU.out.size o
          clear HU
          go_wp2_with (go_at_call 12; fail)
          refine (hr _).mono ?_
          rintro r w3 ⟨rfl, hb3⟩
          have HB3 : Hid (Below w.heap.size w w3) := (hBx.out _).trans (hb3.mono (hBx.out _).size)
          clear hb3 hBx c1 c2 c3 c4 hr
          by_cases hq : RuleR x1 x2 x3 x4
          · rw [decide_eq_true hq]
            have HQ : Hid (∀ j, j < k + 1 → LnR (l.getD j ln0)) := HS.out hq
            clear HS HN1 hq
            go_wp2
            exact ⟨⟨k + 1, by omega, by go_num, HQ, HB3⟩, by simp [intOf]; omega⟩
          · rw [decide_eq_false hq]
            have HQ : Hid (false = decide (PolR l)) := HN1.out hq
            clear HS HN1 hq
            go_wp2
            go_ret
            exact ⟨ret_b HQ.out, HB3.out⟩
        · obtain rfl : k = n := by omega
          have HF : Hid (true = decide (PolR l)) := HD.out HG.out
          clear HG HD HN
          go_wp2
          go_ret
          exact ⟨ret_b HF.out, HU.out⟩
set_option maxHeartbeats 8000000 in
theorem polM_any (v : Value) (l : List Ln) (w : World) (hl : l.length ≤ maxLen) (hz : ∀ r ∈ l, r.2.2.1.size ≤ maxLen ∧ r.2.2.2.size ≤ maxLen) (hv : SliceIs w v l) :
    Calls Tryd.prog 14 #[v] w fun r w' => r = .returned (.bool (decide (PolR l))) ∧ Below w.heap.size w w' := by
  have HB0 : Hid (Below w.heap.size w w) := Below.refl _ _
  rcases hv with ⟨p, cap, rfl, rfl⟩ | ⟨b, off, cap, hb, rfl, hR⟩
  · have HF : Hid (true = decide (PolR [])) := (decide_eq_true (show PolR [] from ⟨by simp, fun j h => by simp at h⟩)).symm
    go_enter Tryd.func14, Tryd.ntmps14
    go_wp2
    refine wp_loop_rounds 1 ?_
    rw [rounds_succ]
    go_wp2
    go_ret
    exact ⟨ret_b HF.out, HB0.out⟩
  · have HZ : Hid (∀ k, k < l.length → (l.getD k ln0).2.2.1.size ≤ maxLen ∧ (l.getD k ln0).2.2.2.size ≤ maxLen) := fun k hk => by
      rw [List.getD_eq_getElem?_getD, List.getElem?_eq_getElem hk]; exact hz _ (List.getElem_mem hk)
    have HD : Hid ((∀ j, j < l.length → LnR (l.getD j ln0)) → decide ((l.length : Int) ≤ 12) = decide (PolR l)) := fun h => by
      rw [decide_eq_decide]; exact ⟨fun h' => ⟨by omega, h⟩, fun h' => by have := h'.1; omega⟩
    have HN : Hid (∀ j, j < l.length → ¬ LnR (l.getD j ln0) → false = decide (PolR l)) := fun j hj h => (decide_eq_false (fun h' : PolR l => h (h'.2 j hj))).symm
    obtain ⟨n, hn⟩ : ∃ n, n = l.length := ⟨_, rfl⟩
    have HR : Hid (∀ u, Below w.heap.size w u → Row u b off l) := fun u hu => hR.below hu hb
    have HNL : Hid (n = l.length) := hn
    rw [← hn] at hl HZ HD HN ⊢
    unfold maxLen at hl
    clear hn hR hz
    go_enter Tryd.func14, Tryd.ntmps14
    go_wp2
    go_loopw [3] (fun i u => ∃ k : Nat, k ≤ n ∧ i = .int .i64 k ∧ Hid (∀ j, j < k → LnR (l.getD j ln0)) ∧ Hid (Below w.heap.size w u)) (fun i _ => n - (intOf i).toNat)
    case atStart => exact ⟨0, Nat.zero_le _, rfl, fun j h => by omega, HB0⟩
    case round =>
      clear HB0
      obtain ⟨k, hk, rfl, HG, HU⟩ := hrel
      by_cases hlt : k < n
      · obtain ⟨c1, c2, c3, c4⟩ := HR.out wr HU.out k (by rw [← HNL.out]; exact hlt)
        obtain ⟨hz1, hz2⟩ := HZ.out k hlt
        have HN1 : Hid (¬ LnR (l.getD k ln0) → false = decide (PolR l)) := HN.out k hlt
        have HS : Hid (LnR (l.getD k ln0) → ∀ j, j < k + 1 → LnR (l.getD j ln0)) := fun h j hj => by
          by_cases e : j = k
          · rw [e]; exact h
          · exact HG.out j (by omega)
        obtain ⟨x, hx⟩ : ∃ x, x = l.getD k ln0 := ⟨_, rfl⟩
        rw [← hx] at c1 c2 c3 c4 hz1 hz2 HN1 HS
        clear hx
        obtain ⟨x1, x2, x3, x4⟩ := x
        dsimp only at c1 c2 c3 c4 hz1 hz2
        have hr := fun u => ruleM_any x1 x2 x3 x4 u hz1 hz2
        clear hz1 hz2 HG
        go_wp2_with (go_at_call 10; fail)
        refine (hr _).mono ?_
        rintro r w3 ⟨rfl, hb3⟩
        have HB3 : Hid (Below w.heap.size w w3) := HU.out.trans (hb3.mono HU.out.size)
        clear hb3 HU c1 c2 c3 c4 hr
        by_cases hq : RuleR x1 x2 x3 x4
        · rw [decide_eq_true hq]
          have HQ : Hid (∀ j, j < k + 1 → LnR (l.getD j ln0)) := HS.out hq
          clear HS HN1 hq
          go_wp2
          exact ⟨⟨k + 1, by omega, by go_num, HQ, HB3⟩, by simp [intOf]; omega⟩
        · rw [decide_eq_false hq]
          have HQ : Hid (false = decide (PolR l)) := HN1.out hq
          clear HS HN1 hq
          go_wp2
          go_ret
          exact ⟨ret_b HQ.out, HB3.out⟩
      · obtain rfl : k = n := by omega
        have HF : Hid (decide ((k : Int) ≤ 12) = decide (PolR l)) := HD.out HG.out
        clear HG HD HN
        go_wp2
        go_ret
        exact ⟨ret_b HF.out, HU.out⟩
end Go.Proofs.YtndjjhcdnlkekaaDoor.rl
