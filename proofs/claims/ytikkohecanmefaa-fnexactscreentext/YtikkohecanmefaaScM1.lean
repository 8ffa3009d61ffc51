/-
  The model's l06Plain, l06Param and l06Esc at every text: they tell what the plain conditions tell; the world stays. No condition.
-/
import Derived.Test.YtikkohecanmefaaSc2
namespace Go.Proofs.Ytikkohecanmefaa.sc
open Go.ChangeShapes Go.WideShapes Go.ChangeAt Go.RowKit
open Go.Proofs.Ytikkohecanmefaa.ss (beqT beqF)
open Classical
set_option linter.unusedVariables false

set_option maxHeartbeats 2000000 in
theorem plainM_any (s : ByteArray) (w : World) (hs : s.size ≤ maxLen) :
    Calls Try.prog 33 #[.string s] w fun e w' => e = .returned (.bool (decide (AllB prn s))) ∧ w' = w := by
  unfold maxLen at hs
  go_enter Try.func33, Try.ntmps33
  go_wp2
  go_loop [3] (fun i => ∃ k : Nat, k ≤ s.size ∧ i = .int .i64 k ∧ Hid (∀ j, j < k → ∀ h : j < s.size, prn (s[j]'h).toNat)) (fun i => s.size - (intOf i).toNat)
  case atStart => exact ⟨0, Nat.zero_le _, rfl, fun j hj => by omega⟩
  case round =>
    obtain ⟨k, hk, rfl, hall⟩ := hrel
    by_cases hlt : k < s.size
    · by_cases hq : prn (s[k]'hlt).toNat
      · have HN : Hid (∀ j, j < k + 1 → ∀ h : j < s.size, prn (s[j]'h).toNat) := fun j hj hj' => by
          by_cases e : j = k
          · subst e; exact hq
          · exact hall.out j (by omega) hj'
        have h1 : ¬ ((s[k]'hlt).toNat : Int) < 32 := by have := hq.1; omega
        have h2 : ((s[k]'hlt).toNat : Int) ≤ 126 := by have := hq.2; omega
        clear hall hq
        go_wp2
        go_round
        case rel => exact ⟨k + 1, by omega, by go_num, HN⟩
        case measure => simp [intOf]; omega
      · have HR : Hid (decide (AllB prn s) = false) := decide_eq_false (AllB.not hlt hq)
        rcases (show ((s[k]'hlt).toNat : Int) < 32 ∨ 126 < ((s[k]'hlt).toNat : Int) by unfold prn at hq; omega) with hl | hl
        · clear hall hq
          go_wp2
          go_ret
          exact ⟨ret_b HR.out.symm, rfl⟩
        · have h1 : ¬ ((s[k]'hlt).toNat : Int) < 32 := by omega
          clear hall hq
          go_wp2
          go_ret
          exact ⟨ret_b HR.out.symm, rfl⟩
    · have HR : Hid (decide (AllB prn s) = true) := decide_eq_true fun j h => hall.out j (by omega) h
      clear hall
      go_wp2
      go_ret
      exact ⟨ret_b HR.out.symm, rfl⟩
theorem paramM_any (r : Nat) (w : World) :
    Calls Try.prog 59 #[.int .u8 (r : Int)] w fun e w' => e = .returned (.bool (decide (par r))) ∧ w' = w := by
  rcases (show r < 48 ∨ (48 ≤ r ∧ r ≤ 57) ∨ (57 < r ∧ r < 59) ∨ r = 59 ∨ 59 < r by omega) with h | h | h | h | h
  · rw [decide_eq_false (fun h' : par r => by rcases h' with h' | h' <;> omega)]
    go_enter Try.func59, Try.ntmps59
    go_wp2
    go_ret
    exact ⟨ret_b (by first | (simp; done) | (simp; omega)), rfl⟩
  · rw [decide_eq_true (show par r from .inl h)]
    go_enter Try.func59, Try.ntmps59
    go_wp2
    go_ret
    exact ⟨ret_b (by first | (simp; done) | (simp; omega)), rfl⟩
  · rw [decide_eq_false (fun h' : par r => by rcases h' with h' | h' <;> omega)]
    go_enter Try.func59, Try.ntmps59
    go_wp2
    go_ret
    exact ⟨ret_b (by first | (simp; done) | (simp; omega)), rfl⟩
  · rw [decide_eq_true (show par r from .inr h)]
    go_enter Try.func59, Try.ntmps59
    go_wp2
    go_ret
    exact ⟨ret_b (by first | (simp; done) | (simp; omega)), rfl⟩
  · rw [decide_eq_false (fun h' : par r => by rcases h' with h' | h' <;> omega)]
    go_enter Try.func59, Try.ntmps59
    go_wp2
    go_ret
    exact ⟨ret_b (by first | (simp; done) | (simp; omega)), rfl⟩
theorem ext_all {p : Nat → Prop} {e : ByteArray} (h : 2 ≤ e.size) : AllB p (e.extract 2 e.size) ↔ ∀ j, 2 ≤ j → ∀ h : j < e.size, p (e[j]'h).toNat := by
  have hs : (e.extract 2 e.size).size = e.size - 2 := by rw [ByteArray.size_extract]; omega
  have hg : ∀ i (hi : i < (e.extract 2 e.size).size), (e.extract 2 e.size)[i]'hi = e[2 + i]'(by omega) := fun i hi => by rw [ByteArray.getElem_extract]
  constructor
  · intro ha j hj hj'
    have := ha (j - 2) (by omega)
    rw [hg] at this
    have e1 : 2 + (j - 2) = j := by omega
    simpa only [e1] using this
  · intro ha j hj
    rw [hg]
    exact ha (2 + j) (by omega) _
set_option maxHeartbeats 4000000 in
theorem escM_any (e : ByteArray) (w : World) (he : e.size ≤ maxLen) : Calls Try.prog 35 #[.string e] w fun r w' => r = .returned (.bool (decide (EscR e))) ∧ w' = w := by
  unfold maxLen at he
  by_cases h0 : e = ⟨#[]⟩
  · rw [decide_eq_true (show EscR e from .inl h0)]
    subst h0
    go_enter Try.func35, Try.ntmps35
    go_wp2
    go_ret
    exact ⟨rfl, rfl⟩
  · have b0' : e.toList.isEmpty = false := by
      rw [ByteArray.toList_eq, List.isEmpty_eq_false_iff]
      intro h'
      exact h0 (by cases e; simp only [ByteArray.mk.injEq]; exact Array.ext' h')
    by_cases h1 : e = esc1
    · rw [decide_eq_true (show EscR e from .inr (.inl h1))]
      subst h1
      go_enter Try.func35, Try.ntmps35
      go_wp2
      go_ret
      exact ⟨rfl, rfl⟩
    · have b1 : (e.toList == [27]) = false := by have := beqF h1; rwa [show esc1.toList = [27] by rw [ByteArray.toList_eq]] at this
      have hE : EscR e ↔ (e.extract 0 2 = esc2 ∧ 2 ≤ e.size ∧ e.size ≤ 8 ∧ AllB par (e.extract 2 e.size)) := ⟨fun h => by
        rcases h with h | h | h
        · exact absurd h h0
        · exact absurd h h1
        · exact h, fun h => .inr (.inr h)⟩
      clear h0 h1
      by_cases h2 : 2 ≤ e.size
      · have n2 : ¬ (e.size : Int) < 2 := by omega
        by_cases h8 : e.size ≤ 8
        · have n8 : (e.size : Int) ≤ 8 := by omega
          by_cases hx : e.extract 0 2 = esc2
          · have hb : ((e.extract 0 2).toList == [27, 91]) = true := by rw [hx, ByteArray.toList_eq]; rfl
            have HA : Hid ((∀ j, 2 ≤ j → ∀ h : j < e.size, par (e[j]'h).toNat) → decide (EscR e) = true) := fun h => decide_eq_true (hE.2 ⟨hx, h2, h8, (ext_all h2).2 h⟩)
            have HF : Hid (∀ j, 2 ≤ j → ∀ h : j < e.size, ¬ par (e[j]'h).toNat → decide (EscR e) = false) := fun j hj hj' hp => decide_eq_false (fun h => hp ((ext_all h2).1 (hE.1 h).2.2.2 j hj hj'))
            clear hE hx
            go_enter Try.func35, Try.ntmps35
            go_wp2
            clear hb b0' b1 n2 n8
            go_loop [3] (fun i => ∃ k : Nat, 2 ≤ k ∧ k ≤ e.size ∧ i = .int .i64 k ∧ Hid (∀ j, 2 ≤ j → j < k → ∀ h : j < e.size, par (e[j]'h).toNat)) (fun i => e.size - (intOf i).toNat)
            case atStart => exact ⟨2, Nat.le_refl _, h2, rfl, fun j hj hj' => by omega⟩
            case round =>
              obtain ⟨k, hk2, hk, rfl, hall⟩ := hrel
              by_cases hlt : k < e.size
              · have hp := paramM_any (e[k]'hlt).toNat w
                by_cases hq : par (e[k]'hlt).toNat
                · have HN : Hid (∀ j, 2 ≤ j → j < k + 1 → ∀ h : j < e.size, par (e[j]'h).toNat) := fun j hj hj2 hj' => by
                    by_cases e1 : j = k
                    · subst e1; exact hq
                    · exact hall.out j hj (by omega) hj'
                  rw [decide_eq_true hq] at hp
                  clear hall hq HA HF
                  go_wp2_with (go_at_call 59; (with_reducible refine hp.mono ?_); rintro r w' ⟨rfl, hw'⟩; obtain rfl := hw'.symm)
                  go_round
                  case rel => exact ⟨k + 1, by omega, by omega, by go_num, HN⟩
                  case measure => simp [intOf]; omega
                · have HR : Hid (decide (EscR e) = false) := HF.out k hk2 hlt hq
                  rw [decide_eq_false hq] at hp
                  clear hall hq HA HF
                  go_wp2_with (go_at_call 59; (with_reducible refine hp.mono ?_); rintro r w' ⟨rfl, hw'⟩; obtain rfl := hw'.symm)
                  go_ret
                  exact ⟨ret_b HR.out.symm, rfl⟩
              · have HR : Hid (decide (EscR e) = true) := HA.out fun j hj h => hall.out j hj (by omega) h
                clear hall HA HF
                go_wp2
                go_ret
                exact ⟨ret_b HR.out.symm, rfl⟩
          · have hb : ((e.extract 0 2).toList == [27, 91]) = false := by have := beqF hx; rwa [show esc2.toList = [27, 91] by rw [ByteArray.toList_eq]] at this
            rw [decide_eq_false (fun h => hx (hE.1 h).1)]
            clear hE hx
            go_enter Try.func35, Try.ntmps35
            go_wp2
            go_ret
            exact ⟨rfl, rfl⟩
        · have n8 : 8 < (e.size : Int) := by omega
          rw [decide_eq_false (fun h => h8 (hE.1 h).2.2.1)]
          clear hE
          go_enter Try.func35, Try.ntmps35
          go_wp2
          go_ret
          exact ⟨rfl, rfl⟩
      · have n2 : (e.size : Int) < 2 := by omega
        rw [decide_eq_false (fun h => h2 (hE.1 h).2.1)]
        clear hE
        go_enter Try.func35, Try.ntmps35
        go_wp2
        go_ret
        exact ⟨rfl, rfl⟩
end Go.Proofs.Ytikkohecanmefaa.sc
