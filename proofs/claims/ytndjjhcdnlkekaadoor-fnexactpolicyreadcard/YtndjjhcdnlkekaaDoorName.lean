/-
  The two functions that tell whether a text is a name answer the same for every text: no condition.
-/
import Derived.Test.YtndjjhcdnlkekaaDoorRows
import Derived.WalkKit
import Derived.ProofKit
import Derived.OpenShut
import Derived.ShutString
namespace Go.Proofs.YtndjjhcdnlkekaaDoor.nm
open Go.ChangeShapes Go.WideShapes Go.ChangeAt Go.RowKit
set_option linter.unusedVariables false

/-- a byte that may stand at that place of a name -/
def good (j : Nat) (c : Int) : Prop := (97 ≤ c ∧ c ≤ 122) ∨ (j ≠ 0 ∧ ((48 ≤ c ∧ c ≤ 57) ∨ c = 95))
def goodD (j : Nat) (c : Int) : Decidable (good j c) := by unfold good; infer_instance
def nameP (s : ByteArray) : Prop := 1 ≤ s.size ∧ s.size ≤ 20 ∧ ∀ j (h : j < s.size), good j (s[j].toNat : Int)
def nameD (s : ByteArray) : Decidable (nameP s) := by
  unfold nameP
  haveI : ∀ (j : Nat) (c : Int), Decidable (good j c) := goodD
  infer_instance
def nameB (s : ByteArray) : Bool := @decide (nameP s) (nameD s)

theorem nameB_short (s : ByteArray) (h : s.size < 1) : nameB s = false := by
  simp only [nameB, decide_eq_false_iff_not]; intro h'; have := h'.1; omega
theorem nameB_long (s : ByteArray) (h : 20 < s.size) : nameB s = false := by
  simp only [nameB, decide_eq_false_iff_not]; intro h'; have := h'.2.1; omega
theorem nameB_bad (s : ByteArray) (k : Nat) (hk : k < s.size) (h : ¬ good k (s[k].toNat : Int)) : nameB s = false := by
  simp only [nameB, decide_eq_false_iff_not]; intro h'; exact h (h'.2.2 k hk)
theorem nameB_all (s : ByteArray) (k : Nat) (h1 : 1 ≤ s.size) (h2 : s.size ≤ 20) (hk : s.size ≤ k) (h : ∀ j, j < k → ∀ hj : j < s.size, good j (s[j].toNat : Int)) : nameB s = true := by
  simp only [nameB, decide_eq_true_eq]; exact ⟨h1, h2, fun j hj => h j (by omega) hj⟩

theorem ret_bool {a b : Bool} (h : a = b) : Ending.returned (.bool a) = .returned (.bool b) := by rw [h]

set_option maxHeartbeats 1000000 in
theorem spec_any (s : ByteArray) (w : World) (hs : s.size ≤ maxLen) :
    Calls Tryd.prog 31 #[.string s] w fun e w' => e = .returned (.bool (nameB s)) ∧ w' = w := by
  unfold maxLen at hs
  by_cases h1 : s.size < 1
  · have hr := nameB_short s h1
    rw [hr]
    go_enter Tryd.func31, Tryd.ntmps31
    go_wp2
    go_ret
    exact ⟨rfl, rfl⟩
  by_cases h2 : 20 < s.size
  · have hr := nameB_long s h2
    rw [hr]
    go_enter Tryd.func31, Tryd.ntmps31
    go_wp2
    go_ret
    exact ⟨rfl, rfl⟩
  go_enter Tryd.func31, Tryd.ntmps31
  go_wp2
  go_loop [3, 4] (fun i c => ∃ k : Nat, k ≤ s.size ∧ i = .int .i64 k ∧ ∀ j, j < k → ∀ hj : j < s.size, good j (s[j].toNat : Int)) (fun i _ => s.size - (intOf i).toNat)
  case atStart => exact ⟨0, Nat.zero_le _, rfl, fun j hj => by omega⟩
  case round =>
    obtain ⟨k, hk, rfl, hall⟩ := hrel
    by_cases hlt : k < s.size
    · by_cases hg : good k (s[k].toNat : Int)
      · have hnext : ∀ j, j < k + 1 → ∀ hj : j < s.size, good j (s[j].toNat : Int) := fun j hj hj' => by
          by_cases e : j = k
          · subst e; exact hg
          · exact hall j (by omega) hj'
        have hb := s[k].toNat_lt
        have HG : Hid (good k (s[k].toNat : Int)) := hg
        have HN : Hid (∀ j, j < k + 1 → ∀ hj : j < s.size, good j (s[j].toNat : Int)) := hnext
        clear hg hnext hall
        by_cases k0 : k = 0
        · have hl : 97 ≤ (s[k].toNat : Int) ∧ (s[k].toNat : Int) ≤ 122 := by have := HG.out; unfold good at this; omega
          subst k0
          go_wp2
          go_round
          case rel => exact ⟨0 + 1, by omega, by go_num, HN.out⟩
          case measure => simp [intOf]; omega
        · rcases (show (97 ≤ (s[k].toNat : Int) ∧ (s[k].toNat : Int) ≤ 122) ∨ (48 ≤ (s[k].toNat : Int) ∧ (s[k].toNat : Int) ≤ 57) ∨ (s[k].toNat : Int) = 95 by have := HG.out; unfold good at this; omega) with hl | hl | hl
          all_goals
            go_wp2
            go_round
            case rel => exact ⟨k + 1, by omega, by go_num, HN.out⟩
            case measure => simp [intOf]; omega
      · have HR : Hid (nameB s = false) := nameB_bad s k hlt hg
        have HG : Hid (¬ good k (s[k].toNat : Int)) := hg
        clear hg hall
        by_cases k0 : k = 0
        · subst k0
          rcases (show (s[0].toNat : Int) < 97 ∨ 122 < (s[0].toNat : Int) by have := HG.out; unfold good at this; omega) with hl | hl
          all_goals
            go_wp2
            all_goals first | (exfalso; rename_i hx; simp at hx <;> omega) | (go_ret; exact ⟨ret_bool HR.out.symm, rfl⟩)
        · rcases (show (s[k].toNat : Int) < 48 ∨ (57 < (s[k].toNat : Int) ∧ (s[k].toNat : Int) < 95) ∨ (95 < (s[k].toNat : Int) ∧ (s[k].toNat : Int) < 97) ∨ 122 < (s[k].toNat : Int) by have := HG.out; unfold good at this; omega) with hl | hl | hl | hl
          all_goals
            go_wp2
            all_goals first | (exfalso; rename_i hx; simp at hx <;> omega) | (go_ret; exact ⟨ret_bool HR.out.symm, rfl⟩)
    · go_wp2
      go_ret
      exact ⟨ret_bool (nameB_all s k (by omega) (by omega) (by omega) hall).symm, rfl⟩

set_option maxHeartbeats 1000000 in
theorem impl_any (s : ByteArray) (w : World) (hs : s.size ≤ maxLen) :
    Calls Tryd.prog 34 #[.string s] w fun e w' => e = .returned (.bool (nameB s)) ∧ w' = w := by
  unfold maxLen at hs
  by_cases h1 : s.size < 1
  · have hr := nameB_short s h1
    rw [hr]
    go_enter Tryd.func34, Tryd.ntmps34
    go_wp2
    go_ret
    exact ⟨rfl, rfl⟩
  by_cases h2 : 20 < s.size
  · have hr := nameB_long s h2
    rw [hr]
    go_enter Tryd.func34, Tryd.ntmps34
    go_wp2
    go_ret
    exact ⟨rfl, rfl⟩
  by_cases hg : good 0 (s[0].toNat : Int)
  case neg =>
    have hr := nameB_bad s 0 (by omega) hg
    rw [hr]
    rcases (show (s[0].toNat : Int) < 97 ∨ 122 < (s[0].toNat : Int) by unfold good at hg; omega) with hl | hl
    all_goals
      clear hg hr
      go_enter Tryd.func34, Tryd.ntmps34
      go_wp2
      all_goals first | (go_ret; exact ⟨rfl, rfl⟩) | (exfalso; have hx := (‹(_ ∧ _) ∧ (!decide ((s[0].toNat : Int) ≤ 122)) = false›).2; simp at hx; omega)
  have hl : 97 ≤ (s[0].toNat : Int) ∧ (s[0].toNat : Int) ≤ 122 := by unfold good at hg; omega
  have HA : Hid (∀ j, j < 1 → ∀ hj : j < s.size, good j (s[j].toNat : Int)) := fun j hj hj' => by
    obtain rfl : j = 0 := by omega
    exact hg
  clear hg
  go_enter Tryd.func34, Tryd.ntmps34
  go_wp2
  go_loop [3] (fun i => ∃ k : Nat, 1 ≤ k ∧ k ≤ s.size ∧ i = .int .i64 k ∧ ∀ j, j < k → ∀ hj : j < s.size, good j (s[j].toNat : Int)) (fun i => s.size - (intOf i).toNat)
  case atStart => exact ⟨1, by omega, by omega, rfl, HA.out⟩
  case round =>
    obtain ⟨k, hk1, hk, rfl, hall⟩ := hrel
    by_cases hlt : k < s.size
    · by_cases hg : good k (s[k].toNat : Int)
      · have hnext : ∀ j, j < k + 1 → ∀ hj : j < s.size, good j (s[j].toNat : Int) := fun j hj hj' => by
          by_cases e : j = k
          · subst e; exact hg
          · exact hall j (by omega) hj'
        have HG : Hid (good k (s[k].toNat : Int)) := hg
        have HN : Hid (∀ j, j < k + 1 → ∀ hj : j < s.size, good j (s[j].toNat : Int)) := hnext
        clear hg hnext hall
        rcases (show (97 ≤ (s[k].toNat : Int) ∧ (s[k].toNat : Int) ≤ 122) ∨ (48 ≤ (s[k].toNat : Int) ∧ (s[k].toNat : Int) ≤ 57) ∨ (s[k].toNat : Int) = 95 by have := HG.out; unfold good at this; omega) with hl | hl | hl
        all_goals
          go_wp2
          go_round
          case rel => exact ⟨k + 1, by omega, by omega, by go_num, HN.out⟩
          case measure => simp [intOf]; omega
      · have HR : Hid (nameB s = false) := nameB_bad s k hlt hg
        have HG : Hid (¬ good k (s[k].toNat : Int)) := hg
        clear hg hall
        rcases (show (s[k].toNat : Int) < 48 ∨ (57 < (s[k].toNat : Int) ∧ (s[k].toNat : Int) < 95) ∨ (95 < (s[k].toNat : Int) ∧ (s[k].toNat : Int) < 97) ∨ 122 < (s[k].toNat : Int) by have := HG.out; unfold good at this; omega) with hl | hl | hl | hl
        all_goals
          go_wp2
          all_goals first | (exfalso; rename_i hx; simp at hx <;> omega) | (go_ret; exact ⟨ret_bool HR.out.symm, rfl⟩)
    · go_wp2
      go_ret
      exact ⟨ret_bool (nameB_all s k (by omega) (by omega) (by omega) hall).symm, rfl⟩
end Go.Proofs.YtndjjhcdnlkekaaDoor.nm
