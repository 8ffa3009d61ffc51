/-
  Plain mathematics of how a text is read from its bytes: no condition.
-/
import Derived.Test.YtjnlffdopbfelabDoorNumPlain
namespace Go.Proofs.YtjnlffdopbfelabDoor.tp
open Go.ChangeShapes Go.WideShapes Go.ChangeAt Go.RowKit
open Go.Proofs.YtjnlffdopbfelabDoor.np
set_option linter.unusedVariables false

theorem go_facts (s : ByteArray) (a : Nat) : ∀ f k, (go s a k f).2.2 = 0 → 0 ≤ (go s a k f).2.1 ∧ (go s a k f).2.1 ≤ s.size
  | 0, k => by simp [go]
  | f + 1, k => by
    by_cases h1 : s.size ≤ a + k
    · rw [go_end h1]; simp
    · by_cases h2 : k = 9 ∧ 1 < byteAt s (a + k)
      · obtain ⟨rfl, h2⟩ := h2
        rw [go_bad9 h1 h2]; simp
      · by_cases h3 : byteAt s (a + k) < 128
        · by_cases h4 : byteAt s (a + k) = 0 ∧ 0 < k
          · rw [go_zero h1 h4.1 h4.2]; simp
          · rw [go_last h1 h2 h3 h4]; intro _; constructor <;> simp <;> omega
        · have ih := go_facts s a f (k + 1)
          unfold go
          rw [if_neg h1, if_neg h2, if_neg h3]
          exact ih
theorem getV_facts {s : ByteArray} {i : Int} (h : (getV s i).2.2 = 0) : 0 ≤ (getV s i).2.1 ∧ (getV s i).2.1 ≤ s.size := by
  by_cases h2 : i < 0
  · rw [getV_neg h2] at h; simp at h
  · have e : i = (i.toNat : Int) := by omega
    have e2 : getV s i = go s i.toNat 0 10 := by rw [e]; exact getV_pos
    rw [e2] at h ⊢
    exact go_facts s _ _ _ h

/-- what is read of a text -/
def textV (s : ByteArray) (i : Int) : ByteArray × Int × Int :=
  if (numV s i).2.2 ≠ 0 then ({ data := #[] }, 0, (numV s i).2.2)
  else if (numV s i).1 < 0 ∨ 8000 < (numV s i).1 then ({ data := #[] }, 0, 3)
  else if (s.size : Int) < (numV s i).2.1 + (numV s i).1 then ({ data := #[] }, 0, 4)
  else (s.extract (numV s i).2.1.toNat ((numV s i).2.1 + (numV s i).1).toNat, (numV s i).2.1 + (numV s i).1, 0)
def outT (r : ByteArray × Int × Int) : Value := .agg #[.string r.1, .int .i64 r.2.1, .int .i64 r.2.2]

theorem textV_code {s : ByteArray} {i n m c : Int} (h : numV s i = (n, m, c)) (hc : c ≠ 0) : textV s i = ({ data := #[] }, 0, c) := by
  unfold textV; rw [h, if_pos hc]
theorem textV_len {s : ByteArray} {i n m : Int} (h : numV s i = (n, m, 0)) (hn : n < 0 ∨ 8000 < n) : textV s i = ({ data := #[] }, 0, 3) := by
  unfold textV; rw [h, if_neg (by simp), if_pos hn]
theorem textV_end {s : ByteArray} {i n m : Int} (h : numV s i = (n, m, 0)) (hn : ¬ (n < 0 ∨ 8000 < n)) (he : (s.size : Int) < m + n) : textV s i = ({ data := #[] }, 0, 4) := by
  unfold textV; rw [h, if_neg (by simp), if_neg hn, if_pos he]
theorem textV_ok {s : ByteArray} {i n m : Int} (h : numV s i = (n, m, 0)) (hn : ¬ (n < 0 ∨ 8000 < n)) (he : ¬ (s.size : Int) < m + n) : textV s i = (s.extract m.toNat (m + n).toNat, m + n, 0) := by
  unfold textV; rw [h, if_neg (by simp), if_neg hn, if_neg he]

theorem getV_code (s : ByteArray) (i : Int) : 0 ≤ (getV s i).2.2 := by
  have key : ∀ a f k, 0 ≤ (go s a k f).2.2 := by
    intro a f
    induction f with
    | zero => intro k; simp [go]
    | succ f ih =>
      intro k
      unfold go
      split
      · simp
      · split
        · simp
        · split
          · split <;> simp
          · exact ih _
  unfold getV; split
  · simp
  · exact key _ _ _

end Go.Proofs.YtjnlffdopbfelabDoor.tp
