/-
  Globs: which beginnings of a text fit, byte by byte of the glob: plain words. No condition.
-/
import Derived.Test.YtndjjhcdnlkekaaDoorSc0
namespace Go.Proofs.YtndjjhcdnlkekaaDoor.gb
open Go.ChangeShapes Go.WideShapes Go.ChangeAt Go.RowKit
open Go.Proofs.YtndjjhcdnlkekaaDoor.sc (prn AllB)
open Classical
set_option linter.unusedVariables false

/-- byte i of a text -/
def bat (s : ByteArray) (i : Nat) : Nat := (s.data.toList.getD i 0).toNat
theorem bat_eq {s : ByteArray} {i : Nat} (h : i < s.size) : bat s i = (s[i]'h).toNat := by
  unfold bat
  rw [List.getD_eq_getElem?_getD, List.getElem?_eq_getElem (by simpa using h)]
  simp
  rfl
theorem bat_lt (s : ByteArray) (i : Nat) : bat s i < 256 := UInt8.toNat_lt _
/-- what fits behind one byte more of the glob -/
def stepB (c : Nat) (t : Nat → Nat) (F : Nat → Bool) : Nat → Bool
  | 0 => c == 42 && F 0
  | k + 1 => if c = 42 then F (k + 1) || stepB c t F k else (c == 63 || c == t k) && F k
def fits (g t : Nat → Nat) : Nat → Nat → Bool
  | 0 => fun k => k == 0
  | i + 1 => stepB (g i) t (fits g t i)
theorem stepB_star0 (t : Nat → Nat) (F : Nat → Bool) : stepB 42 t F 0 = F 0 := by simp [stepB]
theorem stepB_star (t : Nat → Nat) (F : Nat → Bool) (k : Nat) : stepB 42 t F (k + 1) = (F (k + 1) || stepB 42 t F k) := by simp [stepB]
theorem stepB_no0 {c : Nat} (h : c ≠ 42) (t : Nat → Nat) (F : Nat → Bool) : stepB c t F 0 = false := by simp [stepB, h]
theorem stepB_one {c : Nat} (h : c ≠ 42) {t : Nat → Nat} {k : Nat} (h2 : c = 63 ∨ c = t k) (F : Nat → Bool) : stepB c t F (k + 1) = F k := by
  rcases h2 with h2 | h2 <;> simp [stepB, h2] <;> intro hh <;> omega
theorem stepB_no {c : Nat} (h : c ≠ 42) {t : Nat → Nat} {k : Nat} (h2 : c ≠ 63) (h3 : c ≠ t k) (F : Nat → Bool) : stepB c t F (k + 1) = false := by simp [stepB, h, h2, h3]
theorem fits_congr (g g' t t' : Nat → Nat) : ∀ i k, (∀ j, j < i → g j = g' j) → (∀ j, j < k → t j = t' j) → fits g t i k = fits g' t' i k := by
  intro i
  induction i with
  | zero => intro k _ _; rfl
  | succ i ih =>
    intro k
    induction k with
    | zero => intro hg ht; simp only [fits, stepB]; rw [hg i (by omega), ih 0 (fun j h => hg j (by omega)) ht]
    | succ k ihk =>
      intro hg ht
      have h1 := ihk hg (fun j h => ht j (by omega))
      simp only [fits] at h1
      simp only [fits, stepB]
      rw [h1, hg i (by omega), ht k (by omega), ih (k + 1) (fun j h => hg j (by omega)) ht, ih k (fun j h => hg j (by omega)) (fun j h => ht j (by omega))]
theorem fits_app (h u gh tu : Nat → Nat) (n m : Nat) (h0 : fits gh tu n m = true) : ∀ i k, (∀ j, j < i → gh (n + j) = h j) → (∀ j, j < k → tu (m + j) = u j) → fits h u i k = true → fits gh tu (n + i) (m + k) = true := by
  intro i
  induction i with
  | zero =>
    intro k _ _ hf
    have : k = 0 := by simpa [fits] using hf
    subst this
    exact h0
  | succ i ih =>
    intro k
    induction k with
    | zero =>
      intro hg ht hf
      simp only [fits, stepB, Bool.and_eq_true, beq_iff_eq] at hf
      have hr := ih 0 (fun j hj => hg j (by omega)) (fun j hj => by omega) hf.2
      have hgi : gh (n + i) = 42 := by rw [hg i (by omega)]; exact hf.1
      show stepB (gh (n + i)) tu (fits gh tu (n + i)) (m + 0) = true
      rw [hgi]
      cases hm : m + 0 with
      | zero => rw [stepB_star0]; rw [← hm]; exact hr
      | succ q => rw [stepB_star, ← hm, hr]; rfl
    | succ k ihk =>
      intro hg ht hf
      have hgi : gh (n + i) = h i := hg i (by omega)
      show stepB (gh (n + i)) tu (fits gh tu (n + i)) (m + k + 1) = true
      rw [hgi]
      by_cases h42 : h i = 42
      · rw [h42, stepB_star]
        simp only [fits] at hf
        rw [h42, stepB_star, Bool.or_eq_true] at hf
        rcases hf with hf | hf
        · rw [show fits gh tu (n + i) (m + k + 1) = true from ih (k + 1) (fun j hj => hg j (by omega)) ht hf]; rfl
        · have := ihk hg (fun j hj => ht j (by omega)) (by show stepB (h i) u (fits h u i) k = true; rw [h42]; exact hf)
          have e : stepB (gh (n + i)) tu (fits gh tu (n + i)) (m + k) = true := this
          rw [hgi, h42] at e
          rw [e]; simp
      · simp only [fits] at hf
        have hk := ht k (by omega)
        by_cases h2 : h i = 63 ∨ h i = u k
        · rw [stepB_one h42 h2] at hf
          rw [stepB_one h42 (by rw [hk]; exact h2)]
          exact ih k (fun j hj => hg j (by omega)) (fun j hj => ht j (by omega)) hf
        · rw [stepB_no h42 (fun e => h2 (.inl e)) (fun e => h2 (.inr e))] at hf
          exact absurd hf (by simp)
theorem fits_plain (g t : Nat → Nat) : ∀ i k, (∀ j, j < i → g j ≠ 42 ∧ g j ≠ 63) → fits g t i k = true → i = k ∧ ∀ j, j < i → g j = t j := by
  intro i
  induction i with
  | zero => intro k _ hf; exact ⟨(show k = 0 by simpa [fits] using hf).symm, fun j h => by omega⟩
  | succ i ih =>
    intro k hp hf
    have h1 := hp i (by omega)
    cases k with
    | zero => simp only [fits] at hf; rw [stepB_no0 h1.1] at hf; exact absurd hf (by simp)
    | succ k =>
      simp only [fits] at hf
      by_cases h2 : g i = t k
      · rw [stepB_one h1.1 (.inr h2)] at hf
        obtain ⟨e, hj⟩ := ih k (fun j h => hp j (by omega)) hf
        subst e
        exact ⟨rfl, fun j hj' => by
          by_cases e : j = i
          · subst e; exact h2
          · exact hj j (by omega)⟩
      · rw [stepB_no h1.1 h1.2 h2] at hf; exact absurd hf (by simp)
theorem fits_star (t : Nat → Nat) (k : Nat) (g : Nat → Nat) (hg : g 0 = 42) : fits g t 1 k = true := by
  induction k with
  | zero => simp [fits, stepB, hg]
  | succ k ih => simp only [fits, hg] at ih ⊢; rw [stepB_star, ih]; simp
/-- a glob as of a rule -/
def GlobR (g : ByteArray) : Prop := (1 ≤ g.size ∧ g.size ≤ 30) ∧ AllB prn g ∧ bat g 0 ≠ 32 ∧ bat g (g.size - 1) ≠ 32
/-- does the text fit it? -/
def fitB (g t : ByteArray) : Bool := fits (bat g) (bat t) g.size t.size
/-- what GlobFits tells -/
def GFits (g t : ByteArray) : Prop := GlobR g ∧ t.size ≤ 60 ∧ fitB g t = true
end Go.Proofs.YtndjjhcdnlkekaaDoor.gb
