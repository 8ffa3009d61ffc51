/-
  States: when one is right; how many bytes two texts begin with alike; when a sender is right: plain words. No condition.
-/
import Derived.Test.YtmbeanimjmfddaaLogS0
namespace Go.Proofs.Ytmbeanimjmfddaa.st
open Go.ChangeShapes Go.WideShapes Go.ChangeAt Go.RowKit
open Classical
set_option linter.unusedVariables false

theorem ret_b {a b : Bool} (h : a = b) : Ending.returned (.bool a) = .returned (.bool b) := by rw [h]
/-- a state that is right -/
def StR (n : Int) (t : ByteArray) : Prop := (0 ≤ n ∧ n ≤ 1000000) ∧ t.size ≤ 400
/-- how many the two begin with alike -/
def al : List UInt8 → List UInt8 → Nat
  | x :: xs, y :: ys => if x = y then al xs ys + 1 else 0
  | _, _ => 0
theorem al_at : ∀ (xs ys : List UInt8) (k : Nat), k < xs.length → k < ys.length → (∀ j, j < k → xs[j]? = ys[j]?) → xs[k]? ≠ ys[k]? → al xs ys = k
  | x :: xs, y :: ys, 0, _, _, _, h => by
    have h' : x ≠ y := by simpa using h
    simp [al, h']
  | x :: xs, y :: ys, k + 1, h1, h2, h3, h => by
    have h0 := h3 0 (by omega)
    have e : x = y := by simpa using h0
    subst e
    have := al_at xs ys k (by simpa using h1) (by simpa using h2) (fun j hj => by simpa using h3 (j + 1) (by omega)) (by simpa using h)
    simp [al, this]
theorem al_end : ∀ (xs ys : List UInt8) (k : Nat), k ≤ xs.length → k ≤ ys.length → (∀ j, j < k → xs[j]? = ys[j]?) → (k = xs.length ∨ k = ys.length) → al xs ys = k
  | [], ys, k, h1, h2, _, _ => by have : k = 0 := by simpa using h1
                                  subst this; simp [al]
  | x :: xs, [], k, h1, h2, _, _ => by have : k = 0 := by simpa using h2
                                       subst this; simp [al]
  | x :: xs, y :: ys, 0, _, _, _, h => by simp at h
  | x :: xs, y :: ys, k + 1, h1, h2, h3, h => by
    have h0 := h3 0 (by omega)
    have e : x = y := by simpa using h0
    subst e
    have := al_end xs ys k (by simpa using h1) (by simpa using h2) (fun j hj => by simpa using h3 (j + 1) (by omega)) (by simpa using h)
    simp [al, this]
/-- how many bytes two texts begin with alike -/
def alike (a b : ByteArray) : Nat := al a.data.toList b.data.toList
/-- so far they are alike -/
def SoFar (a b : ByteArray) (k : Nat) : Prop := ∀ j, ∀ ha : j < a.size, ∀ hb : j < b.size, j < k → (a[j]'ha).toNat = (b[j]'hb).toNat
theorem SoFar.zero (a b : ByteArray) : SoFar a b 0 := fun j ha hb hj => by omega
theorem SoFar.succ {a b : ByteArray} {k : Nat} (h : SoFar a b k) (ha : k < a.size) (hb : k < b.size) (e : (a[k]'ha).toNat = (b[k]'hb).toNat) : SoFar a b (k + 1) := fun j h1 h2 hj => by
  by_cases ej : j = k
  · subst ej; exact e
  · exact h j h1 h2 (by omega)
theorem SoFar.list {a b : ByteArray} {k : Nat} (h : SoFar a b k) (ha : k ≤ a.size) (hb : k ≤ b.size) : ∀ j, j < k → a.data.toList[j]? = b.data.toList[j]? := fun j hj => by
  have h1 : j < a.data.toList.length := by simpa using (by omega : j < a.size)
  have h2 : j < b.data.toList.length := by simpa using (by omega : j < b.size)
  rw [List.getElem?_eq_getElem h1, List.getElem?_eq_getElem h2]
  congr 1
  exact UInt8.toNat_inj.1 (h j (by omega) (by omega) hj)
theorem alike_at {a b : ByteArray} {k : Nat} (h : SoFar a b k) (ha : k < a.size) (hb : k < b.size) (e : ¬ (a[k]'ha).toNat = (b[k]'hb).toNat) : alike a b = k := by
  have h1 : k < a.data.toList.length := by simpa using ha
  have h2 : k < b.data.toList.length := by simpa using hb
  refine al_at _ _ k h1 h2 (h.list (by omega) (by omega)) ?_
  rw [List.getElem?_eq_getElem h1, List.getElem?_eq_getElem h2]
  intro e'
  exact e (congrArg UInt8.toNat (Option.some.inj e'))
theorem alike_end {a b : ByteArray} {k : Nat} (h : SoFar a b k) (ha : k ≤ a.size) (hb : k ≤ b.size) (e : k = a.size ∨ k = b.size) : alike a b = k := by
  refine al_end _ _ k (by simpa using ha) (by simpa using hb) (h.list ha hb) ?_
  rcases e with e | e
  · exact .inl (by simpa using e)
  · exact .inr (by simpa using e)
theorem al_le : ∀ (xs ys : List UInt8), al xs ys ≤ xs.length ∧ al xs ys ≤ ys.length
  | [], ys => by simp [al]
  | x :: xs, [] => by simp [al]
  | x :: xs, y :: ys => by
    have := al_le xs ys
    unfold al
    split
    · simp; omega
    · simp
theorem alike_le (a b : ByteArray) : alike a b ≤ a.size ∧ alike a b ≤ b.size := by
  have h1 : a.data.toList.length = a.size := by simp
  have h2 : b.data.toList.length = b.size := by simp
  have := al_le a.data.toList b.data.toList
  rw [h1, h2] at this
  exact this
theorem al_take : ∀ (xs ys : List UInt8), xs.take (al xs ys) = ys.take (al xs ys)
  | [], ys => by simp [al]
  | x :: xs, [] => by simp [al]
  | x :: xs, y :: ys => by
    unfold al
    split
    · rename_i h; subst h; simp [al_take xs ys]
    · simp
end Go.Proofs.Ytmbeanimjmfddaa.st
