/-
  A sender that is right: plain words. No condition.
-/
import Derived.Test.YtjjfdkmhoocfhaaStS
namespace Go.Proofs.Ytjjfdkmhoocfhaa.st
open Go.ChangeShapes Go.WideShapes Go.ChangeAt Go.RowKit
open Classical
set_option linter.unusedVariables false

/-- a sender that is right: its states -/
def SndR (l : List Ln) : Prop := (1 ≤ l.length ∧ l.length ≤ 8) ∧ (∀ j, j < l.length → StR (l.getD j ln0).1 (l.getD j ln0).2) ∧ ∀ j, j + 1 < l.length → (l.getD j ln0).1 < (l.getD (j + 1) ln0).1
/-- the first k are right -/
def RightTo (l : List Ln) (k : Nat) : Prop := (∀ j, j < k → StR (l.getD j ln0).1 (l.getD j ln0).2) ∧ ∀ j, j + 1 < k → (l.getD j ln0).1 < (l.getD (j + 1) ln0).1
/-- what the next one's number is at least -/
def leastAt (l : List Ln) (k : Nat) : Int := if k = 0 then 0 else (l.getD (k - 1) ln0).1 + 1
theorem leastAt_succ (l : List Ln) (k : Nat) : leastAt l (k + 1) = (l.getD k ln0).1 + 1 := by simp [leastAt]
theorem RightTo.zero (l : List Ln) : RightTo l 0 := ⟨fun j h => by omega, fun j h => by omega⟩
theorem RightTo.succ {l : List Ln} {k : Nat} (h : RightTo l k) (h1 : StR (l.getD k ln0).1 (l.getD k ln0).2) (h2 : leastAt l k ≤ (l.getD k ln0).1) : RightTo l (k + 1) := by
  refine ⟨fun j hj => ?_, fun j hj => ?_⟩
  · by_cases e : j = k
    · subst e; exact h1
    · exact h.1 j (by omega)
  · by_cases e : j + 1 = k
    · subst e
      rw [leastAt_succ] at h2
      omega
    · exact h.2 j (by omega)
theorem SndR.to {l : List Ln} (h : SndR l) : RightTo l l.length := ⟨h.2.1, h.2.2⟩
theorem SndR.not {l : List Ln} {k : Nat} (hk : k < l.length) (hn : ¬ (StR (l.getD k ln0).1 (l.getD k ln0).2 ∧ leastAt l k ≤ (l.getD k ln0).1)) : ¬ SndR l := fun h => hn (by
  refine ⟨h.2.1 k hk, ?_⟩
  unfold leastAt
  by_cases e : k = 0
  · rw [if_pos e]; exact (h.2.1 k hk).1.1
  · rw [if_neg e]
    have := h.2.2 (k - 1) (by omega)
    rw [show k - 1 + 1 = k by omega] at this
    omega)
theorem RightTo.done {l : List Ln} (h : RightTo l l.length) (h1 : 1 ≤ l.length ∧ l.length ≤ 8) : SndR l := ⟨h1, h.1, h.2⟩
theorem leastAt_lt {l : List Ln} {k : Nat} (h : RightTo l k) : 0 ≤ leastAt l k ∧ leastAt l k ≤ 1000001 := by
  unfold leastAt
  by_cases e : k = 0
  · rw [if_pos e]; omega
  · rw [if_neg e]
    have := (h.1 (k - 1) (by omega)).1
    omega
end Go.Proofs.Ytjjfdkmhoocfhaa.st
