/-
  Screens: what a byte may be, what was begun, when a screen is right: plain words. No condition.
-/
import Derived.Test.YtndjjhcdnlkekaaDoorLogS0
namespace Go.Proofs.YtndjjhcdnlkekaaDoor.sc
open Go.ChangeShapes Go.WideShapes Go.ChangeAt Go.RowKit
open Classical
set_option linter.unusedVariables false

/-- a byte that is printed; one that numbers go on with -/
def prn (b : Nat) : Prop := 32 ≤ b ∧ b ≤ 126
def par (b : Nat) : Prop := (48 ≤ b ∧ b ≤ 57) ∨ b = 59
def AllB (p : Nat → Prop) (s : ByteArray) : Prop := ∀ j, ∀ h : j < s.size, p (s[j]'h).toNat
theorem AllB.not {p : Nat → Prop} {s : ByteArray} {k : Nat} (h : k < s.size) (hp : ¬ p (s[k]'h).toNat) : ¬ AllB p s := fun ha => hp (ha k h)
abbrev esc1 : ByteArray := ⟨#[27]⟩
abbrev esc2 : ByteArray := ⟨#[27, 91]⟩
/-- what may have been begun -/
def EscR (e : ByteArray) : Prop := e = ⟨#[]⟩ ∨ e = esc1 ∨ (e.extract 0 2 = esc2 ∧ 2 ≤ e.size ∧ e.size ≤ 8 ∧ AllB par (e.extract 2 e.size))
def SizeR (wide high : Int) : Prop := (1 ≤ wide ∧ wide ≤ 20) ∧ (1 ≤ high ∧ high ≤ 6)
def wideOf (l : List ByteArray) : Nat := (l.getD 0 ⟨#[]⟩).size
/-- a screen that is right -/
def ScrR (l : List ByteArray) (row col : Int) (e : ByteArray) : Prop :=
  l ≠ [] ∧ SizeR (wideOf l) l.length ∧ (∀ j, j < l.length → (l.getD j ⟨#[]⟩).size = wideOf l ∧ AllB prn (l.getD j ⟨#[]⟩)) ∧
  (0 ≤ row ∧ row ≤ (l.length : Int) - 1) ∧ (0 ≤ col ∧ col ≤ (wideOf l : Int)) ∧ EscR e
theorem ret_b {a b : Bool} (h : a = b) : Ending.returned (.bool a) = .returned (.bool b) := by rw [h]
theorem d_true {p : Prop} (h : p) : true = decide p := (decide_eq_true h).symm
theorem d_false {p : Prop} (h : ¬ p) : false = decide p := (decide_eq_false h).symm
end Go.Proofs.YtndjjhcdnlkekaaDoor.sc
