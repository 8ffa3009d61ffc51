/-
  Small words for the walks of chapter 5: a world under a letter of which a property is known; limits of a number. No condition.
-/
import Derived.Test.YtndjjhcdnlkekaaDoorRows
import Derived.WalkKit
import Derived.ProofKit
import Derived.OpenShut
import Derived.ShutString
import Derived.WalkLawsBesides
import Derived.Laws.CopyOwn
import Derived.Laws.Rows
import Derived.Laws.Tables
import Derived.Below
namespace Go.Proofs.YtndjjhcdnlkekaaDoor.wi
open Go.ChangeShapes Go.WideShapes Go.ChangeAt Go.RowKit
open Classical
set_option linter.unusedVariables false

/-- a call in a world of which only a property is known -/
theorem calls_w {P : Program} {f : Nat} {args : Array Value} {w0 : World} {Q : Ending → World → Prop} (R : World → Prop) (h : R w0) (hK : ∀ u, R u → Calls P f args u Q) : Calls P f args w0 Q := hK w0 h
theorem wp_w {P : Program} {c : Code} {Q : Exit → Act → World → Prop} {a : Act} {w0 : World} (R : World → Prop) (h : R w0) (hK : ∀ u, R u → c.wp P Q a u) : c.wp P Q a w0 := hK w0 h
theorem heap_lt {w : World} {i : Nat} {o : Obj} (h : w.heap[i]? = some o) : i < w.heap.size := (Array.getElem?_eq_some_iff.1 h).1
def Is (n lo hi : Int) : Prop := lo ≤ n ∧ n ≤ hi
/-- what a gram may hold -/
def RightG (s e c : Int) (b : Nat) : Prop := (0 ≤ s ∧ s ≤ 1) ∧ (0 ≤ e ∧ e ≤ 200) ∧ (0 ≤ c ∧ c ≤ 2000) ∧ b ≤ 800
end Go.Proofs.YtndjjhcdnlkekaaDoor.wi
