/-
  The answer of OpenBox, and two texts held against each other.
-/
import Derived.Test.YtkfiigmfhfhkgaaDoorBoxPlain
import Derived.WalkSpells
import Derived.Laws.Tables
import Derived.Laws.CopyOwn
import Derived.Laws.IdiomStrings
namespace Go.Proofs.YtkfiigmfhfhkgaaDoor.cc
open Go.ChangeShapes Go.WideShapes Go.ChangeAt Go.RowKit
set_option linter.unusedVariables false

theorem infoO : (Tryd.prog.info? 31).map (·.size) = some 3 := by kernel_rfl
/-- the answer of OpenBox -/
def OutO (key : ByteArray) (n : Int) (b : ByteArray) : Value := .agg #[.string (openA key n b).1, .int .i64 0, .int .i64 (openA key n b).2]
theorem outO_of {key : ByteArray} {n : Int} {b : ByteArray} {t : ByteArray} {c : Int} (h : openA key n b = (t, c)) : Ending.returned (.agg #[.string t, .int .i64 0, .int .i64 c]) = Ending.returned (OutO key n b) := by unfold OutO; rw [h]

theorem beqT {a b : ByteArray} (h : a = b) : (a.toList == b.toList) = true := by subst h; simp
theorem toList_dataQ (s : ByteArray) : s.toList = s.data.toList := ByteArray.toList_eq s
theorem bytes_injQ {a b : ByteArray} (h : a.data.toList = b.data.toList) : a = b := by
  cases a; cases b; simp only [ByteArray.mk.injEq]; exact Array.ext' h
theorem beqF {s t : ByteArray} (h : ¬ s = t) : (s.toList == t.toList) = false := by
  simp only [beq_eq_false_iff_ne, ne_eq, toList_dataQ]
  intro e; exact h (bytes_injQ e)
end Go.Proofs.YtkfiigmfhfhkgaaDoor.cc
