/-
  What the card's list of one package variable gives a walk: the rounds' numbers lie in impl.roundWords; and a world that meets it.
-/
import Derived.Test.YtcfekhahibklfaaDoorShaMix
import Derived.Test.YtcfekhahibklfaaDoorCards
import Derived.Test.YtcfekhahibklfaaDoorTie
import Derived.ChangeSame
import Derived.ChangeVars
import Derived.OpenVars
import Derived.JoinedOf
import Derived.RowKit
import Derived.LaidLaws
import Derived.LaidHandle
import Derived.LaidMore
import Derived.MakeChecks
import Derived.Lib.LaidTab
import Derived.Stop.Joined
import Derived.SevenTiedAt
import Derived.ChangeOld
import Derived.Below
import Derived.Carry
namespace Go.Proofs.YtcfekhahibklfaaDoor.sl
open Go.ChangeShapes Go.WideShapes Go.RowKit
set_option linter.unusedVariables false

theorem own : ownKnob Tryd.prog.godebug = none := by kernel_rfl
theorem laidOut : laidOutB Tryd.prog = true := by kernel_rfl
theorem gN : Tryd.prog.globalNamed "loop.example/g00455/impl.roundWords" = some 0 := by kernel_rfl
theorem tN : (Tryd.prog.globals[0]?).map (·.type) = some 123 := by kernel_rfl
theorem c85 : Tryd.prog.cellsOf 113 = 1 := by kernel_rfl
theorem c108 : Tryd.prog.cellsOf 123 = 64 := by kernel_rfl
theorem rowed : varsRowed Tryd.prog ["loop.example/g00455/impl.roundWords"] = true := by kernel_rfl
def laid : List (String × DataW Unit) := [("loop.example/g00455/impl.roundWords", Rows.laid_loop_example_g00455_impl_roundWords)]
theorem datum : (Rows.laid_loop_example_g00455_impl_roundWords : DataW Unit) = Lib.tabData .u32 sh.keys := rfl

/-- what the list gives a walk: the table's cells -/
theorem tab_of_laid {W : World} (h : laidMetH Tryd.prog laid W) : sh.Tab W := by
  rw [MakeChecks.laidMetH_plain _ _ _ (by kernel_rfl)] at h
  unfold laid at h
  rw [datum] at h
  have hT := Lib.tabIs_of_head gN tN Tryd.underlying123 Tryd.underlying113 c85 c108 h
  intro i hi
  exact hT.cell gN i (by rw [sh.keys_length]; exact hi)

/-- The door's own heap meets the condition: closed facts. -/
theorem door_met (os : Os) (args : Array Value) : laidMetH Tryd.prog laid ((World.doorLaid Tryd.prog 400 os).forCall (fun _ _ => 0) ⟨#[], args, []⟩).memory :=
  laidMetH_of_parts3 (fuel := 8) (laidMet_of_run' 8 (by kernel_rfl) (by kernel_rfl)) (by kernel_rfl) (by kernel_rfl)
end Go.Proofs.YtcfekhahibklfaaDoor.sl
