/-
  What the card's list gives a walk of GramOpen: the two tables and the four errors in their variables; and a world that meets it.
-/
import Derived.Test.YtgchjinbnlclnaaGreatDoorErrLaid
import Derived.Test.YtgchjinbnlclnaaGreatDoorBoxLaid
import Derived.LaidSub
namespace Go.Proofs.YtgchjinbnlclnaaGreatDoor.eg
open Go.ChangeShapes Go.WideShapes Go.RowKit
set_option linter.unusedVariables false

theorem own : ownKnob Tryz.prog.godebug = none := by kernel_rfl
theorem laidOut : laidOutB Tryz.prog = true := by kernel_rfl
theorem rowed : varsRowed Tryz.prog ["loop.example/g00455/impl.errNotRight", "loop.example/g00455/impl.errNoGram", "loop.example/g00455/impl.roundWords", "loop.example/g00455/impl.mixPlaces", "loop.example/g00455/impl.errTooOld", "loop.example/g00455/impl.errTaken"] = true := by kernel_rfl
def laid : List (String × DataW Unit) := ("errors.errorType", Rows.laid_errors_errorType) :: ("loop.example/g00455/impl.roundWords", Rows.laid_loop_example_g00455_impl_roundWords) :: ("loop.example/g00455/impl.mixPlaces", Rows.laid_loop_example_g00455_impl_mixPlaces) :: el.four
def table (x : String × DataW Unit) : Bool := x.1 == "loop.example/g00455/impl.roundWords" || x.1 == "loop.example/g00455/impl.mixPlaces"
theorem partE : (laid.filter fun x => !table x) = el.laid := by kernel_rfl
theorem partT : (laid.filter table) = bl.laid := by kernel_rfl
def Met (w : World) : Prop := el.Met w ∧ bl.Both w
theorem met_of_laid {W : World} (h : laidMetH Tryz.prog laid W) : Met W := by
  have h1 := laidMetH.filter (fun x => !table x) h
  have h2 := laidMetH.filter table h
  rw [partE] at h1
  rw [partT] at h2
  exact ⟨el.met_of_laid h1, bl.both_of_laid h2⟩
/-- The door's own heap meets the condition: closed facts. -/
theorem door_met (os : Os) (args : Array Value) : laidMetH Tryz.prog laid ((World.doorLaid Tryz.prog 400 os).forCall (fun _ _ => 0) ⟨#[], args, []⟩).memory :=
  laidMetH_of_parts3 (fuel := 8) (laidMet_of_run' 8 (by kernel_rfl) (by kernel_rfl)) (by kernel_rfl) (by kernel_rfl)
end Go.Proofs.YtgchjinbnlclnaaGreatDoor.eg
