/-
  What the card's list of two package variables gives a walk: the rounds' numbers lie in impl.roundWords, the places in impl.mixPlaces; and a world that meets it.
-/
import Derived.Test.YtneahcoakbbdaaaDoorMixLaid
import Derived.Test.YtneahcoakbbdaaaDoorBoxI
namespace Go.Proofs.YtneahcoakbbdaaaDoor.bl
open Go.ChangeShapes Go.WideShapes Go.RowKit
set_option linter.unusedVariables false

theorem own : ownKnob Tryd.prog.godebug = none := by kernel_rfl
theorem laidOut : laidOutB Tryd.prog = true := by kernel_rfl
theorem gR : Tryd.prog.globalNamed "loop.example/g00455/impl.roundWords" = some 6 := by kernel_rfl
theorem tR : (Tryd.prog.globals[6]?).map (·.type) = some 181 := by kernel_rfl
theorem c85 : Tryd.prog.cellsOf 85 = 1 := by kernel_rfl
theorem c108 : Tryd.prog.cellsOf 181 = 64 := by kernel_rfl
theorem rowed : varsRowed Tryd.prog ["loop.example/g00455/impl.roundWords", "loop.example/g00455/impl.mixPlaces"] = true := by kernel_rfl
def laid : List (String × DataW Unit) := [("loop.example/g00455/impl.roundWords", Rows.laid_loop_example_g00455_impl_roundWords), ("loop.example/g00455/impl.mixPlaces", Rows.laid_loop_example_g00455_impl_mixPlaces)]
theorem datum : (Rows.laid_loop_example_g00455_impl_roundWords : DataW Unit) = Lib.tabData .u32 sh.keys := rfl
abbrev Both (w : World) : Prop := cc.Both w

/-- the second one's part of the list -/
theorem second {P : Program} {W : World} {n m : String} {d e : DataW Unit} (h : laidMet P [(n, d), (m, e)] W) : laidMet P [(m, e)] W := by
  obtain ⟨ps, ⟨g, t, cs, fuel, p, q, h1, h2, h3, h4, h5, h6⟩, hn, hall⟩ := h
  subst h6
  exact ⟨q, h5, (List.nodup_append.1 hn).2.1, fun b off hm => hall b off (List.mem_append_right _ hm)⟩
/-- what the list gives a walk: both tables -/
theorem both_of_laid {W : World} (h : laidMetH Tryd.prog laid W) : Both W := by
  rw [MakeChecks.laidMetH_plain _ _ _ (by kernel_rfl)] at h
  unfold laid at h
  refine ⟨?_, ml.mixes_of_head (second h)⟩
  rw [datum] at h
  have hT := Lib.tabIs_of_head gR tR Tryd.underlying181 Tryd.underlying85 c85 c108 h
  intro i hi
  exact hT.cell gR i (by rw [sh.keys_length]; exact hi)

/-- The door's own heap meets the condition: closed facts. -/
theorem door_met (os : Os) (args : Array Value) : laidMetH Tryd.prog laid ((World.doorLaid Tryd.prog 400 os).forCall (fun _ _ => 0) ⟨#[], args, []⟩).memory :=
  laidMetH_of_parts3 (fuel := 8) (laidMet_of_run' 8 (by kernel_rfl) (by kernel_rfl)) (by kernel_rfl) (by kernel_rfl)
end Go.Proofs.YtneahcoakbbdaaaDoor.bl
