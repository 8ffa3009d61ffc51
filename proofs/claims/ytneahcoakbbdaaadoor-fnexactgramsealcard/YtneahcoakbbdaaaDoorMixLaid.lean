/-
  What the card's list gives a walk: the places lie in impl.mixPlaces; and a world that meets it.
-/
import Derived.Test.YtneahcoakbbdaaaDoorChaIC
import Derived.Test.YtneahcoakbbdaaaDoorCards
import Derived.Test.YtneahcoakbbdaaaDoorTie
import Derived.ChangeSame
import Derived.ChangeVars
import Derived.OpenVars
import Derived.JoinedOf
import Derived.RowKit
import Derived.LaidLaws
import Derived.LaidHandle
import Derived.LaidMore
import Derived.MakeChecks
import Derived.Lib.LaidTab
import Derived.Stop.Joined
import Derived.SevenTiedAt
import Derived.ChangeOld
import Derived.Below
import Derived.Carry
namespace Go.Proofs.YtneahcoakbbdaaaDoor.ml
open Go.ChangeShapes Go.WideShapes Go.RowKit
set_option linter.unusedVariables false

theorem own : ownKnob Tryd.prog.godebug = none := by kernel_rfl
theorem laidOut : laidOutB Tryd.prog = true := by kernel_rfl
theorem gN : Tryd.prog.globalNamed "loop.example/g00455/impl.mixPlaces" = some 4 := by kernel_rfl
theorem tN : (Tryd.prog.globals[4]?).map (·.type) = some 128 := by kernel_rfl
theorem ci : Tryd.prog.cellsOf 3 = 1 := by kernel_rfl
theorem c4 : Tryd.prog.cellsOf 127 = 4 := by kernel_rfl
theorem c32 : Tryd.prog.cellsOf 128 = 32 := by kernel_rfl
theorem rowed : varsRowed Tryd.prog ["loop.example/g00455/impl.mixPlaces"] = true := by kernel_rfl
def laid : List (String × DataW Unit) := [("loop.example/g00455/impl.mixPlaces", Rows.laid_loop_example_g00455_impl_mixPlaces)]
/-- the table, row by row -/
def rows : List (List Int) := [[0, 4, 8, 12], [1, 5, 9, 13], [2, 6, 10, 14], [3, 7, 11, 15], [0, 5, 10, 15], [1, 6, 11, 12], [2, 7, 8, 13], [3, 4, 9, 14]]
theorem datum : (Rows.laid_loop_example_g00455_impl_mixPlaces : DataW Unit) = .agg (rows.map (Lib.tabData .i64)) := rfl
theorem rows_pl : ∀ i, i < 32 → (rows.getD (i / 4) [])[i % 4]? = cc.pl[i]? := by decide
theorem rows_len : ∀ i, i < 8 → ∃ r, rows[i]? = some r ∧ rows.getD i [] = r := fun i hi => ⟨rows[i]'(by simpa [rows] using hi), List.getElem?_eq_getElem _, by rw [List.getD_eq_getElem?_getD, List.getElem?_eq_getElem]; rfl⟩
/-- a table of rows, cell for cell -/
theorem cells_of_nest {enc : TypeId × Value → Unit} {w : World} {base : Nat} {sp : Nat → Bool} {held : Bool} {fuel : Nat} {cs : List Value} {p : List MemPlace}
    (h : DataW.trod enc Tryd.prog w base sp held fuel 128 cs = some (.agg (rows.map (Lib.tabData .i64)), p)) : cs = cc.pl.map (Value.int .i64) := by
  cases fuel with
  | zero => simp [DataW.trod] at h
  | succ fuel =>
    simp only [DataW.trod, Tryd.underlying128, c4, c32] at h
    split at h
    · rename_i hl
      obtain ⟨xs, hm, hx⟩ := Option.map_eq_some_iff.1 h
      have hxs : xs.map (·.1) = rows.map (Lib.tabData .i64) := by
        have := congrArg Prod.fst hx
        simpa using this
      have hrow : ∀ i, i < 8 → (cs.drop (i * 4)).take 4 = (rows.getD i []).map (Value.int .i64) := fun i hi => by
        obtain ⟨b, hb, hf⟩ := Lib.mapM_at hm i i (by simp [hi])
        obtain ⟨r, hr1, hr2⟩ := rows_len i hi
        have h2 : (xs.map (·.1))[i]? = some b.1 := by simp [hb]
        rw [hxs, List.getElem?_map, hr1] at h2
        have e : b = (Lib.tabData .i64 r, b.2) := by
          have := Option.some.inj h2
          rw [this]
        rw [e] at hf
        rw [hr2]
        exact Lib.cells_of_tab Tryd.underlying127 Tryd.underlying3 ci c4 hf
      apply List.ext_getElem?
      intro i
      by_cases hi : i < 32
      · have h1 := congrArg (fun l => l[i % 4]?) (hrow (i / 4) (by omega))
        simp only [List.getElem?_take_of_lt (show i % 4 < 4 by omega), List.getElem?_drop, List.getElem?_map] at h1
        rw [show i / 4 * 4 + i % 4 = i by omega] at h1
        rw [h1, List.getElem?_map, rows_pl i hi]
      · have hl' : cs.length = 32 := by simpa using hl
        rw [List.getElem?_eq_none (by omega), List.getElem?_eq_none (by simp [cc.pl]; omega)]
    · cases h

/-- what the list gives a walk: the table -/
theorem mixes_of_head {W : World} {rest : List (String × DataW Unit)} (h : laidMet Tryd.prog (("loop.example/g00455/impl.mixPlaces", Rows.laid_loop_example_g00455_impl_mixPlaces) :: rest) W) : cc.Mixes W := by
  rw [datum] at h
  obtain ⟨ps, ⟨g', t', cs, fuel, p, q, hg', ht', hvar, hd, _, _⟩, _⟩ := h
  obtain rfl := Option.some.inj (gN.symm.trans hg')
  obtain rfl := Option.some.inj (tN.symm.trans ht')
  have e := cells_of_nest hd
  unfold World.var? at hvar
  rw [gN] at hvar
  simp only [Option.bind_some] at hvar
  split at hvar
  · rename_i c t fr hh
    have hc : c = cs := Option.some.inj hvar
    have hp : cs = cc.plA := Array.ext' (by rw [e]; rfl)
    exact ⟨t, fr, by rw [hh, hc, hp]⟩
  · cases hvar
theorem mixes_of_laid {W : World} (h : laidMetH Tryd.prog laid W) : cc.Mixes W := by
  rw [MakeChecks.laidMetH_plain _ _ _ (by kernel_rfl)] at h
  exact mixes_of_head h

/-- The door's own heap meets the condition: closed facts. -/
theorem door_met (os : Os) (args : Array Value) : laidMetH Tryd.prog laid ((World.doorLaid Tryd.prog 400 os).forCall (fun _ _ => 0) ⟨#[], args, []⟩).memory :=
  laidMetH_of_parts3 (fuel := 8) (laidMet_of_run' 8 (by kernel_rfl) (by kernel_rfl)) (by kernel_rfl) (by kernel_rfl)
end Go.Proofs.YtneahcoakbbdaaaDoor.ml
