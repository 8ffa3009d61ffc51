/-
  DERIVED. GIVEN WITH THE SEED: THE CARDS: each row of YtkghbabnchofpaaDoorRows.lean that lists a variable, with what it lists TIED to the program's text (the seventh form; the later family's looks); each row that meets fmt, with fmt's text TOLD by the authors' own Lean function (tested against real Go, not proved from fmt's source: count such statements apart). THE CARD IS WHAT COUNTS. Prove the row's statement (the work); the ties are given (YtkghbabnchofpaaDoorTie.lean); close each card by the builder's one call (the guide's Derived/Test/ToyasCard.lean, 'card_holds'). Laid BY PROGRAM, IN A SANDBOX (cutbox-door.mjs). By AI agents, Wed Nov 11 2026. No macro, syntax, notation, axiom, sorry.
-/
import Derived.Test.YtkghbabnchofpaaDoorRows
import GoSem.ClaimSeven
namespace Go.Proofs.YtkghbabnchofpaaDoor
namespace Rows

/-- THE TIED CARD OF 'laws.FnGlob'. -/
def fnGlobCard : Claim7 := { stood := { row := fnGlobRow, standIns := [], harness := (true, "55d978d2cc3a3407479770084456837dc49936f7f163a1fe05f65b98bb3ea8d3"), looks := true }, kinds := [], alts := [], laidByText := true, laidKinds := [.data, .pinned], laidTests := true, laidLooks := .later }
def FnGlobCardSaid : Prop := Claim7.holds Tryd.pinned (.plain (OpenSpec.ofChange fnGlobSpec)) fnGlobCard

/-- THE TIED CARD OF 'laws.FnPolicy'. -/
def fnPolicyCard : Claim7 := { stood := { row := fnPolicyRow, standIns := [], harness := (true, "55d978d2cc3a3407479770084456837dc49936f7f163a1fe05f65b98bb3ea8d3"), looks := true }, kinds := [], alts := [], laidByText := true, laidKinds := [.data, .pinned], laidTests := true, laidLooks := .later }
def FnPolicyCardSaid : Prop := Claim7.holds Tryd.pinned (.plain (OpenSpec.ofChange fnPolicySpec)) fnPolicyCard

/-- THE SECOND FORM's CARD OF 'laws.FnGlob'. -/
def fnGlobUptoCard : Claim7 := { stood := { row := fnGlobUptoRow, standIns := [], harness := (true, "55d978d2cc3a3407479770084456837dc49936f7f163a1fe05f65b98bb3ea8d3"), looks := true }, kinds := [], alts := [], laidByText := true, laidKinds := [.data, .pinned], laidTests := true, laidLooks := .later }
def FnGlobUptoCardSaid : Prop := Claim7.holds Tryd.pinned (.plain (OpenSpec.upto fnGlobSpec)) fnGlobUptoCard

/-- THE SECOND FORM's CARD OF 'laws.FnPolicy'. -/
def fnPolicyUptoCard : Claim7 := { stood := { row := fnPolicyUptoRow, standIns := [], harness := (true, "55d978d2cc3a3407479770084456837dc49936f7f163a1fe05f65b98bb3ea8d3"), looks := true }, kinds := [], alts := [], laidByText := true, laidKinds := [.data, .pinned], laidTests := true, laidLooks := .later }
def FnPolicyUptoCardSaid : Prop := Claim7.holds Tryd.pinned (.plain (OpenSpec.upto fnPolicySpec)) fnPolicyUptoCard
end Rows
end Go.Proofs.YtkghbabnchofpaaDoor
