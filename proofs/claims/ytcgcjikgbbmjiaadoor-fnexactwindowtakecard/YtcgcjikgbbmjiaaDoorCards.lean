/-
  DERIVED. GIVEN WITH THE SEED: THE CARDS: each row of YtcgcjikgbbmjiaaDoorRows.lean that lists a variable, with what it lists TIED to the program's text (the seventh form; the later family's looks); each row that meets fmt, with fmt's text TOLD by the authors' own Lean function (tested against real Go, not proved from fmt's source: count such statements apart). THE CARD IS WHAT COUNTS. Prove the row's statement (the work); the ties are given (YtcgcjikgbbmjiaaDoorTie.lean); close each card by the builder's one call (the guide's Derived/Test/ToyasCard.lean, 'card_holds'). Laid BY PROGRAM, IN A SANDBOX (cutbox-door.mjs). By AI agents, Wed Nov 11 2026. No macro, syntax, notation, axiom, sorry.
-/
import Derived.Test.YtcgcjikgbbmjiaaDoorRows
import GoSem.ClaimSeven
namespace Go.Proofs.YtcgcjikgbbmjiaaDoor
namespace Rows

/-- THE TIED CARD OF 'laws.FnExactGramOpen'. -/
def fnExactGramOpenCard : Claim7 := { stood := { row := fnExactGramOpenRow, standIns := [], harness := (true, "a2e4612a102b4ce3cc0ca2d20c5a7827c84767bc836ec66ab4fbe90b25dad3a2"), looks := true }, kinds := [], alts := [], laidByText := true, laidKinds := [.handle, .data, .data, .sentinel, .sentinel, .sentinel, .sentinel], laidTests := true, laidLooks := .later }
def FnExactGramOpenCardSaid : Prop := Claim7.holds Tryd.pinned (.plain (OpenSpec.ofChange fnExactGramOpenSpec)) fnExactGramOpenCard

/-- THE TIED CARD OF 'laws.FnExactWindowTake'. -/
def fnExactWindowTakeCard : Claim7 := { stood := { row := fnExactWindowTakeRow, standIns := [], harness := (true, "a2e4612a102b4ce3cc0ca2d20c5a7827c84767bc836ec66ab4fbe90b25dad3a2"), looks := true }, kinds := [], alts := [], laidByText := true, laidKinds := [.handle, .sentinel, .sentinel, .sentinel, .sentinel], laidTests := true, laidLooks := .later }
def FnExactWindowTakeCardSaid : Prop := Claim7.holds Tryd.pinned (.plain (OpenSpec.ofChange fnExactWindowTakeSpec)) fnExactWindowTakeCard

/-- THE SECOND FORM's CARD OF 'laws.FnExactGramOpen'. -/
def fnExactGramOpenUptoCard : Claim7 := { stood := { row := fnExactGramOpenUptoRow, standIns := [], harness := (true, "a2e4612a102b4ce3cc0ca2d20c5a7827c84767bc836ec66ab4fbe90b25dad3a2"), looks := true }, kinds := [], alts := [], laidByText := true, laidKinds := [.handle, .data, .data, .sentinel, .sentinel, .sentinel, .sentinel], laidTests := true, laidLooks := .later }
def FnExactGramOpenUptoCardSaid : Prop := Claim7.holds Tryd.pinned (.plain (OpenSpec.upto fnExactGramOpenSpec)) fnExactGramOpenUptoCard

/-- THE SECOND FORM's CARD OF 'laws.FnExactWindowTake'. -/
def fnExactWindowTakeUptoCard : Claim7 := { stood := { row := fnExactWindowTakeUptoRow, standIns := [], harness := (true, "a2e4612a102b4ce3cc0ca2d20c5a7827c84767bc836ec66ab4fbe90b25dad3a2"), looks := true }, kinds := [], alts := [], laidByText := true, laidKinds := [.handle, .sentinel, .sentinel, .sentinel, .sentinel], laidTests := true, laidLooks := .later }
def FnExactWindowTakeUptoCardSaid : Prop := Claim7.holds Tryd.pinned (.plain (OpenSpec.upto fnExactWindowTakeSpec)) fnExactWindowTakeUptoCard
end Rows
end Go.Proofs.YtcgcjikgbbmjiaaDoor
