/-
  DERIVED. GIVEN WITH THE SEED: THE CARDS: each row of YtgchjinbnlclnaaGreatDoorRows.lean that lists a variable, with what it lists TIED to the program's text (the seventh form; the later family's looks); each row that meets fmt, with fmt's text TOLD by the authors' own Lean function (tested against real Go, not proved from fmt's source: count such statements apart). THE CARD IS WHAT COUNTS. Prove the row's statement (the work); the ties are given (YtgchjinbnlclnaaGreatDoorTie.lean); close each card by the builder's one call (the guide's Derived/Test/ToyasCard.lean, 'card_holds'). Laid BY PROGRAM, IN A SANDBOX (cutbox-door.mjs). By AI agents, Wed Nov 11 2026. No macro, syntax, notation, axiom, sorry.
-/
import Derived.Test.YtgchjinbnlclnaaGreatDoorRows
import GoSem.ClaimSeven
namespace Go.Proofs.YtgchjinbnlclnaaGreatDoor
namespace Rows

/-- THE TIED CARD OF 'laws.FnGram'. -/
def fnGramCard : Claim7 := { stood := { row := fnGramRow, standIns := [], harness := (true, "853c431abe9ebff799fb74dbfddf21328418b23b291c228d1adcc659af8a9b85"), looks := true }, kinds := [], alts := [], laidByText := true, laidKinds := [.handle, .data, .data, .sentinel, .sentinel, .sentinel, .sentinel], laidTests := true, laidLooks := .later }
def FnGramCardSaid : Prop := Claim7.holds Tryz.pinned (.plain (OpenSpec.ofChange fnGramSpec)) fnGramCard

/-- THE SECOND FORM's CARD OF 'laws.FnGram'. -/
def fnGramUptoCard : Claim7 := { stood := { row := fnGramUptoRow, standIns := [], harness := (true, "853c431abe9ebff799fb74dbfddf21328418b23b291c228d1adcc659af8a9b85"), looks := true }, kinds := [], alts := [], laidByText := true, laidKinds := [.handle, .data, .data, .sentinel, .sentinel, .sentinel, .sentinel], laidTests := true, laidLooks := .later }
def FnGramUptoCardSaid : Prop := Claim7.holds Tryz.pinned (.plain (OpenSpec.upto fnGramSpec)) fnGramUptoCard
end Rows
end Go.Proofs.YtgchjinbnlclnaaGreatDoor
