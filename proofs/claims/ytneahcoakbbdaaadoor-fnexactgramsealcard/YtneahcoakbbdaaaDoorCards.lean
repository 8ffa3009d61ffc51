/-
  DERIVED. GIVEN WITH THE SEED: THE CARDS: each row of YtneahcoakbbdaaaDoorRows.lean that lists a variable, with what it lists TIED to the program's text (the seventh form; the later family's looks); each row that meets fmt, with fmt's text TOLD by the authors' own Lean function (tested against real Go, not proved from fmt's source: count such statements apart). THE CARD IS WHAT COUNTS. Prove the row's statement (the work); the ties are given (YtneahcoakbbdaaaDoorTie.lean); close each card by the builder's one call (the guide's Derived/Test/ToyasCard.lean, 'card_holds'). Laid BY PROGRAM, IN A SANDBOX (cutbox-door.mjs). By AI agents, Wed Nov 11 2026. No macro, syntax, notation, axiom, sorry.
-/
import Derived.Test.YtneahcoakbbdaaaDoorRows
import GoSem.ClaimSeven
namespace Go.Proofs.YtneahcoakbbdaaaDoor
namespace Rows

/-- THE TIED CARD OF 'laws.FnExactSealBox'. -/
def fnExactSealBoxCard : Claim7 := { stood := { row := fnExactSealBoxRow, standIns := [], harness := (true, "d6bcbee331a91a8d460c5e528ba53a07b1f366302364bf575d1cb7e590ee14d9"), looks := true }, kinds := [], alts := [], laidByText := true, laidKinds := [.data, .data], laidTests := true, laidLooks := .later }
def FnExactSealBoxCardSaid : Prop := Claim7.holds Tryd.pinned (.plain (OpenSpec.ofChange fnExactSealBoxSpec)) fnExactSealBoxCard

/-- THE TIED CARD OF 'laws.FnExactGramSeal'. -/
def fnExactGramSealCard : Claim7 := { stood := { row := fnExactGramSealRow, standIns := [], harness := (true, "d6bcbee331a91a8d460c5e528ba53a07b1f366302364bf575d1cb7e590ee14d9"), looks := true }, kinds := [], alts := [], laidByText := true, laidKinds := [.data, .data], laidTests := true, laidLooks := .later }
def FnExactGramSealCardSaid : Prop := Claim7.holds Tryd.pinned (.plain (OpenSpec.ofChange fnExactGramSealSpec)) fnExactGramSealCard

/-- THE TIED CARD OF 'laws.FnExactGramOpen'. -/
def fnExactGramOpenCard : Claim7 := { stood := { row := fnExactGramOpenRow, standIns := [], harness := (true, "d6bcbee331a91a8d460c5e528ba53a07b1f366302364bf575d1cb7e590ee14d9"), looks := true }, kinds := [], alts := [], laidByText := true, laidKinds := [.handle, .data, .data, .sentinel, .sentinel, .sentinel, .sentinel], laidTests := true, laidLooks := .later }
def FnExactGramOpenCardSaid : Prop := Claim7.holds Tryd.pinned (.plain (OpenSpec.ofChange fnExactGramOpenSpec)) fnExactGramOpenCard

/-- THE TIED CARD OF 'laws.FnExactWindowTake'. -/
def fnExactWindowTakeCard : Claim7 := { stood := { row := fnExactWindowTakeRow, standIns := [], harness := (true, "d6bcbee331a91a8d460c5e528ba53a07b1f366302364bf575d1cb7e590ee14d9"), looks := true }, kinds := [], alts := [], laidByText := true, laidKinds := [.handle, .sentinel, .sentinel, .sentinel, .sentinel], laidTests := true, laidLooks := .later }
def FnExactWindowTakeCardSaid : Prop := Claim7.holds Tryd.pinned (.plain (OpenSpec.ofChange fnExactWindowTakeSpec)) fnExactWindowTakeCard

/-- THE SECOND FORM's CARD OF 'laws.FnExactSealBox'. -/
def fnExactSealBoxUptoCard : Claim7 := { stood := { row := fnExactSealBoxUptoRow, standIns := [], harness := (true, "d6bcbee331a91a8d460c5e528ba53a07b1f366302364bf575d1cb7e590ee14d9"), looks := true }, kinds := [], alts := [], laidByText := true, laidKinds := [.data, .data], laidTests := true, laidLooks := .later }
def FnExactSealBoxUptoCardSaid : Prop := Claim7.holds Tryd.pinned (.plain (OpenSpec.upto fnExactSealBoxSpec)) fnExactSealBoxUptoCard

/-- THE SECOND FORM's CARD OF 'laws.FnExactGramSeal'. -/
def fnExactGramSealUptoCard : Claim7 := { stood := { row := fnExactGramSealUptoRow, standIns := [], harness := (true, "d6bcbee331a91a8d460c5e528ba53a07b1f366302364bf575d1cb7e590ee14d9"), looks := true }, kinds := [], alts := [], laidByText := true, laidKinds := [.data, .data], laidTests := true, laidLooks := .later }
def FnExactGramSealUptoCardSaid : Prop := Claim7.holds Tryd.pinned (.plain (OpenSpec.upto fnExactGramSealSpec)) fnExactGramSealUptoCard

/-- THE SECOND FORM's CARD OF 'laws.FnExactGramOpen'. -/
def fnExactGramOpenUptoCard : Claim7 := { stood := { row := fnExactGramOpenUptoRow, standIns := [], harness := (true, "d6bcbee331a91a8d460c5e528ba53a07b1f366302364bf575d1cb7e590ee14d9"), looks := true }, kinds := [], alts := [], laidByText := true, laidKinds := [.handle, .data, .data, .sentinel, .sentinel, .sentinel, .sentinel], laidTests := true, laidLooks := .later }
def FnExactGramOpenUptoCardSaid : Prop := Claim7.holds Tryd.pinned (.plain (OpenSpec.upto fnExactGramOpenSpec)) fnExactGramOpenUptoCard

/-- THE SECOND FORM's CARD OF 'laws.FnExactWindowTake'. -/
def fnExactWindowTakeUptoCard : Claim7 := { stood := { row := fnExactWindowTakeUptoRow, standIns := [], harness := (true, "d6bcbee331a91a8d460c5e528ba53a07b1f366302364bf575d1cb7e590ee14d9"), looks := true }, kinds := [], alts := [], laidByText := true, laidKinds := [.handle, .sentinel, .sentinel, .sentinel, .sentinel], laidTests := true, laidLooks := .later }
def FnExactWindowTakeUptoCardSaid : Prop := Claim7.holds Tryd.pinned (.plain (OpenSpec.upto fnExactWindowTakeSpec)) fnExactWindowTakeUptoCard
end Rows
end Go.Proofs.YtneahcoakbbdaaaDoor
