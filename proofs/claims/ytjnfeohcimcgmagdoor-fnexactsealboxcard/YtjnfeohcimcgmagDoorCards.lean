/-
  DERIVED. GIVEN WITH THE SEED: THE CARDS: each row of YtjnfeohcimcgmagDoorRows.lean that lists a variable, with what it lists TIED to the program's text (the seventh form; the later family's looks); each row that meets fmt, with fmt's text TOLD by the authors' own Lean function (tested against real Go, not proved from fmt's source: count such statements apart). THE CARD IS WHAT COUNTS. Prove the row's statement (the work); the ties are given (YtjnfeohcimcgmagDoorTie.lean); close each card by the builder's one call (the guide's Derived/Test/ToyasCard.lean, 'card_holds'). Laid BY PROGRAM, IN A SANDBOX (cutbox-door.mjs). By AI agents, Wed Nov 11 2026. No macro, syntax, notation, axiom, sorry.
-/
import Derived.Test.YtjnfeohcimcgmagDoorRows
import GoSem.ClaimSeven
namespace Go.Proofs.YtjnfeohcimcgmagDoor
namespace Rows

/-- THE TIED CARD OF 'laws.FnExactMac'. -/
def fnExactMacCard : Claim7 := { stood := { row := fnExactMacRow, standIns := [], harness := (true, "d217cb835e53c15e270e8593040f847fea0c8dc3c76e09410619ef21cd2cebc7"), looks := false }, kinds := [], alts := [], laidByText := true, laidKinds := [.data], laidTests := true, laidLooks := .later }
def FnExactMacCardSaid : Prop := Claim7.holds Tryd.pinned (.plain (OpenSpec.ofChange fnExactMacSpec)) fnExactMacCard

/-- THE TIED CARD OF 'laws.FnExactStretch'. -/
def fnExactStretchCard : Claim7 := { stood := { row := fnExactStretchRow, standIns := [], harness := (true, "d217cb835e53c15e270e8593040f847fea0c8dc3c76e09410619ef21cd2cebc7"), looks := false }, kinds := [], alts := [], laidByText := true, laidKinds := [.data], laidTests := true, laidLooks := .later }
def FnExactStretchCardSaid : Prop := Claim7.holds Tryd.pinned (.plain (OpenSpec.ofChange fnExactStretchSpec)) fnExactStretchCard

/-- THE TIED CARD OF 'laws.FnExactBlock'. -/
def fnExactBlockCard : Claim7 := { stood := { row := fnExactBlockRow, standIns := [], harness := (true, "d217cb835e53c15e270e8593040f847fea0c8dc3c76e09410619ef21cd2cebc7"), looks := false }, kinds := [], alts := [], laidByText := true, laidKinds := [.data], laidTests := true, laidLooks := .later }
def FnExactBlockCardSaid : Prop := Claim7.holds Tryd.pinned (.plain (OpenSpec.ofChange fnExactBlockSpec)) fnExactBlockCard

/-- THE TIED CARD OF 'laws.FnExactCipher'. -/
def fnExactCipherCard : Claim7 := { stood := { row := fnExactCipherRow, standIns := [], harness := (true, "d217cb835e53c15e270e8593040f847fea0c8dc3c76e09410619ef21cd2cebc7"), looks := false }, kinds := [], alts := [], laidByText := true, laidKinds := [.data], laidTests := true, laidLooks := .later }
def FnExactCipherCardSaid : Prop := Claim7.holds Tryd.pinned (.plain (OpenSpec.ofChange fnExactCipherSpec)) fnExactCipherCard

/-- THE TIED CARD OF 'laws.FnExactSealBox'. -/
def fnExactSealBoxCard : Claim7 := { stood := { row := fnExactSealBoxRow, standIns := [], harness := (true, "d217cb835e53c15e270e8593040f847fea0c8dc3c76e09410619ef21cd2cebc7"), looks := false }, kinds := [], alts := [], laidByText := true, laidKinds := [.data, .data], laidTests := true, laidLooks := .later }
def FnExactSealBoxCardSaid : Prop := Claim7.holds Tryd.pinned (.plain (OpenSpec.ofChange fnExactSealBoxSpec)) fnExactSealBoxCard

/-- THE SECOND FORM's CARD OF 'laws.FnExactMac'. -/
def fnExactMacUptoCard : Claim7 := { stood := { row := fnExactMacUptoRow, standIns := [], harness := (true, "d217cb835e53c15e270e8593040f847fea0c8dc3c76e09410619ef21cd2cebc7"), looks := false }, kinds := [], alts := [], laidByText := true, laidKinds := [.data], laidTests := true, laidLooks := .later }
def FnExactMacUptoCardSaid : Prop := Claim7.holds Tryd.pinned (.plain (OpenSpec.upto fnExactMacSpec)) fnExactMacUptoCard

/-- THE SECOND FORM's CARD OF 'laws.FnExactStretch'. -/
def fnExactStretchUptoCard : Claim7 := { stood := { row := fnExactStretchUptoRow, standIns := [], harness := (true, "d217cb835e53c15e270e8593040f847fea0c8dc3c76e09410619ef21cd2cebc7"), looks := false }, kinds := [], alts := [], laidByText := true, laidKinds := [.data], laidTests := true, laidLooks := .later }
def FnExactStretchUptoCardSaid : Prop := Claim7.holds Tryd.pinned (.plain (OpenSpec.upto fnExactStretchSpec)) fnExactStretchUptoCard

/-- THE SECOND FORM's CARD OF 'laws.FnExactBlock'. -/
def fnExactBlockUptoCard : Claim7 := { stood := { row := fnExactBlockUptoRow, standIns := [], harness := (true, "d217cb835e53c15e270e8593040f847fea0c8dc3c76e09410619ef21cd2cebc7"), looks := false }, kinds := [], alts := [], laidByText := true, laidKinds := [.data], laidTests := true, laidLooks := .later }
def FnExactBlockUptoCardSaid : Prop := Claim7.holds Tryd.pinned (.plain (OpenSpec.upto fnExactBlockSpec)) fnExactBlockUptoCard

/-- THE SECOND FORM's CARD OF 'laws.FnExactCipher'. -/
def fnExactCipherUptoCard : Claim7 := { stood := { row := fnExactCipherUptoRow, standIns := [], harness := (true, "d217cb835e53c15e270e8593040f847fea0c8dc3c76e09410619ef21cd2cebc7"), looks := false }, kinds := [], alts := [], laidByText := true, laidKinds := [.data], laidTests := true, laidLooks := .later }
def FnExactCipherUptoCardSaid : Prop := Claim7.holds Tryd.pinned (.plain (OpenSpec.upto fnExactCipherSpec)) fnExactCipherUptoCard

/-- THE SECOND FORM's CARD OF 'laws.FnExactSealBox'. -/
def fnExactSealBoxUptoCard : Claim7 := { stood := { row := fnExactSealBoxUptoRow, standIns := [], harness := (true, "d217cb835e53c15e270e8593040f847fea0c8dc3c76e09410619ef21cd2cebc7"), looks := false }, kinds := [], alts := [], laidByText := true, laidKinds := [.data, .data], laidTests := true, laidLooks := .later }
def FnExactSealBoxUptoCardSaid : Prop := Claim7.holds Tryd.pinned (.plain (OpenSpec.upto fnExactSealBoxSpec)) fnExactSealBoxUptoCard
end Rows
end Go.Proofs.YtjnfeohcimcgmagDoor
