/-
  DERIVED. GIVEN WITH THE SEED: THE CARDS: each row of YtkfiigmfhfhkgaaDoorRows.lean that lists a variable, with what it lists TIED to the program's text (the seventh form; the later family's looks); each row that meets fmt, with fmt's text TOLD by the authors' own Lean function (tested against real Go, not proved from fmt's source: count such statements apart). THE CARD IS WHAT COUNTS. Prove the row's statement (the work); the ties are given (YtkfiigmfhfhkgaaDoorTie.lean); close each card by the builder's one call (the guide's Derived/Test/ToyasCard.lean, 'card_holds'). Laid BY PROGRAM, IN A SANDBOX (cutbox-door.mjs). By AI agents, Wed Nov 11 2026. No macro, syntax, notation, axiom, sorry.
-/
import Derived.Test.YtkfiigmfhfhkgaaDoorRows
import GoSem.ClaimSeven
namespace Go.Proofs.YtkfiigmfhfhkgaaDoor
namespace Rows

/-- THE TIED CARD OF 'laws.FnNums'. -/
def fnNumsCard : Claim7 := { stood := { row := fnNumsRow, standIns := [], harness := (true, "7cac34fb0640adf7c715d33ded55929a1dfca59d2222ce966cdc9beab9b330ab"), looks := true }, kinds := [], alts := [], laidByText := true, laidKinds := [.handle], laidTests := true, laidLooks := .later }
def FnNumsCardSaid : Prop := Claim7.holds Tryd.pinned (.plain (OpenSpec.ofChange fnNumsSpec)) fnNumsCard

/-- THE TIED CARD OF 'laws.FnMac'. -/
def fnMacCard : Claim7 := { stood := { row := fnMacRow, standIns := [], harness := (true, "7cac34fb0640adf7c715d33ded55929a1dfca59d2222ce966cdc9beab9b330ab"), looks := true }, kinds := [], alts := [], laidByText := true, laidKinds := [.data], laidTests := true, laidLooks := .later }
def FnMacCardSaid : Prop := Claim7.holds Tryd.pinned (.plain (OpenSpec.ofChange fnMacSpec)) fnMacCard

/-- THE TIED CARD OF 'laws.FnStream'. -/
def fnStreamCard : Claim7 := { stood := { row := fnStreamRow, standIns := [], harness := (true, "7cac34fb0640adf7c715d33ded55929a1dfca59d2222ce966cdc9beab9b330ab"), looks := true }, kinds := [], alts := [], laidByText := true, laidKinds := [.data], laidTests := true, laidLooks := .later }
def FnStreamCardSaid : Prop := Claim7.holds Tryd.pinned (.plain (OpenSpec.ofChange fnStreamSpec)) fnStreamCard

/-- THE TIED CARD OF 'laws.FnBox'. -/
def fnBoxCard : Claim7 := { stood := { row := fnBoxRow, standIns := [], harness := (true, "7cac34fb0640adf7c715d33ded55929a1dfca59d2222ce966cdc9beab9b330ab"), looks := true }, kinds := [], alts := [], laidByText := true, laidKinds := [.data, .data], laidTests := true, laidLooks := .later }
def FnBoxCardSaid : Prop := Claim7.holds Tryd.pinned (.plain (OpenSpec.ofChange fnBoxSpec)) fnBoxCard

/-- THE SECOND FORM's CARD OF 'laws.FnNums'. -/
def fnNumsUptoCard : Claim7 := { stood := { row := fnNumsUptoRow, standIns := [], harness := (true, "7cac34fb0640adf7c715d33ded55929a1dfca59d2222ce966cdc9beab9b330ab"), looks := true }, kinds := [], alts := [], laidByText := true, laidKinds := [.handle], laidTests := true, laidLooks := .later }
def FnNumsUptoCardSaid : Prop := Claim7.holds Tryd.pinned (.plain (OpenSpec.upto fnNumsSpec)) fnNumsUptoCard

/-- THE SECOND FORM's CARD OF 'laws.FnMac'. -/
def fnMacUptoCard : Claim7 := { stood := { row := fnMacUptoRow, standIns := [], harness := (true, "7cac34fb0640adf7c715d33ded55929a1dfca59d2222ce966cdc9beab9b330ab"), looks := true }, kinds := [], alts := [], laidByText := true, laidKinds := [.data], laidTests := true, laidLooks := .later }
def FnMacUptoCardSaid : Prop := Claim7.holds Tryd.pinned (.plain (OpenSpec.upto fnMacSpec)) fnMacUptoCard

/-- THE SECOND FORM's CARD OF 'laws.FnStream'. -/
def fnStreamUptoCard : Claim7 := { stood := { row := fnStreamUptoRow, standIns := [], harness := (true, "7cac34fb0640adf7c715d33ded55929a1dfca59d2222ce966cdc9beab9b330ab"), looks := true }, kinds := [], alts := [], laidByText := true, laidKinds := [.data], laidTests := true, laidLooks := .later }
def FnStreamUptoCardSaid : Prop := Claim7.holds Tryd.pinned (.plain (OpenSpec.upto fnStreamSpec)) fnStreamUptoCard

/-- THE SECOND FORM's CARD OF 'laws.FnBox'. -/
def fnBoxUptoCard : Claim7 := { stood := { row := fnBoxUptoRow, standIns := [], harness := (true, "7cac34fb0640adf7c715d33ded55929a1dfca59d2222ce966cdc9beab9b330ab"), looks := true }, kinds := [], alts := [], laidByText := true, laidKinds := [.data, .data], laidTests := true, laidLooks := .later }
def FnBoxUptoCardSaid : Prop := Claim7.holds Tryd.pinned (.plain (OpenSpec.upto fnBoxSpec)) fnBoxUptoCard
end Rows
end Go.Proofs.YtkfiigmfhfhkgaaDoor
