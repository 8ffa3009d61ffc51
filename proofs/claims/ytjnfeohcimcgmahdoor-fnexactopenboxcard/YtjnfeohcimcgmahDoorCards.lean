/-
  DERIVED. GIVEN WITH THE SEED: THE CARDS: each row of YtjnfeohcimcgmahDoorRows.lean that lists a variable, with what it lists TIED to the program's text (the seventh form; the later family's looks); each row that meets fmt, with fmt's text TOLD by the authors' own Lean function (tested against real Go, not proved from fmt's source: count such statements apart). THE CARD IS WHAT COUNTS. Prove the row's statement (the work); the ties are given (YtjnfeohcimcgmahDoorTie.lean); close each card by the builder's one call (the guide's Derived/Test/ToyasCard.lean, 'card_holds'). Laid BY PROGRAM, IN A SANDBOX (cutbox-door.mjs). By AI agents, Wed Nov 11 2026. No macro, syntax, notation, axiom, sorry.
-/
import Derived.Test.YtjnfeohcimcgmahDoorRows
import GoSem.ClaimSeven
namespace Go.Proofs.YtjnfeohcimcgmahDoor
namespace Rows

/-- THE TIED CARD OF 'laws.FnExactOpenBox'. -/
def fnExactOpenBoxCard : Claim7 := { stood := { row := fnExactOpenBoxRow, standIns := [], harness := (true, "8adc87323573b1ae2b9a76aead714276ed66c55aaa3ddc354747ed35ed61da3d"), looks := false }, kinds := [], alts := [], laidByText := true, laidKinds := [.data, .data], laidTests := true, laidLooks := .later }
def FnExactOpenBoxCardSaid : Prop := Claim7.holds Tryd.pinned (.plain (OpenSpec.ofChange fnExactOpenBoxSpec)) fnExactOpenBoxCard

/-- THE SECOND FORM's CARD OF 'laws.FnExactOpenBox'. -/
def fnExactOpenBoxUptoCard : Claim7 := { stood := { row := fnExactOpenBoxUptoRow, standIns := [], harness := (true, "8adc87323573b1ae2b9a76aead714276ed66c55aaa3ddc354747ed35ed61da3d"), looks := false }, kinds := [], alts := [], laidByText := true, laidKinds := [.data, .data], laidTests := true, laidLooks := .later }
def FnExactOpenBoxUptoCardSaid : Prop := Claim7.holds Tryd.pinned (.plain (OpenSpec.upto fnExactOpenBoxSpec)) fnExactOpenBoxUptoCard
end Rows
end Go.Proofs.YtjnfeohcimcgmahDoor
