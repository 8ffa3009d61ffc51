/-
  DERIVED. GIVEN WITH THE SEED: THE CARDS: each row of YtjnlffdopbfelaaDoorRows.lean that lists a variable, with what it lists TIED to the program's text (the seventh form; the later family's looks); each row that meets fmt, with fmt's text TOLD by the authors' own Lean function (tested against real Go, not proved from fmt's source: count such statements apart). THE CARD IS WHAT COUNTS. Prove the row's statement (the work); the ties are given (YtjnlffdopbfelaaDoorTie.lean); close each card by the builder's one call (the guide's Derived/Test/ToyasCard.lean, 'card_holds'). Laid BY PROGRAM, IN A SANDBOX (cutbox-door.mjs). By AI agents, Wed Nov 11 2026. No macro, syntax, notation, axiom, sorry.
-/
import Derived.Test.YtjnlffdopbfelaaDoorRows
import GoSem.ClaimSeven
namespace Go.Proofs.YtjnlffdopbfelaaDoor
namespace Rows

/-- THE TIED CARD OF 'laws.FnExactChainStart'. -/
def fnExactChainStartCard : Claim7 := { stood := { row := fnExactChainStartRow, standIns := [], harness := (true, "7c17d384cdf05e81b002fa783f917f0de9a2ec9b4ab51a75c1fec0426b3a2889"), looks := false }, kinds := [], alts := [], laidByText := true, laidKinds := [.data], laidTests := true, laidLooks := .later }
def FnExactChainStartCardSaid : Prop := Claim7.holds Tryd.pinned (.plain (OpenSpec.ofChange fnExactChainStartSpec)) fnExactChainStartCard

/-- THE TIED CARD OF 'laws.FnExactChainNext'. -/
def fnExactChainNextCard : Claim7 := { stood := { row := fnExactChainNextRow, standIns := [], harness := (true, "7c17d384cdf05e81b002fa783f917f0de9a2ec9b4ab51a75c1fec0426b3a2889"), looks := false }, kinds := [], alts := [], laidByText := true, laidKinds := [.data], laidTests := true, laidLooks := .later }
def FnExactChainNextCardSaid : Prop := Claim7.holds Tryd.pinned (.plain (OpenSpec.ofChange fnExactChainNextSpec)) fnExactChainNextCard

/-- THE TIED CARD OF 'laws.FnExactLogText'. -/
def fnExactLogTextCard : Claim7 := { stood := { row := fnExactLogTextRow, standIns := [], harness := (true, "7c17d384cdf05e81b002fa783f917f0de9a2ec9b4ab51a75c1fec0426b3a2889"), looks := false }, kinds := [], alts := [], laidByText := true, laidKinds := [.data], laidTests := true, laidLooks := .later }
def FnExactLogTextCardSaid : Prop := Claim7.holds Tryd.pinned (.plain (OpenSpec.ofChange fnExactLogTextSpec)) fnExactLogTextCard

/-- THE TIED CARD OF 'laws.FnExactLogRead'. -/
def fnExactLogReadCard : Claim7 := { stood := { row := fnExactLogReadRow, standIns := [], harness := (true, "7c17d384cdf05e81b002fa783f917f0de9a2ec9b4ab51a75c1fec0426b3a2889"), looks := false }, kinds := [], alts := [], laidByText := true, laidKinds := [.data], laidTests := true, laidLooks := .later }
def FnExactLogReadCardSaid : Prop := Claim7.holds Tryd.pinned (.plain (OpenSpec.ofChange fnExactLogReadSpec)) fnExactLogReadCard

/-- THE TIED CARD OF 'laws.FnExactAnchorOf'. -/
def fnExactAnchorOfCard : Claim7 := { stood := { row := fnExactAnchorOfRow, standIns := [], harness := (true, "7c17d384cdf05e81b002fa783f917f0de9a2ec9b4ab51a75c1fec0426b3a2889"), looks := false }, kinds := [], alts := [], laidByText := true, laidKinds := [.data], laidTests := true, laidLooks := .later }
def FnExactAnchorOfCardSaid : Prop := Claim7.holds Tryd.pinned (.plain (OpenSpec.ofChange fnExactAnchorOfSpec)) fnExactAnchorOfCard

/-- THE TIED CARD OF 'laws.FnExactVerify'. -/
def fnExactVerifyCard : Claim7 := { stood := { row := fnExactVerifyRow, standIns := [], harness := (true, "7c17d384cdf05e81b002fa783f917f0de9a2ec9b4ab51a75c1fec0426b3a2889"), looks := false }, kinds := [], alts := [], laidByText := true, laidKinds := [.data], laidTests := true, laidLooks := .later }
def FnExactVerifyCardSaid : Prop := Claim7.holds Tryd.pinned (.plain (OpenSpec.ofChange fnExactVerifySpec)) fnExactVerifyCard

/-- THE SECOND FORM's CARD OF 'laws.FnExactChainStart'. -/
def fnExactChainStartUptoCard : Claim7 := { stood := { row := fnExactChainStartUptoRow, standIns := [], harness := (true, "7c17d384cdf05e81b002fa783f917f0de9a2ec9b4ab51a75c1fec0426b3a2889"), looks := false }, kinds := [], alts := [], laidByText := true, laidKinds := [.data], laidTests := true, laidLooks := .later }
def FnExactChainStartUptoCardSaid : Prop := Claim7.holds Tryd.pinned (.plain (OpenSpec.upto fnExactChainStartSpec)) fnExactChainStartUptoCard

/-- THE SECOND FORM's CARD OF 'laws.FnExactChainNext'. -/
def fnExactChainNextUptoCard : Claim7 := { stood := { row := fnExactChainNextUptoRow, standIns := [], harness := (true, "7c17d384cdf05e81b002fa783f917f0de9a2ec9b4ab51a75c1fec0426b3a2889"), looks := false }, kinds := [], alts := [], laidByText := true, laidKinds := [.data], laidTests := true, laidLooks := .later }
def FnExactChainNextUptoCardSaid : Prop := Claim7.holds Tryd.pinned (.plain (OpenSpec.upto fnExactChainNextSpec)) fnExactChainNextUptoCard

/-- THE SECOND FORM's CARD OF 'laws.FnExactLogText'. -/
def fnExactLogTextUptoCard : Claim7 := { stood := { row := fnExactLogTextUptoRow, standIns := [], harness := (true, "7c17d384cdf05e81b002fa783f917f0de9a2ec9b4ab51a75c1fec0426b3a2889"), looks := false }, kinds := [], alts := [], laidByText := true, laidKinds := [.data], laidTests := true, laidLooks := .later }
def FnExactLogTextUptoCardSaid : Prop := Claim7.holds Tryd.pinned (.plain (OpenSpec.upto fnExactLogTextSpec)) fnExactLogTextUptoCard

/-- THE SECOND FORM's CARD OF 'laws.FnExactLogRead'. -/
def fnExactLogReadUptoCard : Claim7 := { stood := { row := fnExactLogReadUptoRow, standIns := [], harness := (true, "7c17d384cdf05e81b002fa783f917f0de9a2ec9b4ab51a75c1fec0426b3a2889"), looks := false }, kinds := [], alts := [], laidByText := true, laidKinds := [.data], laidTests := true, laidLooks := .later }
def FnExactLogReadUptoCardSaid : Prop := Claim7.holds Tryd.pinned (.plain (OpenSpec.upto fnExactLogReadSpec)) fnExactLogReadUptoCard

/-- THE SECOND FORM's CARD OF 'laws.FnExactAnchorOf'. -/
def fnExactAnchorOfUptoCard : Claim7 := { stood := { row := fnExactAnchorOfUptoRow, standIns := [], harness := (true, "7c17d384cdf05e81b002fa783f917f0de9a2ec9b4ab51a75c1fec0426b3a2889"), looks := false }, kinds := [], alts := [], laidByText := true, laidKinds := [.data], laidTests := true, laidLooks := .later }
def FnExactAnchorOfUptoCardSaid : Prop := Claim7.holds Tryd.pinned (.plain (OpenSpec.upto fnExactAnchorOfSpec)) fnExactAnchorOfUptoCard

/-- THE SECOND FORM's CARD OF 'laws.FnExactVerify'. -/
def fnExactVerifyUptoCard : Claim7 := { stood := { row := fnExactVerifyUptoRow, standIns := [], harness := (true, "7c17d384cdf05e81b002fa783f917f0de9a2ec9b4ab51a75c1fec0426b3a2889"), looks := false }, kinds := [], alts := [], laidByText := true, laidKinds := [.data], laidTests := true, laidLooks := .later }
def FnExactVerifyUptoCardSaid : Prop := Claim7.holds Tryd.pinned (.plain (OpenSpec.upto fnExactVerifySpec)) fnExactVerifyUptoCard
end Rows
end Go.Proofs.YtjnlffdopbfelaaDoor
