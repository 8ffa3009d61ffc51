/-
  DERIVED. GIVEN WITH THE SEED: THE CARDS: each row of YtndjjhcdnlkekaaDoorRows.lean that lists a variable, with what it lists TIED to the program's text (the seventh form; the later family's looks); each row that meets fmt, with fmt's text TOLD by the authors' own Lean function (tested against real Go, not proved from fmt's source: count such statements apart). THE CARD IS WHAT COUNTS. Prove the row's statement (the work); the ties are given (YtndjjhcdnlkekaaDoorTie.lean); close each card by the builder's one call (the guide's Derived/Test/ToyasCard.lean, 'card_holds'). Laid BY PROGRAM, IN A SANDBOX (cutbox-door.mjs). By AI agents, Wed Nov 11 2026. No macro, syntax, notation, axiom, sorry.
-/
import Derived.Test.YtndjjhcdnlkekaaDoorRows
import GoSem.ClaimSeven
namespace Go.Proofs.YtndjjhcdnlkekaaDoor
namespace Rows

/-- THE TIED CARD OF 'laws.FnExactRuleRight'. -/
def fnExactRuleRightCard : Claim7 := { stood := { row := fnExactRuleRightRow, standIns := [], harness := (true, "79a72d20ceae095154eceb1cc3e28bf8c190184ad4b61dc2d102017b881007c3"), looks := true }, kinds := [], alts := [], laidByText := true, laidKinds := [.data, .pinned], laidTests := true, laidLooks := .later }
def FnExactRuleRightCardSaid : Prop := Claim7.holds Tryd.pinned (.plain (OpenSpec.ofChange fnExactRuleRightSpec)) fnExactRuleRightCard

/-- THE TIED CARD OF 'laws.FnExactPolicyRight'. -/
def fnExactPolicyRightCard : Claim7 := { stood := { row := fnExactPolicyRightRow, standIns := [], harness := (true, "79a72d20ceae095154eceb1cc3e28bf8c190184ad4b61dc2d102017b881007c3"), looks := true }, kinds := [], alts := [], laidByText := true, laidKinds := [.data, .pinned], laidTests := true, laidLooks := .later }
def FnExactPolicyRightCardSaid : Prop := Claim7.holds Tryd.pinned (.plain (OpenSpec.ofChange fnExactPolicyRightSpec)) fnExactPolicyRightCard

/-- THE TIED CARD OF 'laws.FnExactPolicyText'. -/
def fnExactPolicyTextCard : Claim7 := { stood := { row := fnExactPolicyTextRow, standIns := [], harness := (true, "79a72d20ceae095154eceb1cc3e28bf8c190184ad4b61dc2d102017b881007c3"), looks := true }, kinds := [], alts := [], laidByText := true, laidKinds := [.data, .pinned], laidTests := true, laidLooks := .later }
def FnExactPolicyTextCardSaid : Prop := Claim7.holds Tryd.pinned (.plain (OpenSpec.ofChange fnExactPolicyTextSpec)) fnExactPolicyTextCard

/-- THE TIED CARD OF 'laws.FnExactPolicyRead'. -/
def fnExactPolicyReadCard : Claim7 := { stood := { row := fnExactPolicyReadRow, standIns := [], harness := (true, "79a72d20ceae095154eceb1cc3e28bf8c190184ad4b61dc2d102017b881007c3"), looks := true }, kinds := [], alts := [], laidByText := true, laidKinds := [.data, .pinned], laidTests := true, laidLooks := .later }
def FnExactPolicyReadCardSaid : Prop := Claim7.holds Tryd.pinned (.plain (OpenSpec.ofChange fnExactPolicyReadSpec)) fnExactPolicyReadCard

/-- THE TIED CARD OF 'laws.FnExactGlobFits'. -/
def fnExactGlobFitsCard : Claim7 := { stood := { row := fnExactGlobFitsRow, standIns := [], harness := (true, "79a72d20ceae095154eceb1cc3e28bf8c190184ad4b61dc2d102017b881007c3"), looks := true }, kinds := [], alts := [], laidByText := true, laidKinds := [.data, .pinned], laidTests := true, laidLooks := .later }
def FnExactGlobFitsCardSaid : Prop := Claim7.holds Tryd.pinned (.plain (OpenSpec.ofChange fnExactGlobFitsSpec)) fnExactGlobFitsCard

/-- THE TIED CARD OF 'laws.FnExactJudge'. -/
def fnExactJudgeCard : Claim7 := { stood := { row := fnExactJudgeRow, standIns := [], harness := (true, "79a72d20ceae095154eceb1cc3e28bf8c190184ad4b61dc2d102017b881007c3"), looks := true }, kinds := [], alts := [], laidByText := true, laidKinds := [.data, .pinned], laidTests := true, laidLooks := .later }
def FnExactJudgeCardSaid : Prop := Claim7.holds Tryd.pinned (.plain (OpenSpec.ofChange fnExactJudgeSpec)) fnExactJudgeCard

/-- THE SECOND FORM's CARD OF 'laws.FnExactRuleRight'. -/
def fnExactRuleRightUptoCard : Claim7 := { stood := { row := fnExactRuleRightUptoRow, standIns := [], harness := (true, "79a72d20ceae095154eceb1cc3e28bf8c190184ad4b61dc2d102017b881007c3"), looks := true }, kinds := [], alts := [], laidByText := true, laidKinds := [.data, .pinned], laidTests := true, laidLooks := .later }
def FnExactRuleRightUptoCardSaid : Prop := Claim7.holds Tryd.pinned (.plain (OpenSpec.upto fnExactRuleRightSpec)) fnExactRuleRightUptoCard

/-- THE SECOND FORM's CARD OF 'laws.FnExactPolicyRight'. -/
def fnExactPolicyRightUptoCard : Claim7 := { stood := { row := fnExactPolicyRightUptoRow, standIns := [], harness := (true, "79a72d20ceae095154eceb1cc3e28bf8c190184ad4b61dc2d102017b881007c3"), looks := true }, kinds := [], alts := [], laidByText := true, laidKinds := [.data, .pinned], laidTests := true, laidLooks := .later }
def FnExactPolicyRightUptoCardSaid : Prop := Claim7.holds Tryd.pinned (.plain (OpenSpec.upto fnExactPolicyRightSpec)) fnExactPolicyRightUptoCard

/-- THE SECOND FORM's CARD OF 'laws.FnExactPolicyText'. -/
def fnExactPolicyTextUptoCard : Claim7 := { stood := { row := fnExactPolicyTextUptoRow, standIns := [], harness := (true, "79a72d20ceae095154eceb1cc3e28bf8c190184ad4b61dc2d102017b881007c3"), looks := true }, kinds := [], alts := [], laidByText := true, laidKinds := [.data, .pinned], laidTests := true, laidLooks := .later }
def FnExactPolicyTextUptoCardSaid : Prop := Claim7.holds Tryd.pinned (.plain (OpenSpec.upto fnExactPolicyTextSpec)) fnExactPolicyTextUptoCard

/-- THE SECOND FORM's CARD OF 'laws.FnExactPolicyRead'. -/
def fnExactPolicyReadUptoCard : Claim7 := { stood := { row := fnExactPolicyReadUptoRow, standIns := [], harness := (true, "79a72d20ceae095154eceb1cc3e28bf8c190184ad4b61dc2d102017b881007c3"), looks := true }, kinds := [], alts := [], laidByText := true, laidKinds := [.data, .pinned], laidTests := true, laidLooks := .later }
def FnExactPolicyReadUptoCardSaid : Prop := Claim7.holds Tryd.pinned (.plain (OpenSpec.upto fnExactPolicyReadSpec)) fnExactPolicyReadUptoCard

/-- THE SECOND FORM's CARD OF 'laws.FnExactGlobFits'. -/
def fnExactGlobFitsUptoCard : Claim7 := { stood := { row := fnExactGlobFitsUptoRow, standIns := [], harness := (true, "79a72d20ceae095154eceb1cc3e28bf8c190184ad4b61dc2d102017b881007c3"), looks := true }, kinds := [], alts := [], laidByText := true, laidKinds := [.data, .pinned], laidTests := true, laidLooks := .later }
def FnExactGlobFitsUptoCardSaid : Prop := Claim7.holds Tryd.pinned (.plain (OpenSpec.upto fnExactGlobFitsSpec)) fnExactGlobFitsUptoCard

/-- THE SECOND FORM's CARD OF 'laws.FnExactJudge'. -/
def fnExactJudgeUptoCard : Claim7 := { stood := { row := fnExactJudgeUptoRow, standIns := [], harness := (true, "79a72d20ceae095154eceb1cc3e28bf8c190184ad4b61dc2d102017b881007c3"), looks := true }, kinds := [], alts := [], laidByText := true, laidKinds := [.data, .pinned], laidTests := true, laidLooks := .later }
def FnExactJudgeUptoCardSaid : Prop := Claim7.holds Tryd.pinned (.plain (OpenSpec.upto fnExactJudgeSpec)) fnExactJudgeUptoCard
end Rows
end Go.Proofs.YtndjjhcdnlkekaaDoor
