/-
  No cell of these rows narrows 'for every input' (looked for: loops, veiled, ifaces, maps, wideKeys, modest, calm, conditions, laid).
  DERIVED. THE GIVEN ROWS OF THIS SEAT. 6 by the template 'for every input the law returns true; each argument reads behind the call as it read before'; 0 by the template 'total and deterministic' (their statements: YtikkohecanmefaaTotals.lean).
  GIVEN WITH THE SEED: the statements are not yours to turn. If you find one false, say at which input.
  Laid BY PROGRAM, IN A SANDBOX (cutbox-rows.mjs): the forced cells as the released guide's own fill.sh prints them over the translation 1adacc938c76994b… (all of the seat's roots in one cut). By AI agents, Wed Nov 11 2026. No macro, syntax, notation, axiom, sorry.
-/
import Derived.Test.YtikkohecanmefaaChecked
import GoSem.Claim
import GoSem.ClaimJoined
import GoSem.ClaimMapViews
import Derived.JoinedTies
import Derived.KernelRfl
namespace Go.Proofs.Ytikkohecanmefaa
/- THE CELL 'sum', in the pinned program and in every row, IS THE sha256 OF THE DUMP (.gsa) THAT YtikkohecanmefaaProg.lean LOADS. Nothing in Lean hashes anything: it is a label: what it is worth is what the hold of that sum in a sandbox is worth. -/
noncomputable def Try.pinned : Pinned := { name := "ytikkohecanmefaa", sum := "1adacc938c76994bf49c51e5230b0b7b08f6b8f21ef0cc16bf91211933e3c0a2", checked := Try.checked }
namespace Rows
def none {H : Type} : Left H := { results := [], args := [] }

/-- 'laws.FnExactScreenRight': WHATEVER THE INPUT: true; the input reads as it did. -/
def fnExactScreenRightSpec : ChangeSpec := { name := "fnExactScreenRight", fn := fun _ => fun
  | [d] => { results := [.lit (.bool true)], args := [d] }
  | _ => none }
def fnExactScreenRightRow : OpenClaim := { program := "ytikkohecanmefaa", sum := "1adacc938c76994bf49c51e5230b0b7b08f6b8f21ef0cc16bf91211933e3c0a2", func := "loop.example/g00455/laws.FnExactScreenRight", spec := "fnExactScreenRight", unfollowed := true, recurses := true, apart := false }
def FnExactScreenRightSaid : Prop := fnExactScreenRightRow.holds Try.pinned (OpenSpec.ofChange fnExactScreenRightSpec)

/-- ITS FALSE NEIGHBOUR: 'it returns false'. Refute it at one input. -/
def fnExactScreenRightWrong : ChangeSpec := { name := "fnExactScreenRight", fn := fun _ => fun
  | [d] => { results := [.lit (.bool false)], args := [d] }
  | _ => none }
def FnExactScreenRightWrongFalsely : Prop := fnExactScreenRightRow.holds Try.pinned (OpenSpec.ofChange fnExactScreenRightWrong)

/-- 'laws.FnExactScreenNew': WHATEVER THE INPUT: true; the input reads as it did. -/
def fnExactScreenNewSpec : ChangeSpec := { name := "fnExactScreenNew", fn := fun _ => fun
  | [d1, d2] => { results := [.lit (.bool true)], args := [d1, d2] }
  | _ => none }
def fnExactScreenNewRow : OpenClaim := { program := "ytikkohecanmefaa", sum := "1adacc938c76994bf49c51e5230b0b7b08f6b8f21ef0cc16bf91211933e3c0a2", func := "loop.example/g00455/laws.FnExactScreenNew", spec := "fnExactScreenNew", inPlace := ["internal/bytealg.MakeNoZero"], apart := false }
def FnExactScreenNewSaid : Prop := fnExactScreenNewRow.holds Try.pinned (OpenSpec.ofChange fnExactScreenNewSpec)

/-- ITS FALSE NEIGHBOUR: 'it returns false'. Refute it at one input. -/
def fnExactScreenNewWrong : ChangeSpec := { name := "fnExactScreenNew", fn := fun _ => fun
  | [d1, d2] => { results := [.lit (.bool false)], args := [d1, d2] }
  | _ => none }
def FnExactScreenNewWrongFalsely : Prop := fnExactScreenNewRow.holds Try.pinned (OpenSpec.ofChange fnExactScreenNewWrong)

/-- 'laws.FnExactFeed': WHATEVER THE INPUT: true; the input reads as it did. -/
def fnExactFeedSpec : ChangeSpec := { name := "fnExactFeed", fn := fun _ => fun
  | [d1, d2] => { results := [.lit (.bool true)], args := [d1, d2] }
  | _ => none }
def fnExactFeedRow : OpenClaim := { program := "ytikkohecanmefaa", sum := "1adacc938c76994bf49c51e5230b0b7b08f6b8f21ef0cc16bf91211933e3c0a2", func := "loop.example/g00455/laws.FnExactFeed", spec := "fnExactFeed", inPlace := ["internal/bytealg.MakeNoZero"], unfollowed := true, recurses := true, apart := false }
def FnExactFeedSaid : Prop := fnExactFeedRow.holds Try.pinned (OpenSpec.ofChange fnExactFeedSpec)

/-- ITS FALSE NEIGHBOUR: 'it returns false'. Refute it at one input. -/
def fnExactFeedWrong : ChangeSpec := { name := "fnExactFeed", fn := fun _ => fun
  | [d1, d2] => { results := [.lit (.bool false)], args := [d1, d2] }
  | _ => none }
def FnExactFeedWrongFalsely : Prop := fnExactFeedRow.holds Try.pinned (OpenSpec.ofChange fnExactFeedWrong)

/-- 'laws.FnExactScreenText': WHATEVER THE INPUT: true; the input reads as it did. -/
def fnExactScreenTextSpec : ChangeSpec := { name := "fnExactScreenText", fn := fun _ => fun
  | [d] => { results := [.lit (.bool true)], args := [d] }
  | _ => none }
def fnExactScreenTextRow : OpenClaim := { program := "ytikkohecanmefaa", sum := "1adacc938c76994bf49c51e5230b0b7b08f6b8f21ef0cc16bf91211933e3c0a2", func := "loop.example/g00455/laws.FnExactScreenText", spec := "fnExactScreenText", unfollowed := true, recurses := true, apart := false }
def FnExactScreenTextSaid : Prop := fnExactScreenTextRow.holds Try.pinned (OpenSpec.ofChange fnExactScreenTextSpec)

/-- ITS FALSE NEIGHBOUR: 'it returns false'. Refute it at one input. -/
def fnExactScreenTextWrong : ChangeSpec := { name := "fnExactScreenText", fn := fun _ => fun
  | [d] => { results := [.lit (.bool false)], args := [d] }
  | _ => none }
def FnExactScreenTextWrongFalsely : Prop := fnExactScreenTextRow.holds Try.pinned (OpenSpec.ofChange fnExactScreenTextWrong)

/-- 'laws.FnExactResize': WHATEVER THE INPUT: true; the input reads as it did. -/
def fnExactResizeSpec : ChangeSpec := { name := "fnExactResize", fn := fun _ => fun
  | [d1, d2, d3] => { results := [.lit (.bool true)], args := [d1, d2, d3] }
  | _ => none }
def fnExactResizeRow : OpenClaim := { program := "ytikkohecanmefaa", sum := "1adacc938c76994bf49c51e5230b0b7b08f6b8f21ef0cc16bf91211933e3c0a2", func := "loop.example/g00455/laws.FnExactResize", spec := "fnExactResize", inPlace := ["internal/bytealg.MakeNoZero"], unfollowed := true, recurses := true, apart := false }
def FnExactResizeSaid : Prop := fnExactResizeRow.holds Try.pinned (OpenSpec.ofChange fnExactResizeSpec)

/-- ITS FALSE NEIGHBOUR: 'it returns false'. Refute it at one input. -/
def fnExactResizeWrong : ChangeSpec := { name := "fnExactResize", fn := fun _ => fun
  | [d1, d2, d3] => { results := [.lit (.bool false)], args := [d1, d2, d3] }
  | _ => none }
def FnExactResizeWrongFalsely : Prop := fnExactResizeRow.holds Try.pinned (OpenSpec.ofChange fnExactResizeWrong)

/-- 'laws.FnExactDiff': WHATEVER THE INPUT: true; the input reads as it did. -/
def fnExactDiffSpec : ChangeSpec := { name := "fnExactDiff", fn := fun _ => fun
  | [d1, d2] => { results := [.lit (.bool true)], args := [d1, d2] }
  | _ => none }
def fnExactDiffRow : OpenClaim := { program := "ytikkohecanmefaa", sum := "1adacc938c76994bf49c51e5230b0b7b08f6b8f21ef0cc16bf91211933e3c0a2", func := "loop.example/g00455/laws.FnExactDiff", spec := "fnExactDiff", unfollowed := true, recurses := true, apart := false }
def FnExactDiffSaid : Prop := fnExactDiffRow.holds Try.pinned (OpenSpec.ofChange fnExactDiffSpec)

/-- ITS FALSE NEIGHBOUR: 'it returns false'. Refute it at one input. -/
def fnExactDiffWrong : ChangeSpec := { name := "fnExactDiff", fn := fun _ => fun
  | [d1, d2] => { results := [.lit (.bool false)], args := [d1, d2] }
  | _ => none }
def FnExactDiffWrongFalsely : Prop := fnExactDiffRow.holds Try.pinned (OpenSpec.ofChange fnExactDiffWrong)

/- THE SECOND FORM. 'bulk': how many values and letters a reading holds, each counted each time it is reached (what is shared counts as often as it is met; a slice's spare places count too). A statement '..UptoSaid' is the law's where the arguments, and the package variables that the reading takes, are together of bulk at most 1048576: NARROWER than '..Said'. Prove '..Said' where nothing that the law and all that it calls make is longer than what came in: it says more and counts as full. Else prove '..UptoSaid'. A law counts once. -/
mutual
def uptoBulk {H : Type} : DataW H → Nat
  | .lit (.string bytes) => bytes.length + 1
  | .lit _ => 1
  | .nil => 1
  | .ptr d => uptoBulk d + 1
  | .slice elems spare => uptoBulkAll elems + uptoBulkAll spare + 1
  | .agg parts => uptoBulkAll parts + 1
  | .iface _ d => uptoBulk d + 1
  | .map entries => uptoBulkEntries entries + 1
  | .held _ => 1
def uptoBulkAll {H : Type} : List (DataW H) → Nat
  | [] => 0
  | d :: r => uptoBulk d + uptoBulkAll r
def uptoBulkEntries {H : Type} : List (Lit × DataW H) → Nat
  | [] => 0
  | x :: r => uptoBulkEntry x + uptoBulkEntries r
def uptoBulkEntry {H : Type} : Lit × DataW H → Nat
  | (.string bytes, d) => bytes.length + uptoBulk d + 1
  | (_, d) => uptoBulk d + 1
 end
def uptoSmall : (H : Type) → List (DataW H) → Bool := fun _ ds => decide (uptoBulkAll ds ≤ 1048576)
def OpenSpec.upto (s : _root_.Go.ChangeSpec) : _root_.Go.OpenSpec := { _root_.Go.OpenSpec.ofChange s with cond := some uptoSmall }

/-- 'laws.FnExactScreenRight', WHERE WHAT IT READS IS OF BULK AT MOST 1048576: true; the input reads as it did. -/
def fnExactScreenRightUptoRow : OpenClaim := { program := "ytikkohecanmefaa", sum := "1adacc938c76994bf49c51e5230b0b7b08f6b8f21ef0cc16bf91211933e3c0a2", func := "loop.example/g00455/laws.FnExactScreenRight", spec := "fnExactScreenRight", unfollowed := true, recurses := true, apart := false, narrowed := true }
def FnExactScreenRightUptoSaid : Prop := fnExactScreenRightUptoRow.holds Try.pinned (OpenSpec.upto fnExactScreenRightSpec)

/-- 'laws.FnExactScreenNew', WHERE WHAT IT READS IS OF BULK AT MOST 1048576: true; the input reads as it did. -/
def fnExactScreenNewUptoRow : OpenClaim := { program := "ytikkohecanmefaa", sum := "1adacc938c76994bf49c51e5230b0b7b08f6b8f21ef0cc16bf91211933e3c0a2", func := "loop.example/g00455/laws.FnExactScreenNew", spec := "fnExactScreenNew", inPlace := ["internal/bytealg.MakeNoZero"], apart := false, narrowed := true }
def FnExactScreenNewUptoSaid : Prop := fnExactScreenNewUptoRow.holds Try.pinned (OpenSpec.upto fnExactScreenNewSpec)

/-- 'laws.FnExactFeed', WHERE WHAT IT READS IS OF BULK AT MOST 1048576: true; the input reads as it did. -/
def fnExactFeedUptoRow : OpenClaim := { program := "ytikkohecanmefaa", sum := "1adacc938c76994bf49c51e5230b0b7b08f6b8f21ef0cc16bf91211933e3c0a2", func := "loop.example/g00455/laws.FnExactFeed", spec := "fnExactFeed", inPlace := ["internal/bytealg.MakeNoZero"], unfollowed := true, recurses := true, apart := false, narrowed := true }
def FnExactFeedUptoSaid : Prop := fnExactFeedUptoRow.holds Try.pinned (OpenSpec.upto fnExactFeedSpec)

/-- 'laws.FnExactScreenText', WHERE WHAT IT READS IS OF BULK AT MOST 1048576: true; the input reads as it did. -/
def fnExactScreenTextUptoRow : OpenClaim := { program := "ytikkohecanmefaa", sum := "1adacc938c76994bf49c51e5230b0b7b08f6b8f21ef0cc16bf91211933e3c0a2", func := "loop.example/g00455/laws.FnExactScreenText", spec := "fnExactScreenText", unfollowed := true, recurses := true, apart := false, narrowed := true }
def FnExactScreenTextUptoSaid : Prop := fnExactScreenTextUptoRow.holds Try.pinned (OpenSpec.upto fnExactScreenTextSpec)

/-- 'laws.FnExactResize', WHERE WHAT IT READS IS OF BULK AT MOST 1048576: true; the input reads as it did. -/
def fnExactResizeUptoRow : OpenClaim := { program := "ytikkohecanmefaa", sum := "1adacc938c76994bf49c51e5230b0b7b08f6b8f21ef0cc16bf91211933e3c0a2", func := "loop.example/g00455/laws.FnExactResize", spec := "fnExactResize", inPlace := ["internal/bytealg.MakeNoZero"], unfollowed := true, recurses := true, apart := false, narrowed := true }
def FnExactResizeUptoSaid : Prop := fnExactResizeUptoRow.holds Try.pinned (OpenSpec.upto fnExactResizeSpec)

/-- 'laws.FnExactDiff', WHERE WHAT IT READS IS OF BULK AT MOST 1048576: true; the input reads as it did. -/
def fnExactDiffUptoRow : OpenClaim := { program := "ytikkohecanmefaa", sum := "1adacc938c76994bf49c51e5230b0b7b08f6b8f21ef0cc16bf91211933e3c0a2", func := "loop.example/g00455/laws.FnExactDiff", spec := "fnExactDiff", unfollowed := true, recurses := true, apart := false, narrowed := true }
def FnExactDiffUptoSaid : Prop := fnExactDiffUptoRow.holds Try.pinned (OpenSpec.upto fnExactDiffSpec)

end Rows
end Go.Proofs.Ytikkohecanmefaa
