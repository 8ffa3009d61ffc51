/-
  No cell of these rows narrows 'for every input' (looked for: loops, veiled, ifaces, maps, wideKeys, modest, calm, conditions, laid).
  DERIVED. THE GIVEN ROWS OF THIS SEAT. 3 by the template 'for every input the law returns true; each argument reads behind the call as it read before'; 0 by the template 'total and deterministic' (their statements: YtikkohecanmefabTotals.lean).
  GIVEN WITH THE SEED: the statements are not yours to turn. If you find one false, say at which input.
  Laid BY PROGRAM, IN A SANDBOX (cutbox-rows.mjs): the forced cells as the released guide's own fill.sh prints them over the translation 8f7536f41d036dec… (all of the seat's roots in one cut). By AI agents, Wed Nov 11 2026. No macro, syntax, notation, axiom, sorry.
-/
import Derived.Test.YtikkohecanmefabChecked
import GoSem.Claim
import GoSem.ClaimJoined
import GoSem.ClaimMapViews
import Derived.JoinedTies
import Derived.KernelRfl
namespace Go.Proofs.Ytikkohecanmefab
/- THE CELL 'sum', in the pinned program and in every row, IS THE sha256 OF THE DUMP (.gsa) THAT YtikkohecanmefabProg.lean LOADS. Nothing in Lean hashes anything: it is a label: what it is worth is what the hold of that sum in a sandbox is worth. -/
noncomputable def Try.pinned : Pinned := { name := "ytikkohecanmefab", sum := "8f7536f41d036dec6083b2d7796ed605c8e018d78d31866a36d1ef3e2b89a13d", checked := Try.checked }
namespace Rows
def none {H : Type} : Left H := { results := [], args := [] }

/-- 'laws.FnExactPatchOn': WHATEVER THE INPUT: true; the input reads as it did. -/
def fnExactPatchOnSpec : ChangeSpec := { name := "fnExactPatchOn", fn := fun _ => fun
  | [d1, d2] => { results := [.lit (.bool true)], args := [d1, d2] }
  | _ => none }
def fnExactPatchOnRow : OpenClaim := { program := "ytikkohecanmefab", sum := "8f7536f41d036dec6083b2d7796ed605c8e018d78d31866a36d1ef3e2b89a13d", func := "loop.example/g00455/laws.FnExactPatchOn", spec := "fnExactPatchOn", inPlace := ["internal/bytealg.MakeNoZero"], unfollowed := true, recurses := true, apart := false }
def FnExactPatchOnSaid : Prop := fnExactPatchOnRow.holds Try.pinned (OpenSpec.ofChange fnExactPatchOnSpec)

/-- ITS FALSE NEIGHBOUR: 'it returns false'. Refute it at one input. -/
def fnExactPatchOnWrong : ChangeSpec := { name := "fnExactPatchOn", fn := fun _ => fun
  | [d1, d2] => { results := [.lit (.bool false)], args := [d1, d2] }
  | _ => none }
def FnExactPatchOnWrongFalsely : Prop := fnExactPatchOnRow.holds Try.pinned (OpenSpec.ofChange fnExactPatchOnWrong)

/-- 'laws.FnExactPatchBytes': WHATEVER THE INPUT: true; the input reads as it did. -/
def fnExactPatchBytesSpec : ChangeSpec := { name := "fnExactPatchBytes", fn := fun _ => fun
  | [d] => { results := [.lit (.bool true)], args := [d] }
  | _ => none }
def fnExactPatchBytesRow : OpenClaim := { program := "ytikkohecanmefab", sum := "8f7536f41d036dec6083b2d7796ed605c8e018d78d31866a36d1ef3e2b89a13d", func := "loop.example/g00455/laws.FnExactPatchBytes", spec := "fnExactPatchBytes", apart := false }
def FnExactPatchBytesSaid : Prop := fnExactPatchBytesRow.holds Try.pinned (OpenSpec.ofChange fnExactPatchBytesSpec)

/-- ITS FALSE NEIGHBOUR: 'it returns false'. Refute it at one input. -/
def fnExactPatchBytesWrong : ChangeSpec := { name := "fnExactPatchBytes", fn := fun _ => fun
  | [d] => { results := [.lit (.bool false)], args := [d] }
  | _ => none }
def FnExactPatchBytesWrongFalsely : Prop := fnExactPatchBytesRow.holds Try.pinned (OpenSpec.ofChange fnExactPatchBytesWrong)

/-- 'laws.FnExactPatchRead': WHATEVER THE INPUT: true; the input reads as it did. -/
def fnExactPatchReadSpec : ChangeSpec := { name := "fnExactPatchRead", fn := fun _ => fun
  | [d] => { results := [.lit (.bool true)], args := [d] }
  | _ => none }
def fnExactPatchReadRow : OpenClaim := { program := "ytikkohecanmefab", sum := "8f7536f41d036dec6083b2d7796ed605c8e018d78d31866a36d1ef3e2b89a13d", func := "loop.example/g00455/laws.FnExactPatchRead", spec := "fnExactPatchRead", apart := false }
def FnExactPatchReadSaid : Prop := fnExactPatchReadRow.holds Try.pinned (OpenSpec.ofChange fnExactPatchReadSpec)

/-- ITS FALSE NEIGHBOUR: 'it returns false'. Refute it at one input. -/
def fnExactPatchReadWrong : ChangeSpec := { name := "fnExactPatchRead", fn := fun _ => fun
  | [d] => { results := [.lit (.bool false)], args := [d] }
  | _ => none }
def FnExactPatchReadWrongFalsely : Prop := fnExactPatchReadRow.holds Try.pinned (OpenSpec.ofChange fnExactPatchReadWrong)

/- THE SECOND FORM. 'bulk': how many values and letters a reading holds, each counted each time it is reached (what is shared counts as often as it is met; a slice's spare places count too). A statement '..UptoSaid' is the law's where the arguments, and the package variables that the reading takes, are together of bulk at most 1048576: NARROWER than '..Said'. Prove '..Said' where nothing that the law and all that it calls make is longer than what came in: it says more and counts as full. Else prove '..UptoSaid'. A law counts once. -/
mutual
def uptoBulk {H : Type} : DataW H → Nat
  | .lit (.string bytes) => bytes.length + 1
  | .lit _ => 1
  | .nil => 1
  | .ptr d => uptoBulk d + 1
  | .slice elems spare => uptoBulkAll elems + uptoBulkAll spare + 1
  | .agg parts => uptoBulkAll parts + 1
  | .iface _ d => uptoBulk d + 1
  | .map entries => uptoBulkEntries entries + 1
  | .held _ => 1
def uptoBulkAll {H : Type} : List (DataW H) → Nat
  | [] => 0
  | d :: r => uptoBulk d + uptoBulkAll r
def uptoBulkEntries {H : Type} : List (Lit × DataW H) → Nat
  | [] => 0
  | x :: r => uptoBulkEntry x + uptoBulkEntries r
def uptoBulkEntry {H : Type} : Lit × DataW H → Nat
  | (.string bytes, d) => bytes.length + uptoBulk d + 1
  | (_, d) => uptoBulk d + 1
 end
def uptoSmall : (H : Type) → List (DataW H) → Bool := fun _ ds => decide (uptoBulkAll ds ≤ 1048576)
def OpenSpec.upto (s : _root_.Go.ChangeSpec) : _root_.Go.OpenSpec := { _root_.Go.OpenSpec.ofChange s with cond := some uptoSmall }

/-- 'laws.FnExactPatchOn', WHERE WHAT IT READS IS OF BULK AT MOST 1048576: true; the input reads as it did. -/
def fnExactPatchOnUptoRow : OpenClaim := { program := "ytikkohecanmefab", sum := "8f7536f41d036dec6083b2d7796ed605c8e018d78d31866a36d1ef3e2b89a13d", func := "loop.example/g00455/laws.FnExactPatchOn", spec := "fnExactPatchOn", inPlace := ["internal/bytealg.MakeNoZero"], unfollowed := true, recurses := true, apart := false, narrowed := true }
def FnExactPatchOnUptoSaid : Prop := fnExactPatchOnUptoRow.holds Try.pinned (OpenSpec.upto fnExactPatchOnSpec)

/-- 'laws.FnExactPatchBytes', WHERE WHAT IT READS IS OF BULK AT MOST 1048576: true; the input reads as it did. -/
def fnExactPatchBytesUptoRow : OpenClaim := { program := "ytikkohecanmefab", sum := "8f7536f41d036dec6083b2d7796ed605c8e018d78d31866a36d1ef3e2b89a13d", func := "loop.example/g00455/laws.FnExactPatchBytes", spec := "fnExactPatchBytes", apart := false, narrowed := true }
def FnExactPatchBytesUptoSaid : Prop := fnExactPatchBytesUptoRow.holds Try.pinned (OpenSpec.upto fnExactPatchBytesSpec)

/-- 'laws.FnExactPatchRead', WHERE WHAT IT READS IS OF BULK AT MOST 1048576: true; the input reads as it did. -/
def fnExactPatchReadUptoRow : OpenClaim := { program := "ytikkohecanmefab", sum := "8f7536f41d036dec6083b2d7796ed605c8e018d78d31866a36d1ef3e2b89a13d", func := "loop.example/g00455/laws.FnExactPatchRead", spec := "fnExactPatchRead", apart := false, narrowed := true }
def FnExactPatchReadUptoSaid : Prop := fnExactPatchReadUptoRow.holds Try.pinned (OpenSpec.upto fnExactPatchReadSpec)

end Rows
end Go.Proofs.Ytikkohecanmefab
