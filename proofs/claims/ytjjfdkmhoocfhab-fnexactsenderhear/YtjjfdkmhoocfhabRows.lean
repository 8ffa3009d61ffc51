/-
  No cell of these rows narrows 'for every input' (looked for: loops, veiled, ifaces, maps, wideKeys, modest, calm, conditions, laid).
  DERIVED. THE GIVEN ROWS OF THIS SEAT. 3 by the template 'for every input the law returns true; each argument reads behind the call as it read before'; 0 by the template 'total and deterministic' (their statements: YtjjfdkmhoocfhabTotals.lean).
  GIVEN WITH THE SEED: the statements are not yours to turn. If you find one false, say at which input.
  Laid BY PROGRAM, IN A SANDBOX (cutbox-rows.mjs): the forced cells as the released guide's own fill.sh prints them over the translation 318d4a75fb74a6a6… (all of the seat's roots in one cut). By AI agents, Wed Nov 11 2026. No macro, syntax, notation, axiom, sorry.
-/
import Derived.Test.YtjjfdkmhoocfhabChecked
import GoSem.Claim
import GoSem.ClaimJoined
import GoSem.ClaimMapViews
import Derived.JoinedTies
import Derived.KernelRfl
namespace Go.Proofs.Ytjjfdkmhoocfhab
/- THE CELL 'sum', in the pinned program and in every row, IS THE sha256 OF THE DUMP (.gsa) THAT YtjjfdkmhoocfhabProg.lean LOADS. Nothing in Lean hashes anything: it is a label: what it is worth is what the hold of that sum in a sandbox is worth. -/
noncomputable def Try.pinned : Pinned := { name := "ytjjfdkmhoocfhab", sum := "318d4a75fb74a6a63c250ce3d0ef6e6d74381ace9f61ab0c4e6c2adac1400e12", checked := Try.checked }
namespace Rows
def none {H : Type} : Left H := { results := [], args := [] }

/-- 'laws.FnExactSenderHear': WHATEVER THE INPUT: true; the input reads as it did. -/
def fnExactSenderHearSpec : ChangeSpec := { name := "fnExactSenderHear", fn := fun _ => fun
  | [d1, d2] => { results := [.lit (.bool true)], args := [d1, d2] }
  | _ => none }
def fnExactSenderHearRow : OpenClaim := { program := "ytjjfdkmhoocfhab", sum := "318d4a75fb74a6a63c250ce3d0ef6e6d74381ace9f61ab0c4e6c2adac1400e12", func := "loop.example/g00455/laws.FnExactSenderHear", spec := "fnExactSenderHear", unfollowed := true, recurses := true, apart := false }
def FnExactSenderHearSaid : Prop := fnExactSenderHearRow.holds Try.pinned (OpenSpec.ofChange fnExactSenderHearSpec)

/-- ITS FALSE NEIGHBOUR: 'it returns false'. Refute it at one input. -/
def fnExactSenderHearWrong : ChangeSpec := { name := "fnExactSenderHear", fn := fun _ => fun
  | [d1, d2] => { results := [.lit (.bool false)], args := [d1, d2] }
  | _ => none }
def FnExactSenderHearWrongFalsely : Prop := fnExactSenderHearRow.holds Try.pinned (OpenSpec.ofChange fnExactSenderHearWrong)

/-- 'laws.FnExactReceiverHear': WHATEVER THE INPUT: true; the input reads as it did. -/
def fnExactReceiverHearSpec : ChangeSpec := { name := "fnExactReceiverHear", fn := fun _ => fun
  | [d1, d2] => { results := [.lit (.bool true)], args := [d1, d2] }
  | _ => none }
def fnExactReceiverHearRow : OpenClaim := { program := "ytjjfdkmhoocfhab", sum := "318d4a75fb74a6a63c250ce3d0ef6e6d74381ace9f61ab0c4e6c2adac1400e12", func := "loop.example/g00455/laws.FnExactReceiverHear", spec := "fnExactReceiverHear", apart := false }
def FnExactReceiverHearSaid : Prop := fnExactReceiverHearRow.holds Try.pinned (OpenSpec.ofChange fnExactReceiverHearSpec)

/-- ITS FALSE NEIGHBOUR: 'it returns false'. Refute it at one input. -/
def fnExactReceiverHearWrong : ChangeSpec := { name := "fnExactReceiverHear", fn := fun _ => fun
  | [d1, d2] => { results := [.lit (.bool false)], args := [d1, d2] }
  | _ => none }
def FnExactReceiverHearWrongFalsely : Prop := fnExactReceiverHearRow.holds Try.pinned (OpenSpec.ofChange fnExactReceiverHearWrong)

/-- 'laws.FnExactSettled': WHATEVER THE INPUT: true; the input reads as it did. -/
def fnExactSettledSpec : ChangeSpec := { name := "fnExactSettled", fn := fun _ => fun
  | [d1, d2] => { results := [.lit (.bool true)], args := [d1, d2] }
  | _ => none }
def fnExactSettledRow : OpenClaim := { program := "ytjjfdkmhoocfhab", sum := "318d4a75fb74a6a63c250ce3d0ef6e6d74381ace9f61ab0c4e6c2adac1400e12", func := "loop.example/g00455/laws.FnExactSettled", spec := "fnExactSettled", apart := false }
def FnExactSettledSaid : Prop := fnExactSettledRow.holds Try.pinned (OpenSpec.ofChange fnExactSettledSpec)

/-- ITS FALSE NEIGHBOUR: 'it returns false'. Refute it at one input. -/
def fnExactSettledWrong : ChangeSpec := { name := "fnExactSettled", fn := fun _ => fun
  | [d1, d2] => { results := [.lit (.bool false)], args := [d1, d2] }
  | _ => none }
def FnExactSettledWrongFalsely : Prop := fnExactSettledRow.holds Try.pinned (OpenSpec.ofChange fnExactSettledWrong)

/- THE SECOND FORM. 'bulk': how many values and letters a reading holds, each counted each time it is reached (what is shared counts as often as it is met; a slice's spare places count too). A statement '..UptoSaid' is the law's where the arguments, and the package variables that the reading takes, are together of bulk at most 1048576: NARROWER than '..Said'. Prove '..Said' where nothing that the law and all that it calls make is longer than what came in: it says more and counts as full. Else prove '..UptoSaid'. A law counts once. -/
mutual
def uptoBulk {H : Type} : DataW H → Nat
  | .lit (.string bytes) => bytes.length + 1
  | .lit _ => 1
  | .nil => 1
  | .ptr d => uptoBulk d + 1
  | .slice elems spare => uptoBulkAll elems + uptoBulkAll spare + 1
  | .agg parts => uptoBulkAll parts + 1
  | .iface _ d => uptoBulk d + 1
  | .map entries => uptoBulkEntries entries + 1
  | .held _ => 1
def uptoBulkAll {H : Type} : List (DataW H) → Nat
  | [] => 0
  | d :: r => uptoBulk d + uptoBulkAll r
def uptoBulkEntries {H : Type} : List (Lit × DataW H) → Nat
  | [] => 0
  | x :: r => uptoBulkEntry x + uptoBulkEntries r
def uptoBulkEntry {H : Type} : Lit × DataW H → Nat
  | (.string bytes, d) => bytes.length + uptoBulk d + 1
  | (_, d) => uptoBulk d + 1
 end
def uptoSmall : (H : Type) → List (DataW H) → Bool := fun _ ds => decide (uptoBulkAll ds ≤ 1048576)
def OpenSpec.upto (s : _root_.Go.ChangeSpec) : _root_.Go.OpenSpec := { _root_.Go.OpenSpec.ofChange s with cond := some uptoSmall }

/-- 'laws.FnExactSenderHear', WHERE WHAT IT READS IS OF BULK AT MOST 1048576: true; the input reads as it did. -/
def fnExactSenderHearUptoRow : OpenClaim := { program := "ytjjfdkmhoocfhab", sum := "318d4a75fb74a6a63c250ce3d0ef6e6d74381ace9f61ab0c4e6c2adac1400e12", func := "loop.example/g00455/laws.FnExactSenderHear", spec := "fnExactSenderHear", unfollowed := true, recurses := true, apart := false, narrowed := true }
def FnExactSenderHearUptoSaid : Prop := fnExactSenderHearUptoRow.holds Try.pinned (OpenSpec.upto fnExactSenderHearSpec)

/-- 'laws.FnExactReceiverHear', WHERE WHAT IT READS IS OF BULK AT MOST 1048576: true; the input reads as it did. -/
def fnExactReceiverHearUptoRow : OpenClaim := { program := "ytjjfdkmhoocfhab", sum := "318d4a75fb74a6a63c250ce3d0ef6e6d74381ace9f61ab0c4e6c2adac1400e12", func := "loop.example/g00455/laws.FnExactReceiverHear", spec := "fnExactReceiverHear", apart := false, narrowed := true }
def FnExactReceiverHearUptoSaid : Prop := fnExactReceiverHearUptoRow.holds Try.pinned (OpenSpec.upto fnExactReceiverHearSpec)

/-- 'laws.FnExactSettled', WHERE WHAT IT READS IS OF BULK AT MOST 1048576: true; the input reads as it did. -/
def fnExactSettledUptoRow : OpenClaim := { program := "ytjjfdkmhoocfhab", sum := "318d4a75fb74a6a63c250ce3d0ef6e6d74381ace9f61ab0c4e6c2adac1400e12", func := "loop.example/g00455/laws.FnExactSettled", spec := "fnExactSettled", apart := false, narrowed := true }
def FnExactSettledUptoSaid : Prop := fnExactSettledUptoRow.holds Try.pinned (OpenSpec.upto fnExactSettledSpec)

end Rows
end Go.Proofs.Ytjjfdkmhoocfhab
