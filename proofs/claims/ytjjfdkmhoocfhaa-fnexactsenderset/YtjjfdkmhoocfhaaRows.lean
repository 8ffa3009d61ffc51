/-
  No cell of these rows narrows 'for every input' (looked for: loops, veiled, ifaces, maps, wideKeys, modest, calm, conditions, laid).
  DERIVED. THE GIVEN ROWS OF THIS SEAT. 6 by the template 'for every input the law returns true; each argument reads behind the call as it read before'; 0 by the template 'total and deterministic' (their statements: YtjjfdkmhoocfhaaTotals.lean).
  GIVEN WITH THE SEED: the statements are not yours to turn. If you find one false, say at which input.
  Laid BY PROGRAM, IN A SANDBOX (cutbox-rows.mjs): the forced cells as the released guide's own fill.sh prints them over the translation f29d3745c80ab2de… (all of the seat's roots in one cut). By AI agents, Wed Nov 11 2026. No macro, syntax, notation, axiom, sorry.
-/
import Derived.Test.YtjjfdkmhoocfhaaChecked
import GoSem.Claim
import GoSem.ClaimJoined
import GoSem.ClaimMapViews
import Derived.JoinedTies
import Derived.KernelRfl
namespace Go.Proofs.Ytjjfdkmhoocfhaa
/- THE CELL 'sum', in the pinned program and in every row, IS THE sha256 OF THE DUMP (.gsa) THAT YtjjfdkmhoocfhaaProg.lean LOADS. Nothing in Lean hashes anything: it is a label: what it is worth is what the hold of that sum in a sandbox is worth. -/
noncomputable def Try.pinned : Pinned := { name := "ytjjfdkmhoocfhaa", sum := "f29d3745c80ab2defd51d4321573607b497574af959a07a0582873d923bd42f7", checked := Try.checked }
namespace Rows
def none {H : Type} : Left H := { results := [], args := [] }

/-- 'laws.FnExactDeltaOf': WHATEVER THE INPUT: true; the input reads as it did. -/
def fnExactDeltaOfSpec : ChangeSpec := { name := "fnExactDeltaOf", fn := fun _ => fun
  | [d1, d2] => { results := [.lit (.bool true)], args := [d1, d2] }
  | _ => none }
def fnExactDeltaOfRow : OpenClaim := { program := "ytjjfdkmhoocfhaa", sum := "f29d3745c80ab2defd51d4321573607b497574af959a07a0582873d923bd42f7", func := "loop.example/g00455/laws.FnExactDeltaOf", spec := "fnExactDeltaOf", apart := false }
def FnExactDeltaOfSaid : Prop := fnExactDeltaOfRow.holds Try.pinned (OpenSpec.ofChange fnExactDeltaOfSpec)

/-- ITS FALSE NEIGHBOUR: 'it returns false'. Refute it at one input. -/
def fnExactDeltaOfWrong : ChangeSpec := { name := "fnExactDeltaOf", fn := fun _ => fun
  | [d1, d2] => { results := [.lit (.bool false)], args := [d1, d2] }
  | _ => none }
def FnExactDeltaOfWrongFalsely : Prop := fnExactDeltaOfRow.holds Try.pinned (OpenSpec.ofChange fnExactDeltaOfWrong)

/-- 'laws.FnExactDeltaOn': WHATEVER THE INPUT: true; the input reads as it did. -/
def fnExactDeltaOnSpec : ChangeSpec := { name := "fnExactDeltaOn", fn := fun _ => fun
  | [d1, d2] => { results := [.lit (.bool true)], args := [d1, d2] }
  | _ => none }
def fnExactDeltaOnRow : OpenClaim := { program := "ytjjfdkmhoocfhaa", sum := "f29d3745c80ab2defd51d4321573607b497574af959a07a0582873d923bd42f7", func := "loop.example/g00455/laws.FnExactDeltaOn", spec := "fnExactDeltaOn", apart := false }
def FnExactDeltaOnSaid : Prop := fnExactDeltaOnRow.holds Try.pinned (OpenSpec.ofChange fnExactDeltaOnSpec)

/-- ITS FALSE NEIGHBOUR: 'it returns false'. Refute it at one input. -/
def fnExactDeltaOnWrong : ChangeSpec := { name := "fnExactDeltaOn", fn := fun _ => fun
  | [d1, d2] => { results := [.lit (.bool false)], args := [d1, d2] }
  | _ => none }
def FnExactDeltaOnWrongFalsely : Prop := fnExactDeltaOnRow.holds Try.pinned (OpenSpec.ofChange fnExactDeltaOnWrong)

/-- 'laws.FnExactSenderRight': WHATEVER THE INPUT: true; the input reads as it did. -/
def fnExactSenderRightSpec : ChangeSpec := { name := "fnExactSenderRight", fn := fun _ => fun
  | [d] => { results := [.lit (.bool true)], args := [d] }
  | _ => none }
def fnExactSenderRightRow : OpenClaim := { program := "ytjjfdkmhoocfhaa", sum := "f29d3745c80ab2defd51d4321573607b497574af959a07a0582873d923bd42f7", func := "loop.example/g00455/laws.FnExactSenderRight", spec := "fnExactSenderRight", apart := false }
def FnExactSenderRightSaid : Prop := fnExactSenderRightRow.holds Try.pinned (OpenSpec.ofChange fnExactSenderRightSpec)

/-- ITS FALSE NEIGHBOUR: 'it returns false'. Refute it at one input. -/
def fnExactSenderRightWrong : ChangeSpec := { name := "fnExactSenderRight", fn := fun _ => fun
  | [d] => { results := [.lit (.bool false)], args := [d] }
  | _ => none }
def FnExactSenderRightWrongFalsely : Prop := fnExactSenderRightRow.holds Try.pinned (OpenSpec.ofChange fnExactSenderRightWrong)

/-- 'laws.FnExactSenderNew': WHATEVER THE INPUT: true; the input reads as it did. -/
def fnExactSenderNewSpec : ChangeSpec := { name := "fnExactSenderNew", fn := fun _ => fun
  | [d] => { results := [.lit (.bool true)], args := [d] }
  | _ => none }
def fnExactSenderNewRow : OpenClaim := { program := "ytjjfdkmhoocfhaa", sum := "f29d3745c80ab2defd51d4321573607b497574af959a07a0582873d923bd42f7", func := "loop.example/g00455/laws.FnExactSenderNew", spec := "fnExactSenderNew", apart := false }
def FnExactSenderNewSaid : Prop := fnExactSenderNewRow.holds Try.pinned (OpenSpec.ofChange fnExactSenderNewSpec)

/-- ITS FALSE NEIGHBOUR: 'it returns false'. Refute it at one input. -/
def fnExactSenderNewWrong : ChangeSpec := { name := "fnExactSenderNew", fn := fun _ => fun
  | [d] => { results := [.lit (.bool false)], args := [d] }
  | _ => none }
def FnExactSenderNewWrongFalsely : Prop := fnExactSenderNewRow.holds Try.pinned (OpenSpec.ofChange fnExactSenderNewWrong)

/-- 'laws.FnExactSenderSet': WHATEVER THE INPUT: true; the input reads as it did. -/
def fnExactSenderSetSpec : ChangeSpec := { name := "fnExactSenderSet", fn := fun _ => fun
  | [d1, d2] => { results := [.lit (.bool true)], args := [d1, d2] }
  | _ => none }
def fnExactSenderSetRow : OpenClaim := { program := "ytjjfdkmhoocfhaa", sum := "f29d3745c80ab2defd51d4321573607b497574af959a07a0582873d923bd42f7", func := "loop.example/g00455/laws.FnExactSenderSet", spec := "fnExactSenderSet", apart := false }
def FnExactSenderSetSaid : Prop := fnExactSenderSetRow.holds Try.pinned (OpenSpec.ofChange fnExactSenderSetSpec)

/-- ITS FALSE NEIGHBOUR: 'it returns false'. Refute it at one input. -/
def fnExactSenderSetWrong : ChangeSpec := { name := "fnExactSenderSet", fn := fun _ => fun
  | [d1, d2] => { results := [.lit (.bool false)], args := [d1, d2] }
  | _ => none }
def FnExactSenderSetWrongFalsely : Prop := fnExactSenderSetRow.holds Try.pinned (OpenSpec.ofChange fnExactSenderSetWrong)

/-- 'laws.FnExactSenderSay': WHATEVER THE INPUT: true; the input reads as it did. -/
def fnExactSenderSaySpec : ChangeSpec := { name := "fnExactSenderSay", fn := fun _ => fun
  | [d] => { results := [.lit (.bool true)], args := [d] }
  | _ => none }
def fnExactSenderSayRow : OpenClaim := { program := "ytjjfdkmhoocfhaa", sum := "f29d3745c80ab2defd51d4321573607b497574af959a07a0582873d923bd42f7", func := "loop.example/g00455/laws.FnExactSenderSay", spec := "fnExactSenderSay", apart := false }
def FnExactSenderSaySaid : Prop := fnExactSenderSayRow.holds Try.pinned (OpenSpec.ofChange fnExactSenderSaySpec)

/-- ITS FALSE NEIGHBOUR: 'it returns false'. Refute it at one input. -/
def fnExactSenderSayWrong : ChangeSpec := { name := "fnExactSenderSay", fn := fun _ => fun
  | [d] => { results := [.lit (.bool false)], args := [d] }
  | _ => none }
def FnExactSenderSayWrongFalsely : Prop := fnExactSenderSayRow.holds Try.pinned (OpenSpec.ofChange fnExactSenderSayWrong)

/- THE SECOND FORM. 'bulk': how many values and letters a reading holds, each counted each time it is reached (what is shared counts as often as it is met; a slice's spare places count too). A statement '..UptoSaid' is the law's where the arguments, and the package variables that the reading takes, are together of bulk at most 1048576: NARROWER than '..Said'. Prove '..Said' where nothing that the law and all that it calls make is longer than what came in: it says more and counts as full. Else prove '..UptoSaid'. A law counts once. -/
mutual
def uptoBulk {H : Type} : DataW H → Nat
  | .lit (.string bytes) => bytes.length + 1
  | .lit _ => 1
  | .nil => 1
  | .ptr d => uptoBulk d + 1
  | .slice elems spare => uptoBulkAll elems + uptoBulkAll spare + 1
  | .agg parts => uptoBulkAll parts + 1
  | .iface _ d => uptoBulk d + 1
  | .map entries => uptoBulkEntries entries + 1
  | .held _ => 1
def uptoBulkAll {H : Type} : List (DataW H) → Nat
  | [] => 0
  | d :: r => uptoBulk d + uptoBulkAll r
def uptoBulkEntries {H : Type} : List (Lit × DataW H) → Nat
  | [] => 0
  | x :: r => uptoBulkEntry x + uptoBulkEntries r
def uptoBulkEntry {H : Type} : Lit × DataW H → Nat
  | (.string bytes, d) => bytes.length + uptoBulk d + 1
  | (_, d) => uptoBulk d + 1
 end
def uptoSmall : (H : Type) → List (DataW H) → Bool := fun _ ds => decide (uptoBulkAll ds ≤ 1048576)
def OpenSpec.upto (s : _root_.Go.ChangeSpec) : _root_.Go.OpenSpec := { _root_.Go.OpenSpec.ofChange s with cond := some uptoSmall }

/-- 'laws.FnExactDeltaOf', WHERE WHAT IT READS IS OF BULK AT MOST 1048576: true; the input reads as it did. -/
def fnExactDeltaOfUptoRow : OpenClaim := { program := "ytjjfdkmhoocfhaa", sum := "f29d3745c80ab2defd51d4321573607b497574af959a07a0582873d923bd42f7", func := "loop.example/g00455/laws.FnExactDeltaOf", spec := "fnExactDeltaOf", apart := false, narrowed := true }
def FnExactDeltaOfUptoSaid : Prop := fnExactDeltaOfUptoRow.holds Try.pinned (OpenSpec.upto fnExactDeltaOfSpec)

/-- 'laws.FnExactDeltaOn', WHERE WHAT IT READS IS OF BULK AT MOST 1048576: true; the input reads as it did. -/
def fnExactDeltaOnUptoRow : OpenClaim := { program := "ytjjfdkmhoocfhaa", sum := "f29d3745c80ab2defd51d4321573607b497574af959a07a0582873d923bd42f7", func := "loop.example/g00455/laws.FnExactDeltaOn", spec := "fnExactDeltaOn", apart := false, narrowed := true }
def FnExactDeltaOnUptoSaid : Prop := fnExactDeltaOnUptoRow.holds Try.pinned (OpenSpec.upto fnExactDeltaOnSpec)

/-- 'laws.FnExactSenderRight', WHERE WHAT IT READS IS OF BULK AT MOST 1048576: true; the input reads as it did. -/
def fnExactSenderRightUptoRow : OpenClaim := { program := "ytjjfdkmhoocfhaa", sum := "f29d3745c80ab2defd51d4321573607b497574af959a07a0582873d923bd42f7", func := "loop.example/g00455/laws.FnExactSenderRight", spec := "fnExactSenderRight", apart := false, narrowed := true }
def FnExactSenderRightUptoSaid : Prop := fnExactSenderRightUptoRow.holds Try.pinned (OpenSpec.upto fnExactSenderRightSpec)

/-- 'laws.FnExactSenderNew', WHERE WHAT IT READS IS OF BULK AT MOST 1048576: true; the input reads as it did. -/
def fnExactSenderNewUptoRow : OpenClaim := { program := "ytjjfdkmhoocfhaa", sum := "f29d3745c80ab2defd51d4321573607b497574af959a07a0582873d923bd42f7", func := "loop.example/g00455/laws.FnExactSenderNew", spec := "fnExactSenderNew", apart := false, narrowed := true }
def FnExactSenderNewUptoSaid : Prop := fnExactSenderNewUptoRow.holds Try.pinned (OpenSpec.upto fnExactSenderNewSpec)

/-- 'laws.FnExactSenderSet', WHERE WHAT IT READS IS OF BULK AT MOST 1048576: true; the input reads as it did. -/
def fnExactSenderSetUptoRow : OpenClaim := { program := "ytjjfdkmhoocfhaa", sum := "f29d3745c80ab2defd51d4321573607b497574af959a07a0582873d923bd42f7", func := "loop.example/g00455/laws.FnExactSenderSet", spec := "fnExactSenderSet", apart := false, narrowed := true }
def FnExactSenderSetUptoSaid : Prop := fnExactSenderSetUptoRow.holds Try.pinned (OpenSpec.upto fnExactSenderSetSpec)

/-- 'laws.FnExactSenderSay', WHERE WHAT IT READS IS OF BULK AT MOST 1048576: true; the input reads as it did. -/
def fnExactSenderSayUptoRow : OpenClaim := { program := "ytjjfdkmhoocfhaa", sum := "f29d3745c80ab2defd51d4321573607b497574af959a07a0582873d923bd42f7", func := "loop.example/g00455/laws.FnExactSenderSay", spec := "fnExactSenderSay", apart := false, narrowed := true }
def FnExactSenderSayUptoSaid : Prop := fnExactSenderSayUptoRow.holds Try.pinned (OpenSpec.upto fnExactSenderSaySpec)

end Rows
end Go.Proofs.Ytjjfdkmhoocfhaa
