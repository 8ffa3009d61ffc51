/-
  NARROWER THAN 'FOR EVERY INPUT', by the rows' own cells (each row's printed sentence says how): FnWindow: ifaces, laid.
  DERIVED. THE GIVEN ROWS OF THIS SEAT. 1 by the template 'for every input the law returns true; each argument reads behind the call as it read before'; 0 by the template 'total and deterministic' (their statements: YtodcjhckkbmikaaDoorTotals.lean).
  GIVEN WITH THE SEED: the statements are not yours to turn. If you find one false, say at which input.
  Laid BY PROGRAM, IN A SANDBOX (cutbox-rows.mjs): the forced cells as the released guide's own fill.sh prints them over the translation 1005bc8ec633cb3f… (all of the seat's roots in one cut). By AI agents, Wed Nov 11 2026. No macro, syntax, notation, axiom, sorry.
-/
import Derived.Test.YtodcjhckkbmikaaDoorChecked
import GoSem.Claim
import GoSem.ClaimJoined
import GoSem.ClaimMapViews
import Derived.JoinedTies
import Derived.KernelRfl
namespace Go.Proofs.YtodcjhckkbmikaaDoor
/- THE CELL 'sum', in the pinned program and in every row, IS THE sha256 OF THE DUMP (.gsa) THAT YtodcjhckkbmikaaDoorProg.lean LOADS. Nothing in Lean hashes anything: it is a label: what it is worth is what the hold of that sum in a sandbox is worth. -/
noncomputable def Tryd.pinned : Pinned := { name := "ytodcjhckkbmikaadoor", sum := "1005bc8ec633cb3f3c721f65c3fdcef3bebb14a97d3593ee422a5ee36609d276", checked := Tryd.checked }
namespace Rows
def none {H : Type} : Left H := { results := [], args := [] }

/- WHAT THE LISTED PACKAGE-LEVEL VARIABLES READ AS WHEN THE CALL BEGINS. Each datum BY PROGRAM (the guide's laid-datum.mjs) off the statement by which the dump's own 'gosem.cut.vars' lays the variable. In a bare row this is a premise. The card (YtodcjhckkbmikaaDoorCards.lean) ties it to the program's text. -/
def laid_errors_errorType {H : Type} : DataW H := .iface "internal/reflectlite.rtype" (.agg [.ptr (.lit (.string [101, 114, 114, 111, 114]))])
def laid_loop_example_g00455_impl_errNotRight {H : Type} : DataW H := .iface "*errors.errorString" (.ptr (.agg [.lit (.string [105, 116, 32, 105, 115, 32, 110, 111, 116, 32, 114, 105, 103, 104, 116])]))
def laid_loop_example_g00455_impl_errNoGram {H : Type} : DataW H := .iface "*errors.errorString" (.ptr (.agg [.lit (.string [110, 111, 32, 114, 105, 103, 104, 116, 32, 103, 114, 97, 109, 32, 104, 97, 115, 32, 116, 104, 105, 115, 32, 110, 117, 109, 98, 101, 114])]))
def laid_loop_example_g00455_impl_errTooOld {H : Type} : DataW H := .iface "*errors.errorString" (.ptr (.agg [.lit (.string [105, 116, 32, 105, 115, 32, 116, 111, 111, 32, 111, 108, 100])]))
def laid_loop_example_g00455_impl_errTaken {H : Type} : DataW H := .iface "*errors.errorString" (.ptr (.agg [.lit (.string [105, 116, 32, 119, 97, 115, 32, 116, 97, 107, 101, 110, 32, 97, 108, 114, 101, 97, 100, 121])]))

/-- 'laws.FnWindow': WHATEVER THE INPUT: true; the input reads as it did. -/
def fnWindowSpec : ChangeSpec := { name := "fnWindow", vars := ["loop.example/g00455/impl.errNotRight", "loop.example/g00455/impl.errTooOld", "loop.example/g00455/impl.errTaken", "loop.example/g00455/impl.errNoGram"], fn := fun _ => fun
  | [d1, d2, g1, g2, g3, g4] => { results := [.lit (.bool true)], args := [d1, d2], vars := [g1, g2, g3, g4] }
  | _ => none }
def fnWindowRow : OpenClaim := { program := "ytodcjhckkbmikaadoor", sum := "1005bc8ec633cb3f3c721f65c3fdcef3bebb14a97d3593ee422a5ee36609d276", func := "loop.example/g00455/laws.FnWindow", spec := "fnWindow", inPlace := ["internal/reflectlite.TypeOf", "internal/reflectlite.ValueOf", "(internal/reflectlite.Value).Type", "(internal/reflectlite.Value).IsNil", "(internal/reflectlite.Value).Elem", "(internal/reflectlite.Value).Set"], unfollowed := true, recurses := true, named := ["loop.example/g00455/impl.errNotRight", "loop.example/g00455/impl.errTooOld", "loop.example/g00455/impl.errTaken", "loop.example/g00455/impl.errNoGram", "errors.errorType"], ifaces := true, plainKeys := false, apart := false, laid := [("errors.errorType", laid_errors_errorType), ("loop.example/g00455/impl.errNotRight", laid_loop_example_g00455_impl_errNotRight), ("loop.example/g00455/impl.errNoGram", laid_loop_example_g00455_impl_errNoGram), ("loop.example/g00455/impl.errTooOld", laid_loop_example_g00455_impl_errTooOld), ("loop.example/g00455/impl.errTaken", laid_loop_example_g00455_impl_errTaken)] }
def FnWindowSaid : Prop := fnWindowRow.holds Tryd.pinned (OpenSpec.ofChange fnWindowSpec)

/-- ITS FALSE NEIGHBOUR: 'it returns false'. Refute it at one input. -/
def fnWindowWrong : ChangeSpec := { name := "fnWindow", vars := ["loop.example/g00455/impl.errNotRight", "loop.example/g00455/impl.errTooOld", "loop.example/g00455/impl.errTaken", "loop.example/g00455/impl.errNoGram"], fn := fun _ => fun
  | [d1, d2, g1, g2, g3, g4] => { results := [.lit (.bool false)], args := [d1, d2], vars := [g1, g2, g3, g4] }
  | _ => none }
def FnWindowWrongFalsely : Prop := fnWindowRow.holds Tryd.pinned (OpenSpec.ofChange fnWindowWrong)

/- THE SECOND FORM. 'bulk': how many values and letters a reading holds, each counted each time it is reached (what is shared counts as often as it is met; a slice's spare places count too). A statement '..UptoSaid' is the law's where the arguments, and the package variables that the reading takes, are together of bulk at most 1048576: NARROWER than '..Said'. Prove '..Said' where nothing that the law and all that it calls make is longer than what came in: it says more and counts as full. Else prove '..UptoSaid'. A law counts once. -/
mutual
def uptoBulk {H : Type} : DataW H → Nat
  | .lit (.string bytes) => bytes.length + 1
  | .lit _ => 1
  | .nil => 1
  | .ptr d => uptoBulk d + 1
  | .slice elems spare => uptoBulkAll elems + uptoBulkAll spare + 1
  | .agg parts => uptoBulkAll parts + 1
  | .iface _ d => uptoBulk d + 1
  | .map entries => uptoBulkEntries entries + 1
  | .held _ => 1
def uptoBulkAll {H : Type} : List (DataW H) → Nat
  | [] => 0
  | d :: r => uptoBulk d + uptoBulkAll r
def uptoBulkEntries {H : Type} : List (Lit × DataW H) → Nat
  | [] => 0
  | x :: r => uptoBulkEntry x + uptoBulkEntries r
def uptoBulkEntry {H : Type} : Lit × DataW H → Nat
  | (.string bytes, d) => bytes.length + uptoBulk d + 1
  | (_, d) => uptoBulk d + 1
 end
def uptoSmall : (H : Type) → List (DataW H) → Bool := fun _ ds => decide (uptoBulkAll ds ≤ 1048576)
def OpenSpec.upto (s : _root_.Go.ChangeSpec) : _root_.Go.OpenSpec := { _root_.Go.OpenSpec.ofChange s with cond := some uptoSmall }

/-- 'laws.FnWindow', WHERE WHAT IT READS IS OF BULK AT MOST 1048576: true; the input reads as it did. -/
def fnWindowUptoRow : OpenClaim := { program := "ytodcjhckkbmikaadoor", sum := "1005bc8ec633cb3f3c721f65c3fdcef3bebb14a97d3593ee422a5ee36609d276", func := "loop.example/g00455/laws.FnWindow", spec := "fnWindow", inPlace := ["internal/reflectlite.TypeOf", "internal/reflectlite.ValueOf", "(internal/reflectlite.Value).Type", "(internal/reflectlite.Value).IsNil", "(internal/reflectlite.Value).Elem", "(internal/reflectlite.Value).Set"], unfollowed := true, recurses := true, named := ["loop.example/g00455/impl.errNotRight", "loop.example/g00455/impl.errTooOld", "loop.example/g00455/impl.errTaken", "loop.example/g00455/impl.errNoGram", "errors.errorType"], ifaces := true, plainKeys := false, apart := false, laid := [("errors.errorType", laid_errors_errorType), ("loop.example/g00455/impl.errNotRight", laid_loop_example_g00455_impl_errNotRight), ("loop.example/g00455/impl.errNoGram", laid_loop_example_g00455_impl_errNoGram), ("loop.example/g00455/impl.errTooOld", laid_loop_example_g00455_impl_errTooOld), ("loop.example/g00455/impl.errTaken", laid_loop_example_g00455_impl_errTaken)], narrowed := true }
def FnWindowUptoSaid : Prop := fnWindowUptoRow.holds Tryd.pinned (OpenSpec.upto fnWindowSpec)

end Rows
end Go.Proofs.YtodcjhckkbmikaaDoor
