/-
  NARROWER THAN 'FOR EVERY INPUT', by the rows' own cells (each row's printed sentence says how): FnExactSealBox: laid · FnExactGramSeal: laid · FnExactGramOpen: ifaces, laid · FnExactWindowTake: ifaces, laid.
  DERIVED. THE GIVEN ROWS OF THIS SEAT. 4 by the template 'for every input the law returns true; each argument reads behind the call as it read before'; 0 by the template 'total and deterministic' (their statements: YtneahcoakbbdaaaDoorTotals.lean).
  GIVEN WITH THE SEED: the statements are not yours to turn. If you find one false, say at which input.
  Laid BY PROGRAM, IN A SANDBOX (cutbox-rows.mjs): the forced cells as the released guide's own fill.sh prints them over the translation 72a8d789a033d3d3… (all of the seat's roots in one cut). By AI agents, Wed Nov 11 2026. No macro, syntax, notation, axiom, sorry.
-/
import Derived.Test.YtneahcoakbbdaaaDoorChecked
import GoSem.Claim
import GoSem.ClaimJoined
import GoSem.ClaimMapViews
import Derived.JoinedTies
import Derived.KernelRfl
namespace Go.Proofs.YtneahcoakbbdaaaDoor
/- THE CELL 'sum', in the pinned program and in every row, IS THE sha256 OF THE DUMP (.gsa) THAT YtneahcoakbbdaaaDoorProg.lean LOADS. Nothing in Lean hashes anything: it is a label: what it is worth is what the hold of that sum in a sandbox is worth. -/
noncomputable def Tryd.pinned : Pinned := { name := "ytneahcoakbbdaaadoor", sum := "72a8d789a033d3d3cac07c03eeb838bccff74ae017eb16f56c6ecb770da5553f", checked := Tryd.checked }
namespace Rows
def none {H : Type} : Left H := { results := [], args := [] }

/- WHAT THE LISTED PACKAGE-LEVEL VARIABLES READ AS WHEN THE CALL BEGINS. Each datum BY PROGRAM (the guide's laid-datum.mjs) off the statement by which the dump's own 'gosem.cut.vars' lays the variable. In a bare row this is a premise. The card (YtneahcoakbbdaaaDoorCards.lean) ties it to the program's text. -/
def laid_loop_example_g00455_impl_roundWords {H : Type} : DataW H := .agg [.lit (.int .u32 1116352408), .lit (.int .u32 1899447441), .lit (.int .u32 3049323471), .lit (.int .u32 3921009573), .lit (.int .u32 961987163), .lit (.int .u32 1508970993), .lit (.int .u32 2453635748), .lit (.int .u32 2870763221), .lit (.int .u32 3624381080), .lit (.int .u32 310598401), .lit (.int .u32 607225278), .lit (.int .u32 1426881987), .lit (.int .u32 1925078388), .lit (.int .u32 2162078206), .lit (.int .u32 2614888103), .lit (.int .u32 3248222580), .lit (.int .u32 3835390401), .lit (.int .u32 4022224774), .lit (.int .u32 264347078), .lit (.int .u32 604807628), .lit (.int .u32 770255983), .lit (.int .u32 1249150122), .lit (.int .u32 1555081692), .lit (.int .u32 1996064986), .lit (.int .u32 2554220882), .lit (.int .u32 2821834349), .lit (.int .u32 2952996808), .lit (.int .u32 3210313671), .lit (.int .u32 3336571891), .lit (.int .u32 3584528711), .lit (.int .u32 113926993), .lit (.int .u32 338241895), .lit (.int .u32 666307205), .lit (.int .u32 773529912), .lit (.int .u32 1294757372), .lit (.int .u32 1396182291), .lit (.int .u32 1695183700), .lit (.int .u32 1986661051), .lit (.int .u32 2177026350), .lit (.int .u32 2456956037), .lit (.int .u32 2730485921), .lit (.int .u32 2820302411), .lit (.int .u32 3259730800), .lit (.int .u32 3345764771), .lit (.int .u32 3516065817), .lit (.int .u32 3600352804), .lit (.int .u32 4094571909), .lit (.int .u32 275423344), .lit (.int .u32 430227734), .lit (.int .u32 506948616), .lit (.int .u32 659060556), .lit (.int .u32 883997877), .lit (.int .u32 958139571), .lit (.int .u32 1322822218), .lit (.int .u32 1537002063), .lit (.int .u32 1747873779), .lit (.int .u32 1955562222), .lit (.int .u32 2024104815), .lit (.int .u32 2227730452), .lit (.int .u32 2361852424), .lit (.int .u32 2428436474), .lit (.int .u32 2756734187), .lit (.int .u32 3204031479), .lit (.int .u32 3329325298)]
def laid_loop_example_g00455_impl_mixPlaces {H : Type} : DataW H := .agg [.agg [.lit (.int .i64 0), .lit (.int .i64 4), .lit (.int .i64 8), .lit (.int .i64 12)], .agg [.lit (.int .i64 1), .lit (.int .i64 5), .lit (.int .i64 9), .lit (.int .i64 13)], .agg [.lit (.int .i64 2), .lit (.int .i64 6), .lit (.int .i64 10), .lit (.int .i64 14)], .agg [.lit (.int .i64 3), .lit (.int .i64 7), .lit (.int .i64 11), .lit (.int .i64 15)], .agg [.lit (.int .i64 0), .lit (.int .i64 5), .lit (.int .i64 10), .lit (.int .i64 15)], .agg [.lit (.int .i64 1), .lit (.int .i64 6), .lit (.int .i64 11), .lit (.int .i64 12)], .agg [.lit (.int .i64 2), .lit (.int .i64 7), .lit (.int .i64 8), .lit (.int .i64 13)], .agg [.lit (.int .i64 3), .lit (.int .i64 4), .lit (.int .i64 9), .lit (.int .i64 14)]]
def laid_errors_errorType {H : Type} : DataW H := .iface "internal/reflectlite.rtype" (.agg [.ptr (.lit (.string [101, 114, 114, 111, 114]))])
def laid_loop_example_g00455_impl_errNotRight {H : Type} : DataW H := .iface "*errors.errorString" (.ptr (.agg [.lit (.string [105, 116, 32, 105, 115, 32, 110, 111, 116, 32, 114, 105, 103, 104, 116])]))
def laid_loop_example_g00455_impl_errNoGram {H : Type} : DataW H := .iface "*errors.errorString" (.ptr (.agg [.lit (.string [110, 111, 32, 114, 105, 103, 104, 116, 32, 103, 114, 97, 109, 32, 104, 97, 115, 32, 116, 104, 105, 115, 32, 110, 117, 109, 98, 101, 114])]))
def laid_loop_example_g00455_impl_errTooOld {H : Type} : DataW H := .iface "*errors.errorString" (.ptr (.agg [.lit (.string [105, 116, 32, 105, 115, 32, 116, 111, 111, 32, 111, 108, 100])]))
def laid_loop_example_g00455_impl_errTaken {H : Type} : DataW H := .iface "*errors.errorString" (.ptr (.agg [.lit (.string [105, 116, 32, 119, 97, 115, 32, 116, 97, 107, 101, 110, 32, 97, 108, 114, 101, 97, 100, 121])]))

/-- 'laws.FnExactSealBox': WHATEVER THE INPUT: true; the input reads as it did. -/
def fnExactSealBoxSpec : ChangeSpec := { name := "fnExactSealBox", vars := ["loop.example/g00455/impl.roundWords", "loop.example/g00455/impl.mixPlaces"], fn := fun _ => fun
  | [d1, d2, d3, g1, g2] => { results := [.lit (.bool true)], args := [d1, d2, d3], vars := [g1, g2] }
  | _ => none }
def fnExactSealBoxRow : OpenClaim := { program := "ytneahcoakbbdaaadoor", sum := "72a8d789a033d3d3cac07c03eeb838bccff74ae017eb16f56c6ecb770da5553f", func := "loop.example/g00455/laws.FnExactSealBox", spec := "fnExactSealBox", named := ["loop.example/g00455/impl.roundWords", "loop.example/g00455/impl.mixPlaces"], plainKeys := false, apart := false, laid := [("loop.example/g00455/impl.roundWords", laid_loop_example_g00455_impl_roundWords), ("loop.example/g00455/impl.mixPlaces", laid_loop_example_g00455_impl_mixPlaces)] }
def FnExactSealBoxSaid : Prop := fnExactSealBoxRow.holds Tryd.pinned (OpenSpec.ofChange fnExactSealBoxSpec)

/-- ITS FALSE NEIGHBOUR: 'it returns false'. Refute it at one input. -/
def fnExactSealBoxWrong : ChangeSpec := { name := "fnExactSealBox", vars := ["loop.example/g00455/impl.roundWords", "loop.example/g00455/impl.mixPlaces"], fn := fun _ => fun
  | [d1, d2, d3, g1, g2] => { results := [.lit (.bool false)], args := [d1, d2, d3], vars := [g1, g2] }
  | _ => none }
def FnExactSealBoxWrongFalsely : Prop := fnExactSealBoxRow.holds Tryd.pinned (OpenSpec.ofChange fnExactSealBoxWrong)

/-- 'laws.FnExactGramSeal': WHATEVER THE INPUT: true; the input reads as it did. -/
def fnExactGramSealSpec : ChangeSpec := { name := "fnExactGramSeal", vars := ["loop.example/g00455/impl.roundWords", "loop.example/g00455/impl.mixPlaces"], fn := fun _ => fun
  | [d1, d2, g1, g2] => { results := [.lit (.bool true)], args := [d1, d2], vars := [g1, g2] }
  | _ => none }
def fnExactGramSealRow : OpenClaim := { program := "ytneahcoakbbdaaadoor", sum := "72a8d789a033d3d3cac07c03eeb838bccff74ae017eb16f56c6ecb770da5553f", func := "loop.example/g00455/laws.FnExactGramSeal", spec := "fnExactGramSeal", named := ["loop.example/g00455/impl.roundWords", "loop.example/g00455/impl.mixPlaces"], plainKeys := false, apart := false, laid := [("loop.example/g00455/impl.roundWords", laid_loop_example_g00455_impl_roundWords), ("loop.example/g00455/impl.mixPlaces", laid_loop_example_g00455_impl_mixPlaces)] }
def FnExactGramSealSaid : Prop := fnExactGramSealRow.holds Tryd.pinned (OpenSpec.ofChange fnExactGramSealSpec)

/-- ITS FALSE NEIGHBOUR: 'it returns false'. Refute it at one input. -/
def fnExactGramSealWrong : ChangeSpec := { name := "fnExactGramSeal", vars := ["loop.example/g00455/impl.roundWords", "loop.example/g00455/impl.mixPlaces"], fn := fun _ => fun
  | [d1, d2, g1, g2] => { results := [.lit (.bool false)], args := [d1, d2], vars := [g1, g2] }
  | _ => none }
def FnExactGramSealWrongFalsely : Prop := fnExactGramSealRow.holds Tryd.pinned (OpenSpec.ofChange fnExactGramSealWrong)

/-- 'laws.FnExactGramOpen': WHATEVER THE INPUT: true; the input reads as it did. -/
def fnExactGramOpenSpec : ChangeSpec := { name := "fnExactGramOpen", vars := ["loop.example/g00455/impl.errNotRight", "loop.example/g00455/impl.errNoGram", "loop.example/g00455/impl.roundWords", "loop.example/g00455/impl.mixPlaces", "loop.example/g00455/impl.errTooOld", "loop.example/g00455/impl.errTaken"], fn := fun _ => fun
  | [d1, d2, g1, g2, g3, g4, g5, g6] => { results := [.lit (.bool true)], args := [d1, d2], vars := [g1, g2, g3, g4, g5, g6] }
  | _ => none }
def fnExactGramOpenRow : OpenClaim := { program := "ytneahcoakbbdaaadoor", sum := "72a8d789a033d3d3cac07c03eeb838bccff74ae017eb16f56c6ecb770da5553f", func := "loop.example/g00455/laws.FnExactGramOpen", spec := "fnExactGramOpen", inPlace := ["internal/reflectlite.TypeOf", "internal/reflectlite.ValueOf", "(internal/reflectlite.Value).Type", "(internal/reflectlite.Value).IsNil", "(internal/reflectlite.Value).Elem", "(internal/reflectlite.Value).Set"], unfollowed := true, recurses := true, named := ["loop.example/g00455/impl.errNotRight", "loop.example/g00455/impl.errNoGram", "loop.example/g00455/impl.roundWords", "loop.example/g00455/impl.mixPlaces", "loop.example/g00455/impl.errTooOld", "loop.example/g00455/impl.errTaken", "errors.errorType"], ifaces := true, plainKeys := false, apart := false, laid := [("errors.errorType", laid_errors_errorType), ("loop.example/g00455/impl.roundWords", laid_loop_example_g00455_impl_roundWords), ("loop.example/g00455/impl.mixPlaces", laid_loop_example_g00455_impl_mixPlaces), ("loop.example/g00455/impl.errNotRight", laid_loop_example_g00455_impl_errNotRight), ("loop.example/g00455/impl.errNoGram", laid_loop_example_g00455_impl_errNoGram), ("loop.example/g00455/impl.errTooOld", laid_loop_example_g00455_impl_errTooOld), ("loop.example/g00455/impl.errTaken", laid_loop_example_g00455_impl_errTaken)] }
def FnExactGramOpenSaid : Prop := fnExactGramOpenRow.holds Tryd.pinned (OpenSpec.ofChange fnExactGramOpenSpec)

/-- ITS FALSE NEIGHBOUR: 'it returns false'. Refute it at one input. -/
def fnExactGramOpenWrong : ChangeSpec := { name := "fnExactGramOpen", vars := ["loop.example/g00455/impl.errNotRight", "loop.example/g00455/impl.errNoGram", "loop.example/g00455/impl.roundWords", "loop.example/g00455/impl.mixPlaces", "loop.example/g00455/impl.errTooOld", "loop.example/g00455/impl.errTaken"], fn := fun _ => fun
  | [d1, d2, g1, g2, g3, g4, g5, g6] => { results := [.lit (.bool false)], args := [d1, d2], vars := [g1, g2, g3, g4, g5, g6] }
  | _ => none }
def FnExactGramOpenWrongFalsely : Prop := fnExactGramOpenRow.holds Tryd.pinned (OpenSpec.ofChange fnExactGramOpenWrong)

/-- 'laws.FnExactWindowTake': WHATEVER THE INPUT: true; the input reads as it did. -/
def fnExactWindowTakeSpec : ChangeSpec := { name := "fnExactWindowTake", vars := ["loop.example/g00455/impl.errNotRight", "loop.example/g00455/impl.errTooOld", "loop.example/g00455/impl.errTaken", "loop.example/g00455/impl.errNoGram"], fn := fun _ => fun
  | [d1, d2, d3, g1, g2, g3, g4] => { results := [.lit (.bool true)], args := [d1, d2, d3], vars := [g1, g2, g3, g4] }
  | _ => none }
def fnExactWindowTakeRow : OpenClaim := { program := "ytneahcoakbbdaaadoor", sum := "72a8d789a033d3d3cac07c03eeb838bccff74ae017eb16f56c6ecb770da5553f", func := "loop.example/g00455/laws.FnExactWindowTake", spec := "fnExactWindowTake", inPlace := ["internal/reflectlite.TypeOf", "internal/reflectlite.ValueOf", "(internal/reflectlite.Value).Type", "(internal/reflectlite.Value).IsNil", "(internal/reflectlite.Value).Elem", "(internal/reflectlite.Value).Set"], unfollowed := true, recurses := true, named := ["loop.example/g00455/impl.errNotRight", "loop.example/g00455/impl.errTooOld", "loop.example/g00455/impl.errTaken", "loop.example/g00455/impl.errNoGram", "errors.errorType"], ifaces := true, plainKeys := false, apart := false, laid := [("errors.errorType", laid_errors_errorType), ("loop.example/g00455/impl.errNotRight", laid_loop_example_g00455_impl_errNotRight), ("loop.example/g00455/impl.errNoGram", laid_loop_example_g00455_impl_errNoGram), ("loop.example/g00455/impl.errTooOld", laid_loop_example_g00455_impl_errTooOld), ("loop.example/g00455/impl.errTaken", laid_loop_example_g00455_impl_errTaken)] }
def FnExactWindowTakeSaid : Prop := fnExactWindowTakeRow.holds Tryd.pinned (OpenSpec.ofChange fnExactWindowTakeSpec)

/-- ITS FALSE NEIGHBOUR: 'it returns false'. Refute it at one input. -/
def fnExactWindowTakeWrong : ChangeSpec := { name := "fnExactWindowTake", vars := ["loop.example/g00455/impl.errNotRight", "loop.example/g00455/impl.errTooOld", "loop.example/g00455/impl.errTaken", "loop.example/g00455/impl.errNoGram"], fn := fun _ => fun
  | [d1, d2, d3, g1, g2, g3, g4] => { results := [.lit (.bool false)], args := [d1, d2, d3], vars := [g1, g2, g3, g4] }
  | _ => none }
def FnExactWindowTakeWrongFalsely : Prop := fnExactWindowTakeRow.holds Tryd.pinned (OpenSpec.ofChange fnExactWindowTakeWrong)

/- THE SECOND FORM. 'bulk': how many values and letters a reading holds, each counted each time it is reached (what is shared counts as often as it is met; a slice's spare places count too). A statement '..UptoSaid' is the law's where the arguments, and the package variables that the reading takes, are together of bulk at most 1048576: NARROWER than '..Said'. Prove '..Said' where nothing that the law and all that it calls make is longer than what came in: it says more and counts as full. Else prove '..UptoSaid'. A law counts once. -/
mutual
def uptoBulk {H : Type} : DataW H → Nat
  | .lit (.string bytes) => bytes.length + 1
  | .lit _ => 1
  | .nil => 1
  | .ptr d => uptoBulk d + 1
  | .slice elems spare => uptoBulkAll elems + uptoBulkAll spare + 1
  | .agg parts => uptoBulkAll parts + 1
  | .iface _ d => uptoBulk d + 1
  | .map entries => uptoBulkEntries entries + 1
  | .held _ => 1
def uptoBulkAll {H : Type} : List (DataW H) → Nat
  | [] => 0
  | d :: r => uptoBulk d + uptoBulkAll r
def uptoBulkEntries {H : Type} : List (Lit × DataW H) → Nat
  | [] => 0
  | x :: r => uptoBulkEntry x + uptoBulkEntries r
def uptoBulkEntry {H : Type} : Lit × DataW H → Nat
  | (.string bytes, d) => bytes.length + uptoBulk d + 1
  | (_, d) => uptoBulk d + 1
 end
def uptoSmall : (H : Type) → List (DataW H) → Bool := fun _ ds => decide (uptoBulkAll ds ≤ 1048576)
def OpenSpec.upto (s : _root_.Go.ChangeSpec) : _root_.Go.OpenSpec := { _root_.Go.OpenSpec.ofChange s with cond := some uptoSmall }

/-- 'laws.FnExactSealBox', WHERE WHAT IT READS IS OF BULK AT MOST 1048576: true; the input reads as it did. -/
def fnExactSealBoxUptoRow : OpenClaim := { program := "ytneahcoakbbdaaadoor", sum := "72a8d789a033d3d3cac07c03eeb838bccff74ae017eb16f56c6ecb770da5553f", func := "loop.example/g00455/laws.FnExactSealBox", spec := "fnExactSealBox", named := ["loop.example/g00455/impl.roundWords", "loop.example/g00455/impl.mixPlaces"], plainKeys := false, apart := false, laid := [("loop.example/g00455/impl.roundWords", laid_loop_example_g00455_impl_roundWords), ("loop.example/g00455/impl.mixPlaces", laid_loop_example_g00455_impl_mixPlaces)], narrowed := true }
def FnExactSealBoxUptoSaid : Prop := fnExactSealBoxUptoRow.holds Tryd.pinned (OpenSpec.upto fnExactSealBoxSpec)

/-- 'laws.FnExactGramSeal', WHERE WHAT IT READS IS OF BULK AT MOST 1048576: true; the input reads as it did. -/
def fnExactGramSealUptoRow : OpenClaim := { program := "ytneahcoakbbdaaadoor", sum := "72a8d789a033d3d3cac07c03eeb838bccff74ae017eb16f56c6ecb770da5553f", func := "loop.example/g00455/laws.FnExactGramSeal", spec := "fnExactGramSeal", named := ["loop.example/g00455/impl.roundWords", "loop.example/g00455/impl.mixPlaces"], plainKeys := false, apart := false, laid := [("loop.example/g00455/impl.roundWords", laid_loop_example_g00455_impl_roundWords), ("loop.example/g00455/impl.mixPlaces", laid_loop_example_g00455_impl_mixPlaces)], narrowed := true }
def FnExactGramSealUptoSaid : Prop := fnExactGramSealUptoRow.holds Tryd.pinned (OpenSpec.upto fnExactGramSealSpec)

/-- 'laws.FnExactGramOpen', WHERE WHAT IT READS IS OF BULK AT MOST 1048576: true; the input reads as it did. -/
def fnExactGramOpenUptoRow : OpenClaim := { program := "ytneahcoakbbdaaadoor", sum := "72a8d789a033d3d3cac07c03eeb838bccff74ae017eb16f56c6ecb770da5553f", func := "loop.example/g00455/laws.FnExactGramOpen", spec := "fnExactGramOpen", inPlace := ["internal/reflectlite.TypeOf", "internal/reflectlite.ValueOf", "(internal/reflectlite.Value).Type", "(internal/reflectlite.Value).IsNil", "(internal/reflectlite.Value).Elem", "(internal/reflectlite.Value).Set"], unfollowed := true, recurses := true, named := ["loop.example/g00455/impl.errNotRight", "loop.example/g00455/impl.errNoGram", "loop.example/g00455/impl.roundWords", "loop.example/g00455/impl.mixPlaces", "loop.example/g00455/impl.errTooOld", "loop.example/g00455/impl.errTaken", "errors.errorType"], ifaces := true, plainKeys := false, apart := false, laid := [("errors.errorType", laid_errors_errorType), ("loop.example/g00455/impl.roundWords", laid_loop_example_g00455_impl_roundWords), ("loop.example/g00455/impl.mixPlaces", laid_loop_example_g00455_impl_mixPlaces), ("loop.example/g00455/impl.errNotRight", laid_loop_example_g00455_impl_errNotRight), ("loop.example/g00455/impl.errNoGram", laid_loop_example_g00455_impl_errNoGram), ("loop.example/g00455/impl.errTooOld", laid_loop_example_g00455_impl_errTooOld), ("loop.example/g00455/impl.errTaken", laid_loop_example_g00455_impl_errTaken)], narrowed := true }
def FnExactGramOpenUptoSaid : Prop := fnExactGramOpenUptoRow.holds Tryd.pinned (OpenSpec.upto fnExactGramOpenSpec)

/-- 'laws.FnExactWindowTake', WHERE WHAT IT READS IS OF BULK AT MOST 1048576: true; the input reads as it did. -/
def fnExactWindowTakeUptoRow : OpenClaim := { program := "ytneahcoakbbdaaadoor", sum := "72a8d789a033d3d3cac07c03eeb838bccff74ae017eb16f56c6ecb770da5553f", func := "loop.example/g00455/laws.FnExactWindowTake", spec := "fnExactWindowTake", inPlace := ["internal/reflectlite.TypeOf", "internal/reflectlite.ValueOf", "(internal/reflectlite.Value).Type", "(internal/reflectlite.Value).IsNil", "(internal/reflectlite.Value).Elem", "(internal/reflectlite.Value).Set"], unfollowed := true, recurses := true, named := ["loop.example/g00455/impl.errNotRight", "loop.example/g00455/impl.errTooOld", "loop.example/g00455/impl.errTaken", "loop.example/g00455/impl.errNoGram", "errors.errorType"], ifaces := true, plainKeys := false, apart := false, laid := [("errors.errorType", laid_errors_errorType), ("loop.example/g00455/impl.errNotRight", laid_loop_example_g00455_impl_errNotRight), ("loop.example/g00455/impl.errNoGram", laid_loop_example_g00455_impl_errNoGram), ("loop.example/g00455/impl.errTooOld", laid_loop_example_g00455_impl_errTooOld), ("loop.example/g00455/impl.errTaken", laid_loop_example_g00455_impl_errTaken)], narrowed := true }
def FnExactWindowTakeUptoSaid : Prop := fnExactWindowTakeUptoRow.holds Tryd.pinned (OpenSpec.upto fnExactWindowTakeSpec)

end Rows
end Go.Proofs.YtneahcoakbbdaaaDoor
