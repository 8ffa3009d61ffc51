/-
  What the form's reading of a state, an update, a receiver, a sender gives a walk. No condition.
-/
import Derived.Test.YtjjfdkmhoocfhaaStS0
import Derived.Lib.SmallJoins
import Derived.Carry
import Derived.ChangeSlices
import Derived.Deep.SlicePairs
namespace Go.Proofs.Ytjjfdkmhoocfhaa.st
open Go.ChangeShapes Go.WideShapes Go.ChangeAt Go.RowKit
set_option linter.unusedVariables false
set_option linter.unusedSimpArgs false

set_option maxRecDepth 100000 in
theorem state_open {H : Type} {enc : TypeId × Value → H} {W : World} {r : Reach} {b0 : Nat} {v : Value} {d : DataW H} {p : List MemPlace}
    (hv : Value.okWide Try.prog W r b0 23 v) (h : DataW.Trod enc Try.prog W 0 (fun _ => true) true 23 v d p) :
    ∃ (a : Int) (e : ByteArray), v = .agg #[.int .i64 a, .string e] ∧ (Lit.int .i64 a).wf = true ∧ e.size ≤ maxLen := by
  obtain ⟨x0, x1, y0, y1, n, rfl, rfl, rfl, t0, t1⟩ := Joins.open_agg2 Try.underlying23 (by kernel_rfl) (by kernel_rfl) hv h
  obtain ⟨a, ha, rfl, wa⟩ := DataW.trod_int Try.underlying2 t0
  obtain ⟨e, he, rfl, we⟩ := DataW.trod_string Try.underlying9 t1
  obtain rfl := (List.cons.inj ha).1
  obtain rfl := (List.cons.inj he).1
  exact ⟨a, e, rfl, wa, we⟩
end Go.Proofs.Ytjjfdkmhoocfhaa.st
