/-
  What the form's reading of an update gives a walk. No condition.
-/
import Derived.Test.YtjjfdkmhoocfhabStOp
namespace Go.Proofs.Ytjjfdkmhoocfhab.st
open Go.ChangeShapes Go.WideShapes Go.ChangeAt Go.RowKit
set_option linter.unusedVariables false
set_option linter.unusedSimpArgs false

set_option maxRecDepth 100000 in
theorem update_open {H : Type} {enc : TypeId × Value → H} {W : World} {r : Reach} {b0 : Nat} {v : Value} {d : DataW H} {p : List MemPlace}
    (hv : Value.okWide Try.prog W r b0 43 v) (h : DataW.Trod enc Try.prog W 0 (fun _ => true) true 43 v d p) :
    ∃ (f to k : Int) (e : ByteArray), v = .agg #[.int .i64 f, .int .i64 to, .int .i64 k, .string e] ∧ (Lit.int .i64 f).wf = true ∧ (Lit.int .i64 to).wf = true ∧ (Lit.int .i64 k).wf = true ∧ e.size ≤ maxLen := by
  obtain ⟨x0, x1, x2, x3, y0, y1, y2, y3, n, rfl, rfl, rfl, t0, t1, t2, t3⟩ := Joins.open_agg4 Try.underlying43 (by kernel_rfl) (by kernel_rfl) hv h
  obtain ⟨a, ha, rfl, wa⟩ := DataW.trod_int Try.underlying2 t0
  obtain ⟨b, hb, rfl, wb⟩ := DataW.trod_int Try.underlying2 t1
  obtain ⟨c, hc, rfl, wc⟩ := DataW.trod_int Try.underlying2 t2
  obtain ⟨e, he, rfl, we⟩ := DataW.trod_string Try.underlying9 t3
  obtain rfl := (List.cons.inj ha).1
  obtain rfl := (List.cons.inj hb).1
  obtain rfl := (List.cons.inj hc).1
  obtain rfl := (List.cons.inj he).1
  exact ⟨a, b, c, e, rfl, wa, wb, wc, we⟩
end Go.Proofs.Ytjjfdkmhoocfhab.st
