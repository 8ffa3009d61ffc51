/-
  What the form's reading of an anchor gives a walk: its number and its chain. No condition.
-/
import Derived.Test.YtjnlffdopbfelaaDoorLogS0
import Derived.Lib.SmallJoins
import Derived.Carry
import Derived.ChangeSlices
namespace Go.Proofs.YtjnlffdopbfelaaDoor.lo
open Go.ChangeShapes Go.WideShapes Go.ChangeAt Go.RowKit
set_option linter.unusedVariables false

set_option maxRecDepth 100000 in
theorem anchor_open {H : Type} {enc : TypeId × Value → H} {W : World} {r : Reach} {b0 : Nat} {v : Value} {d : DataW H} {p : List MemPlace}
    (hv : Value.okWide Tryd.prog W r b0 43 v) (h : DataW.Trod enc Tryd.prog W 0 (fun _ => true) true 43 v d p) :
    ∃ (n : Int) (c : ByteArray), v = .agg #[.int .i64 n, .string c] ∧ c.size ≤ maxLen := by
  obtain ⟨x0, x1, y0, y1, n, rfl, rfl, rfl, t0, t1⟩ := Joins.open_agg2 Tryd.underlying43 (by kernel_rfl) (by kernel_rfl) hv h
  obtain ⟨a, ha, rfl, wa⟩ := DataW.trod_int Tryd.underlying2 t0
  obtain ⟨b, hb, rfl, wb⟩ := DataW.trod_string Tryd.underlying9 t1
  obtain rfl := (List.cons.inj ha).1
  obtain rfl := (List.cons.inj hb).1
  exact ⟨a, b, rfl, wb⟩
end Go.Proofs.YtjnlffdopbfelaaDoor.lo
