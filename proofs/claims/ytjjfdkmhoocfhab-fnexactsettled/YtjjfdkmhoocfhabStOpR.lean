/-
  What the form's reading of a receiver gives a walk: its state. No condition.
-/
import Derived.Test.YtjjfdkmhoocfhabStOp
namespace Go.Proofs.Ytjjfdkmhoocfhab.st
open Go.ChangeShapes Go.WideShapes Go.ChangeAt Go.RowKit
set_option linter.unusedVariables false
set_option linter.unusedSimpArgs false

set_option maxRecDepth 100000 in
theorem receiver_open {H : Type} {enc : TypeId × Value → H} {W : World} {r : Reach} {b0 : Nat} {v : Value} {d : DataW H} {p : List MemPlace}
    (hv : Value.okWide Try.prog W r b0 41 v) (h : DataW.Trod enc Try.prog W 0 (fun _ => true) true 41 v d p) :
    ∃ (a : Int) (e : ByteArray), v = .agg #[.int .i64 a, .string e] ∧ (Lit.int .i64 a).wf = true ∧ e.size ≤ maxLen := by
  obtain ⟨cs, rfl, hsz⟩ := okWide_struct Try.underlying41 hv
  obtain ⟨fuel, hf⟩ := h
  obtain ⟨xs, n, _, _, hl, hlen, hall⟩ := DataW.trod_struct Try.underlying41 hf
  have hC : Try.prog.cellsOf 41 = 2 := by kernel_rfl
  obtain ⟨c0, c1, rfl⟩ := Joins.array2 (hsz.trans hC)
  have t0 := hall 0 _ rfl
  obtain ⟨y0, hy⟩ : ∃ y0, xs[0]? = some y0 := ⟨xs[0]'(by rw [hlen]; decide), List.getElem?_eq_getElem _⟩
  rw [hy] at t0
  have hc1 : Try.prog.cellsOf 39 = 2 := by kernel_rfl
  have t1 : DataW.trod enc Try.prog W 0 (fun _ => true) true n 39 [c0, c1] = some y0 := by simpa [Value.cells, hc1] using t0
  clear t0 hy
  obtain ⟨z0, z1, m, hx, _, h0, h1⟩ := trod_struct2 Try.underlying39 t1
  obtain ⟨a, ha, _, wa⟩ := DataW.trod_int Try.underlying2 h0
  obtain ⟨e, he, _, we⟩ := DataW.trod_string Try.underlying9 h1
  have hi : Try.prog.cellsOf 2 = 1 := by kernel_rfl
  have hs : Try.prog.cellsOf 9 = 1 := by kernel_rfl
  simp [hi] at ha
  simp [hs] at he
  subst ha he
  exact ⟨a, e, rfl, wa, we⟩
end Go.Proofs.Ytjjfdkmhoocfhab.st
