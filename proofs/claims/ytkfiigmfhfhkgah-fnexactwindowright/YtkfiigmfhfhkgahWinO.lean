/-
  What the form's reading of a window gives a walk: its two numbers and what its slice holds. No condition.
-/
import Derived.Test.YtkfiigmfhfhkgahWinT
import Derived.Lib.SmallJoins
import Derived.Carry
import Derived.ChangeSlices
namespace Go.Proofs.Ytkfiigmfhfhkgah.wi
open Go.ChangeShapes Go.WideShapes Go.ChangeAt Go.RowKit
set_option linter.unusedVariables false

set_option maxRecDepth 100000 in
theorem win_open {H : Type} {enc : TypeId × Value → H} {W : World} {r : Reach} {b0 : Nat} {v : Value} {d : DataW H} {p : List MemPlace}
    (hv : Value.okWide Try.prog W r b0 31 v) (h : DataW.Trod enc Try.prog W 0 (fun _ => true) true 31 v d p) :
    ∃ (e t : Int) (x : Value) (s : List Int), v = .agg #[.int .i64 e, .int .i64 t, x] ∧ s.length ≤ maxLen ∧ SliceIs W x s := by
  obtain ⟨x0, x1, x2, y0, y1, y2, n, rfl, rfl, rfl, t0, t1, t2⟩ := Joins.open_agg3 Try.underlying31 (by kernel_rfl) (by kernel_rfl) hv h
  obtain ⟨a, ha, rfl, wa⟩ := DataW.trod_int Try.underlying2 t0
  obtain ⟨b, hb, rfl, wb⟩ := DataW.trod_int Try.underlying2 t1
  obtain rfl := (List.cons.inj ha).1
  obtain rfl := (List.cons.inj hb).1
  rcases open_ints Try.underlying29 Try.underlying2 (by kernel_rfl) t2 with ⟨hcs, _⟩ | ⟨x, l, c, zs, hcs, _, hl, hm, hz, _, hcell, hwz⟩
  · obtain rfl := (List.cons.inj hcs).1
    exact ⟨a, b, _, [], rfl, by simp, .inl ⟨_, _, rfl, rfl⟩⟩
  · obtain rfl := (List.cons.inj hcs).1
    simp only [if_true] at hz
    rcases Nat.eq_zero_or_pos l with h0 | h0
    · subst h0
      exact ⟨a, b, _, [], rfl, by simp, .inl ⟨_, _, rfl, rfl⟩⟩
    · have hlen : (zs.take l).length = l := by rw [List.length_take]; omega
      have hc0 := hcell 0 (by omega)
      obtain ⟨xb, xo, xl⟩ := x
      have e0 : (⟨xb, xo, xl⟩ : Addr).add 0 = ⟨xb, xo, xl⟩ := by simp [Addr.add]
      rw [e0] at hc0
      have hxl : xl = none := by
        cases xl with
        | none => rfl
        | some z =>
          unfold World.cell? at hc0
          split at hc0 <;> simp at hc0
      subst hxl
      have hlt : xb < W.heap.size := World.block_lt_of_cell? W _ hc0
      refine ⟨a, b, _, zs.take l, rfl, by rw [hlen]; omega, .inr ⟨xb, xo, c, hlt, by rw [hlen], fun j hj => ?_⟩⟩
      rw [hlen] at hj
      have hcj := hcell j (by omega)
      have ej : (⟨xb, xo, none⟩ : Addr).add j = ⟨xb, xo + j, none⟩ := by unfold Addr.add; split <;> simp_all
      rw [ej] at hcj
      rw [hcj, List.getD, List.getD, List.getElem?_take_of_lt hj]
end Go.Proofs.Ytkfiigmfhfhkgah.wi
