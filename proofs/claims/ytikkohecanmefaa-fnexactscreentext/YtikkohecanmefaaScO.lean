/-
  What the form's reading of a screen gives a walk: its rows, two numbers and what was begun. No condition.
-/
import Derived.Test.YtikkohecanmefaaLogS0
import Derived.Lib.SmallJoins
import Derived.Carry
import Derived.ChangeSlices
import Derived.SliceStrings
namespace Go.Proofs.Ytikkohecanmefaa.sc
open Go.ChangeShapes Go.WideShapes Go.ChangeAt Go.RowKit
open Go.Proofs.Ytikkohecanmefaa.ss
set_option linter.unusedVariables false

set_option maxRecDepth 100000 in
theorem scr_open {H : Type} {enc : TypeId × Value → H} {W : World} {r : Reach} {b0 : Nat} {v : Value} {d : DataW H} {p : List MemPlace}
    (hv : Value.okWide Try.prog W r b0 24 v) (h : DataW.Trod enc Try.prog W 0 (fun _ => true) true 24 v d p) :
    ∃ (x : Value) (s : List ByteArray) (a b : Int) (e : ByteArray), v = .agg #[x, .int .i64 a, .int .i64 b, .string e] ∧ s.length ≤ maxLen ∧ (∀ r ∈ s, r.size ≤ maxLen) ∧ SliceIs W x s ∧ e.size ≤ maxLen ∧ (Lit.int .i64 a).wf = true ∧ (Lit.int .i64 b).wf = true := by
  obtain ⟨x0, x1, x2, x3, y0, y1, y2, y3, n, rfl, rfl, rfl, t0, t1, t2, t3⟩ := Joins.open_agg4 Try.underlying24 (by kernel_rfl) (by kernel_rfl) hv h
  obtain ⟨a, ha, rfl, wa⟩ := DataW.trod_int Try.underlying2 t1
  obtain ⟨b, hb, rfl, wb⟩ := DataW.trod_int Try.underlying2 t2
  obtain ⟨e, he, rfl, we⟩ := DataW.trod_string Try.underlying9 t3
  obtain rfl := (List.cons.inj ha).1
  obtain rfl := (List.cons.inj hb).1
  obtain rfl := (List.cons.inj he).1
  rcases open_strings Try.underlying22 Try.underlying9 (by kernel_rfl) t0 with ⟨hcs, _⟩ | ⟨x, l, c, zs, hcs, _, hl, hm, hz, _, hcell, hwz⟩
  · obtain rfl := (List.cons.inj hcs).1
    exact ⟨_, [], a, b, e, rfl, by simp, by simp, .inl ⟨_, _, rfl, rfl⟩, we, wa, wb⟩
  · obtain rfl := (List.cons.inj hcs).1
    simp only [if_true] at hz
    rcases Nat.eq_zero_or_pos l with h0 | h0
    · subst h0
      exact ⟨_, [], a, b, e, rfl, by simp, by simp, .inl ⟨_, _, rfl, rfl⟩, we, wa, wb⟩
    · have hlen : (zs.take l).length = l := by rw [List.length_take]; omega
      have hc0 := hcell 0 (by omega)
      obtain ⟨xb, xo, xl⟩ := x
      have e0 : (⟨xb, xo, xl⟩ : Addr).add 0 = ⟨xb, xo, xl⟩ := by simp [Addr.add]
      rw [e0] at hc0
      have hxl : xl = none := by
        cases xl with
        | none => rfl
        | some z =>
          unfold World.cell? at hc0
          split at hc0 <;> simp at hc0
      subst hxl
      have hlt : xb < W.heap.size := World.block_lt_of_cell? W _ hc0
      refine ⟨_, zs.take l, a, b, e, rfl, by rw [hlen]; omega, fun r hr => hwz r (List.mem_of_mem_take hr), .inr ⟨xb, xo, c, hlt, by rw [hlen], fun j hj => ?_⟩, we, wa, wb⟩
      rw [hlen] at hj
      have hcj := hcell j (by omega)
      have ej : (⟨xb, xo, none⟩ : Addr).add j = ⟨xb, xo + j, none⟩ := by unfold Addr.add; split <;> simp_all
      rw [ej] at hcj
      rw [hcj, List.getD, List.getD, List.getElem?_take_of_lt hj]
      rfl
end Go.Proofs.Ytikkohecanmefaa.sc
