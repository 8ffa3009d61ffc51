/-
  What the form's reading of a patch gives a walk: its lines, two numbers and what was begun. No condition.
-/
import Derived.Test.YtikkohecanmefabLnS0
import Derived.Lib.SmallJoins
import Derived.Carry
import Derived.ChangeSlices
import Derived.Deep.SlicePairs
namespace Go.Proofs.Ytikkohecanmefab.ls
open Go.ChangeShapes Go.WideShapes Go.ChangeAt Go.RowKit
set_option linter.unusedVariables false
set_option linter.unusedSimpArgs false

set_option maxRecDepth 100000 in
theorem patch_open {H : Type} {enc : TypeId × Value → H} {W : World} {r : Reach} {b0 : Nat} {v : Value} {d : DataW H} {p : List MemPlace}
    (hv : Value.okWide Try.prog W r b0 27 v) (h : DataW.Trod enc Try.prog W 0 (fun _ => true) true 27 v d p) :
    ∃ (x : Value) (s : List Ln) (a b : Int) (e : ByteArray), v = .agg #[x, .int .i64 a, .int .i64 b, .string e] ∧ s.length ≤ maxLen ∧ (∀ r ∈ s, r.2.size ≤ maxLen ∧ (Lit.int .i64 r.1).wf = true) ∧ SliceIs W x s ∧ e.size ≤ maxLen ∧ (Lit.int .i64 a).wf = true ∧ (Lit.int .i64 b).wf = true := by
  obtain ⟨x0, x1, x2, x3, y0, y1, y2, y3, n, rfl, rfl, rfl, t0, t1, t2, t3⟩ := Joins.open_agg4 Try.underlying27 (by kernel_rfl) (by kernel_rfl) hv h
  obtain ⟨a, ha, rfl, wa⟩ := DataW.trod_int Try.underlying2 t1
  obtain ⟨b, hb, rfl, wb⟩ := DataW.trod_int Try.underlying2 t2
  obtain ⟨e, he, rfl, we⟩ := DataW.trod_string Try.underlying9 t3
  obtain rfl := (List.cons.inj ha).1
  obtain rfl := (List.cons.inj hb).1
  obtain rfl := (List.cons.inj he).1
  rcases Go.Deep.open_slice_pairs Try.underlying25 Try.underlying85 (by kernel_rfl) rfl rfl (by kernel_rfl) (by kernel_rfl) t0 with ⟨hcs, _⟩ | ⟨x, l, c, m, n2, V0, V1, D0, D1, P0, P1, hcs, _, hl, hm, hmm, _, hx⟩
  · obtain rfl := (List.cons.inj hcs).1
    exact ⟨_, [], a, b, e, rfl, by simp, by simp, .inl ⟨_, _, rfl, rfl⟩, we, wa, wb⟩
  · obtain rfl := (List.cons.inj hcs).1
    simp only [if_true] at hmm
    rcases Nat.eq_zero_or_pos l with h0 | h0
    · subst h0
      exact ⟨_, [], a, b, e, rfl, by simp, by simp, .inl ⟨_, _, rfl, rfl⟩, we, wa, wb⟩
    · have each : ∀ i, i < l → ∃ q : Ln, W.cell? (x.add (i * 2)) = some (.int .i64 q.1) ∧ W.cell? (x.add (i * 2 + 1)) = some (.string q.2) ∧ q.2.size ≤ maxLen ∧ (Lit.int .i64 q.1).wf = true := fun i hi => by
        obtain ⟨h1, h2, h3, h4⟩ := hx i (by omega)
        obtain ⟨u, hu, _, wu⟩ := DataW.trod_int Try.underlying2 h3
        obtain ⟨z, hz, _, wz⟩ := DataW.trod_string Try.underlying9 h4
        have e1 := (List.cons.inj hu).1
        have e2 := (List.cons.inj hz).1
        exact ⟨(u, z), by rw [h1, e1], by rw [h2, e2], wz, wu⟩
      obtain ⟨f, hf⟩ := Go.Deep.choose_lt each
      have hc0 := (hf 0 h0).1
      obtain ⟨xb, xo, xl⟩ := x
      have e0 : (⟨xb, xo, xl⟩ : Addr).add (0 * 2) = ⟨xb, xo, xl⟩ := by simp [Addr.add]
      rw [e0] at hc0
      have hxl : xl = none := by
        cases xl with
        | none => rfl
        | some z =>
          unfold World.cell? at hc0
          split at hc0 <;> simp at hc0
      subst hxl
      have hlt : xb < W.heap.size := World.block_lt_of_cell? W _ hc0
      have hlen : ((List.range l).map f).length = l := by simp
      refine ⟨_, (List.range l).map f, a, b, e, rfl, by rw [hlen]; omega, fun r hr => ?_, .inr ⟨xb, xo, c, hlt, by rw [hlen], fun j hj => ?_⟩, we, wa, wb⟩
      · obtain ⟨i, hi, rfl⟩ := List.mem_map.1 hr
        exact (hf i (List.mem_range.1 hi)).2.2
      · rw [hlen] at hj
        obtain ⟨h1, h2, _⟩ := hf j hj
        have ej : ∀ k, (⟨xb, xo, none⟩ : Addr).add k = ⟨xb, xo + k, none⟩ := fun k => by unfold Addr.add; split <;> simp_all
        rw [ej] at h1 h2
        have eg : ((List.range l).map f).getD j ln0 = f j := by
          rw [List.getD_eq_getElem?_getD, List.getElem?_map, List.getElem?_range hj]; rfl
        rw [eg]
        exact ⟨h1, by rw [← Nat.add_assoc] at h2; exact h2⟩
end Go.Proofs.Ytikkohecanmefab.ls
