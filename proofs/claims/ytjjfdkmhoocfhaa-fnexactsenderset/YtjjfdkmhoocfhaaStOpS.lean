/-
  What the form's reading of a sender gives a walk: its states. No condition.
-/
import Derived.Test.YtjjfdkmhoocfhaaStOp
namespace Go.Proofs.Ytjjfdkmhoocfhaa.st
open Go.ChangeShapes Go.WideShapes Go.ChangeAt Go.RowKit
set_option linter.unusedVariables false
set_option linter.unusedSimpArgs false

set_option maxRecDepth 100000 in
theorem sender_open {H : Type} {enc : TypeId × Value → H} {W : World} {r : Reach} {b0 : Nat} {v : Value} {d : DataW H} {p : List MemPlace}
    (hv : Value.okWide Try.prog W r b0 44 v) (h : DataW.Trod enc Try.prog W 0 (fun _ => true) true 44 v d p) :
    ∃ (x : Value) (s : List Ln), v = .agg #[x] ∧ s.length ≤ maxLen ∧ (∀ r ∈ s, r.2.size ≤ maxLen ∧ (Lit.int .i64 r.1).wf = true) ∧ SliceIs W x s := by
  obtain ⟨cs, rfl, hsz⟩ := okWide_struct Try.underlying44 hv
  obtain ⟨fuel, hf⟩ := h
  obtain ⟨xs, n, _, _, hl, hlen, hall⟩ := DataW.trod_struct Try.underlying44 hf
  have hC : Try.prog.cellsOf 44 = 1 := by kernel_rfl
  obtain ⟨x0, rfl⟩ : ∃ x0, cs = #[x0] := by
    obtain ⟨l⟩ := cs
    match l, (show l.length = 1 from hsz.trans hC) with
    | [c0], _ => exact ⟨c0, rfl⟩
  have t0 := hall 0 _ rfl
  obtain ⟨y0, hy⟩ : ∃ y0, xs[0]? = some y0 := ⟨xs[0]'(by rw [hlen]; decide), List.getElem?_eq_getElem _⟩
  rw [hy] at t0
  have hc1 : Try.prog.cellsOf 42 = 1 := by kernel_rfl
  have t1 : DataW.trod enc Try.prog W 0 (fun _ => true) true n 42 [x0] = some y0 := by
    simpa [Value.cells, hc1] using t0
  clear t0 hy
  rcases Go.Deep.open_slice_pairs Try.underlying42 Try.underlying23 (by kernel_rfl) rfl rfl (by kernel_rfl) (by kernel_rfl) t1 with ⟨hcs, _⟩ | ⟨x, l, c, m, n2, V0, V1, D0, D1, P0, P1, hcs, _, hl, hm, hmm, _, hx⟩
  · obtain rfl := (List.cons.inj hcs).1
    exact ⟨_, [], rfl, by simp, by simp, .inl ⟨_, _, rfl, rfl⟩⟩
  · obtain rfl := (List.cons.inj hcs).1
    simp only [if_true] at hmm
    rcases Nat.eq_zero_or_pos l with h0 | h0
    · subst h0
      exact ⟨_, [], rfl, by simp, by simp, .inl ⟨_, _, rfl, rfl⟩⟩
    · have each : ∀ i, i < l → ∃ q : Ln, W.cell? (x.add (i * 2)) = some (.int .i64 q.1) ∧ W.cell? (x.add (i * 2 + 1)) = some (.string q.2) ∧ q.2.size ≤ maxLen ∧ (Lit.int .i64 q.1).wf = true := fun i hi => by
        obtain ⟨h1, h2, h3, h4⟩ := hx i (by omega)
        obtain ⟨u, hu, _, wu⟩ := DataW.trod_int Try.underlying2 h3
        obtain ⟨z, hz, _, wz⟩ := DataW.trod_string Try.underlying9 h4
        have e1 := (List.cons.inj hu).1
        have e2 := (List.cons.inj hz).1
        exact ⟨(u, z), by rw [h1, e1], by rw [h2, e2], wz, wu⟩
      obtain ⟨f, hf'⟩ := Go.Deep.choose_lt each
      have hc0 := (hf' 0 h0).1
      obtain ⟨xb, xo, xl⟩ := x
      have e0 : (⟨xb, xo, xl⟩ : Addr).add (0 * 2) = ⟨xb, xo, xl⟩ := by simp [Addr.add]
      rw [e0] at hc0
      have hxl : xl = none := by
        cases xl with
        | none => rfl
        | some z =>
          unfold World.cell? at hc0
          split at hc0 <;> simp at hc0
      subst hxl
      have hlt : xb < W.heap.size := World.block_lt_of_cell? W _ hc0
      have hlen : ((List.range l).map f).length = l := by simp
      refine ⟨_, (List.range l).map f, rfl, by rw [hlen]; omega, fun r hr => ?_, .inr ⟨xb, xo, c, hlt, by rw [hlen], fun j hj => ?_⟩⟩
      · obtain ⟨i, hi, rfl⟩ := List.mem_map.1 hr
        exact (hf' i (List.mem_range.1 hi)).2.2
      · rw [hlen] at hj
        obtain ⟨h1, h2, _⟩ := hf' j hj
        have ej : ∀ k, (⟨xb, xo, none⟩ : Addr).add k = ⟨xb, xo + k, none⟩ := fun k => by unfold Addr.add; split <;> simp_all
        rw [ej] at h1 h2
        have eg : ((List.range l).map f).getD j ln0 = f j := by
          rw [List.getD_eq_getElem?_getD, List.getElem?_map, List.getElem?_range hj]; rfl
        rw [eg]
        exact ⟨h1, by rw [← Nat.add_assoc] at h2; exact h2⟩
end Go.Proofs.Ytjjfdkmhoocfhaa.st
