/-
  What the form's reading of a rule, of a slice of rules gives a walk. No condition.
-/
import Derived.Test.YtndjjhcdnlkekaaDoorRuA
import Derived.Lib.SmallJoins
import Derived.Carry
import Derived.ChangeSlices
import Derived.Deep.SlicePairs
namespace Go.Proofs.YtndjjhcdnlkekaaDoor.rl
open Go.ChangeShapes Go.WideShapes Go.ChangeAt Go.RowKit
set_option linter.unusedVariables false
set_option linter.unusedSimpArgs false

set_option maxRecDepth 100000 in
theorem rule_open {H : Type} {enc : TypeId × Value → H} {W : World} {r : Reach} {b0 : Nat} {v : Value} {d : DataW H} {p : List MemPlace}
    (hv : Value.okWide Tryd.prog W r b0 23 v) (h : DataW.Trod enc Tryd.prog W 0 (fun _ => true) true 23 v d p) :
    ∃ (k n : Int) (x g : ByteArray), v = .agg #[.int .i64 k, .int .i64 n, .string x, .string g] ∧ x.size ≤ maxLen ∧ g.size ≤ maxLen := by
  obtain ⟨x0, x1, x2, x3, y0, y1, y2, y3, n, rfl, rfl, rfl, t0, t1, t2, t3⟩ := Joins.open_agg4 Tryd.underlying23 (by kernel_rfl) (by kernel_rfl) hv h
  obtain ⟨a, ha, rfl, wa⟩ := DataW.trod_int Tryd.underlying2 t0
  obtain ⟨b, hb, rfl, wb⟩ := DataW.trod_int Tryd.underlying2 t1
  obtain ⟨c, hc, rfl, wc⟩ := DataW.trod_string Tryd.underlying9 t2
  obtain ⟨e, he, rfl, we⟩ := DataW.trod_string Tryd.underlying9 t3
  obtain rfl := (List.cons.inj ha).1
  obtain rfl := (List.cons.inj hb).1
  obtain rfl := (List.cons.inj hc).1
  obtain rfl := (List.cons.inj he).1
  exact ⟨a, b, c, e, rfl, wc, we⟩
set_option maxRecDepth 100000 in
theorem rules_open {H : Type} {enc : TypeId × Value → H} {W : World} {r : Reach} {b0 : Nat} {v : Value} {d : DataW H} {p : List MemPlace}
    (hv : Value.okWide Tryd.prog W r b0 29 v) (h : DataW.Trod enc Tryd.prog W 0 (fun _ => true) true 29 v d p) :
    ∃ s : List Ln, s.length ≤ maxLen ∧ (∀ r ∈ s, r.2.2.1.size ≤ maxLen ∧ r.2.2.2.size ≤ maxLen) ∧ SliceIs W v s := by
  obtain ⟨a0, len, cap, rfl⟩ := okWide_slice Tryd.underlying29 hv
  obtain ⟨fuel, hf⟩ := h
  have ce : Tryd.prog.cellsOf 23 = 4 := by kernel_rfl
  have ci : Tryd.prog.cellsOf 2 = 1 := by kernel_rfl
  have cst : Tryd.prog.cellsOf 9 = 1 := by kernel_rfl
  rcases Go.Deep.open_slice Tryd.underlying29 hf with ⟨hcs, _⟩ | ⟨x, l, c, m, n, D, Pl, hcs, _, hl, hm, hmm, _, hx⟩
  · simp [Value.cells] at hcs
    obtain ⟨rfl, rfl, rfl⟩ := hcs
    exact ⟨[], by simp, by simp, .inl ⟨_, _, rfl, rfl⟩⟩
  · simp [Value.cells] at hcs
    obtain ⟨rfl, rfl, rfl⟩ := hcs
    simp only [if_true] at hmm
    rcases Nat.eq_zero_or_pos len with h0 | h0
    · subst h0
      exact ⟨[], by simp, by simp, .inl ⟨_, _, rfl, rfl⟩⟩
    · have each : ∀ i, i < len → ∃ q : Ln, W.cell? (x.add (i * 4)) = some (.int .i64 q.1) ∧ W.cell? (x.add (i * 4 + 1)) = some (.int .i64 q.2.1) ∧ W.cell? (x.add (i * 4 + 2)) = some (.string q.2.2.1) ∧ W.cell? (x.add (i * 4 + 3)) = some (.string q.2.2.2) ∧ q.2.2.1.size ≤ maxLen ∧ q.2.2.2.size ≤ maxLen := by
        intro i hi
        obtain ⟨cs', h1, h2⟩ := hx i (by omega)
        rw [ce] at h1
        obtain ⟨_, hlen, hcell⟩ := World.cells?_some h1
        obtain ⟨xs, k, hk, hxy, _, hxl, hf'⟩ := DataW.trod_struct Tryd.underlying23 h2
        match xs, hxl, cs', hlen with
        | [y0, y1, y2, y3], _, [v0, v1, v2, v3], _ =>
          have g0 := hf' 0 _ rfl
          have g1 := hf' 1 _ rfl
          have g2 := hf' 2 _ rfl
          have g3 := hf' 3 _ rfl
          simp [ci, cst] at g0 g1 g2 g3
          have e0 := hcell 0 (by omega)
          have e1 := hcell 1 (by omega)
          have e2 := hcell 2 (by omega)
          have e3 := hcell 3 (by omega)
          rw [Go.Deep.add_add] at e0 e1 e2 e3
          obtain ⟨a, ha, _, wa⟩ := DataW.trod_int Tryd.underlying2 g0
          obtain ⟨b, hb, _, wb⟩ := DataW.trod_int Tryd.underlying2 g1
          obtain ⟨c, hc, _, wc⟩ := DataW.trod_string Tryd.underlying9 g2
          obtain ⟨e, he, _, we⟩ := DataW.trod_string Tryd.underlying9 g3
          obtain rfl := (List.cons.inj ha).1
          obtain rfl := (List.cons.inj hb).1
          obtain rfl := (List.cons.inj hc).1
          obtain rfl := (List.cons.inj he).1
          exact ⟨(a, b, c, e), by simpa using e0, by simpa using e1, by simpa using e2, by simpa using e3, wc, we⟩
      obtain ⟨f, hf'⟩ := Go.Deep.choose_lt each
      have hc0 := (hf' 0 h0).1
      obtain ⟨xb, xo, xl⟩ := x
      have e0 : (⟨xb, xo, xl⟩ : Addr).add (0 * 4) = ⟨xb, xo, xl⟩ := by simp [Addr.add]
      rw [e0] at hc0
      have hxl : xl = none := by
        cases xl with
        | none => rfl
        | some z =>
          unfold World.cell? at hc0
          split at hc0 <;> simp at hc0
      subst hxl
      have hlt : xb < W.heap.size := World.block_lt_of_cell? W _ hc0
      have hlen : ((List.range len).map f).length = len := by simp
      refine ⟨(List.range len).map f, by rw [hlen]; omega, fun r hr => ?_, .inr ⟨xb, xo, _, hlt, by rw [hlen], fun j hj => ?_⟩⟩
      · obtain ⟨i, hi, rfl⟩ := List.mem_map.1 hr
        exact (hf' i (List.mem_range.1 hi)).2.2.2.2
      · rw [hlen] at hj
        obtain ⟨h1, h2, h3, h4, _⟩ := hf' j hj
        have ej : ∀ k, (⟨xb, xo, none⟩ : Addr).add k = ⟨xb, xo + k, none⟩ := fun k => by unfold Addr.add; split <;> simp_all
        rw [ej] at h1 h2 h3 h4
        have eg : ((List.range len).map f).getD j ln0 = f j := by
          rw [List.getD_eq_getElem?_getD, List.getElem?_map, List.getElem?_range hj]; rfl
        rw [eg]
        refine ⟨h1, ?_, ?_, ?_⟩
        · rw [← Nat.add_assoc] at h2; exact h2
        · rw [← Nat.add_assoc] at h3; exact h3
        · rw [← Nat.add_assoc] at h4; exact h4
end Go.Proofs.YtndjjhcdnlkekaaDoor.rl
