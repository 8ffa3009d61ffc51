/-
  Texts in a row of the call's own: what the row is as a slice; a literal without elements; what an append leaves. No condition.
-/
import Derived.Test.YtndjjhcdnlkekaaDoorLogS0
import Derived.Deep.Upon
import Derived.OwnWalk
namespace Go.Proofs.YtndjjhcdnlkekaaDoor.ot
open Go.ChangeShapes Go.WideShapes Go.ChangeAt Go.RowKit
open Go.Proofs.YtndjjhcdnlkekaaDoor.ss
set_option linter.unusedVariables false

/-- a row of the call's own that holds these texts -/
def OwT (base : Nat) (v : Value) (l : List ByteArray) (u : World) : Prop := u.ownsRow base 9 1 v l.length (l.map Value.string)
theorem OwT.slice {base : Nat} {v : Value} {l : List ByteArray} {u : World} (h : OwT base v l u) : SliceIs u v l := by
  rcases h.2 with ⟨rfl, hl⟩ | ⟨g, cap, cur, rfl, hb, hg, h1, h2, h3, h4⟩
  · exact .inl ⟨_, _, List.length_eq_zero_iff.1 hl, rfl⟩
  · refine .inr ⟨g, 0, cap, (Array.getElem?_eq_some_iff.1 hg).1, rfl, fun j hj => ?_⟩
    have hc : u.ownsRow base 9 1 (.slice (some ⟨g, 0, none⟩) l.length cap) l.length (l.map Value.string) := h
    rw [Nat.zero_add, hc.cellAt j (by omega), List.getElem?_map, List.getElem?_eq_getElem hj, List.getD_eq_getElem?_getD, List.getElem?_eq_getElem hj]; rfl
theorem OwT.nil (base : Nat) (u : World) : OwT base (.slice none 0 0) [] u := ⟨rfl, .inl ⟨rfl, rfl⟩⟩
theorem OwT.lit (w : World) : OwT w.heap.size (.slice (some ⟨w.heap.size, 0, none⟩) 0 0) [] (w.alloc (.cells #[] 9)) :=
  ⟨rfl, .inr ⟨w.heap.size, 0, #[], rfl, Nat.le_refl _, heap_alloc_new _ _, Nat.le_refl _, by simp, rfl, rfl⟩⟩
theorem OwT.shape {base : Nat} {v : Value} {l : List ByteArray} {u : World} (h : OwT base v l u) : ∃ p cap, v = .slice p l.length cap := by
  rcases h.2 with ⟨hv, hl⟩ | ⟨g, cap, cur, hv, _⟩
  · exact ⟨none, 0, by rw [hv, hl]⟩
  · exact ⟨_, _, hv⟩
theorem OwT.up {base : Nat} {v : Value} {l : List ByteArray} {u u' : World} (h : OwT base v l u) (hb : Below u.heap.size u u') : OwT base v l u' :=
  World.ownsRow.kept h (row := none) ⟨hb.os, hb.tape, hb.output, hb.size, fun k hk _ => hb.block k hk⟩ (by cases v.ownBlock <;> simp)
theorem OwT.alloc {base : Nat} {v : Value} {l : List ByteArray} {u : World} (h : OwT base v l u) (o : Obj) : OwT base v l (u.alloc o) := h.up ((Below.refl _ _).alloc (Nat.le_refl _) o)
theorem OwT.of {base : Nat} {v : Value} {l m : List ByteArray} {u : World} (h : u.ownsRow base 9 1 v (l.length + m.length) (l.map Value.string ++ m.map Value.string)) : OwT base v (l ++ m) u := by
  unfold OwT
  rw [List.length_append, List.map_append]
  exact h
theorem OwT.of0 {base : Nat} {v : Value} {l : List ByteArray} {u : World} (h : u.ownsRow base 9 1 v (0 + l.length) ([] ++ l.map Value.string)) : OwT base v l u := by
  rw [Nat.zero_add, List.nil_append] at h
  exact h
theorem OwT.of1 {base : Nat} {v : Value} {l : List ByteArray} {t : ByteArray} {u : World} (h : u.ownsRow base 9 1 v (l.length + 1) (l.map Value.string ++ [.string t])) : OwT base v (l ++ [t]) u := OwT.of (m := [t]) h
theorem OwT.block {base : Nat} {v : Value} {l : List ByteArray} {u : World} (h : OwT base v l u) (hl : l ≠ []) : ∃ g cap, v = .slice (some ⟨g, 0, none⟩) l.length cap ∧ base ≤ g ∧ (∃ cur, u.heap[g]? = some (.cells cur 9 (0, 0))) ∧
    (∀ k, k < l.length → u.cell? ⟨g, k, none⟩ = some (.string (l.getD k ⟨#[]⟩))) ∧ ∀ k, u.frozen? ⟨g, k, none⟩ = false := by
  rcases h.2 with ⟨rfl, h0⟩ | ⟨g, cap, cur, rfl, hb, hg, h1, h2, h3, h4⟩
  · exact absurd (List.length_eq_zero_iff.1 h0) hl
  · refine ⟨g, cap, rfl, hb, ⟨cur, hg⟩, fun j hj => ?_, fun k => frozen_of_row _ _ _ _ _ hg⟩
    have hc : u.ownsRow base 9 1 (.slice (some ⟨g, 0, none⟩) l.length cap) l.length (l.map Value.string) := h
    rw [hc.cellAt j (by omega), List.getElem?_map, List.getElem?_eq_getElem hj, List.getD_eq_getElem?_getD, List.getElem?_eq_getElem hj]; rfl
theorem OwT.set {base g n cap : Nat} {l : List ByteArray} {u : World} (h : OwT base (.slice (some ⟨g, 0, none⟩) n cap) l u) (k : Nat) (x : ByteArray) : OwT base (.slice (some ⟨g, 0, none⟩) n cap) (l.set k x) (u.setCell ⟨g, k, none⟩ (.string x)) := by
  rcases h.2 with ⟨h', _⟩ | ⟨g', cap', cur, h0, hb, hg, h1, h2, h3, h4⟩
  · cases h'
  · cases h0
    refine ⟨by simp, .inr ⟨g, cap, _, by simp, hb, heap_setCell_same _ _ _ _ _ _ hg, by simpa using h1, h2, by simpa using h3, ?_⟩⟩
    simp only [Array.toList_setIfInBounds, List.length_set, List.map_set]
    rw [List.take_set, h4]
/-- an append turns no block below -/
theorem below_own {n base : Nat} {e : TypeId} {size k : Nat} {w u u' : World} {v : Value} {xs : List Value} (h : Below n w u) (hg : u.grownBy u' v.ownBlock) (hr : u.ownsRow base e size v k xs) (hb : n ≤ base) (hs : n ≤ u.heap.size) : Below n w u' :=
  h.grown hg hs (fun b hb' => by
    rcases hr.2 with ⟨rfl, _⟩ | ⟨g, cap, cur, rfl, hg', _⟩
    · cases hb'
    · cases hb'; exact Nat.le_trans hb hg')
end Go.Proofs.YtndjjhcdnlkekaaDoor.ot
