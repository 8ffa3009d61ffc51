/-
  Slices of states in the law's hands: a slice's places are marked, looked at again. No condition.
-/
import Derived.Test.YtjjfdkmhoocfhaaLogU
import Derived.Test.YtjjfdkmhoocfhaaOwnS
import Derived.Test.YtjjfdkmhoocfhaaStT
namespace Go.Proofs.Ytjjfdkmhoocfhaa.st
open Go.ChangeShapes Go.WideShapes Go.ChangeAt Go.RowKit
open Go.Proofs.Ytjjfdkmhoocfhaa.wi (heap_lt calls_w wp_w)
open Go.Proofs.Ytjjfdkmhoocfhaa.ss (markT markText_any)
set_option linter.unusedVariables false

/-- a block that holds these states from a place on -/
def RowX (u : World) (g off : Nat) (l : List Ln) : Prop := ∃ cur, rw.At u g cur 28 ∧ ∀ j, j < l.length → cur[off + j * 2]? = some (.int .i64 (l.getD j ln0).1) ∧ cur[off + j * 2 + 1]? = some (.string (l.getD j ln0).2)
theorem RowX.row {u : World} {g off : Nat} {l : List Ln} (h : RowX u g off l) : Row u g off l := by
  obtain ⟨cur, h1, h2⟩ := h
  intro j hj
  exact ⟨(h1.cell _).trans (h2 j hj).1, (h1.cell _).trans (h2 j hj).2⟩
theorem RowX.up {u u' : World} {g off : Nat} {l : List Ln} (h : RowX u g off l) (hb : Below u.heap.size u u') : RowX u' g off l := by
  obtain ⟨cur, h1, h2⟩ := h
  exact ⟨cur, h1.up hb, h2⟩
theorem RowX.lt {u : World} {g off : Nat} {l : List Ln} (h : RowX u g off l) : g < u.heap.size := by
  obtain ⟨cur, h1, h2⟩ := h
  exact h1.lt
theorem RowX.frozen {u : World} {g off : Nat} {l : List Ln} (h : RowX u g off l) (k : Nat) : u.frozen? ⟨g, k, none⟩ = false := by
  obtain ⟨cur, h1, h2⟩ := h
  exact h1.frozen k
theorem RowX.kept {u u' : World} {g off : Nat} {l : List Ln} {row : Option Nat} (h : RowX u g off l) (hg : u.grownBy u' row) (hne : row ≠ some g) : RowX u' g off l := by
  obtain ⟨cur, h1, h2⟩ := h
  exact ⟨cur, (hg.block g h1.lt (fun e => hne e.symm)).trans h1, h2⟩
theorem RowX.set {u : World} {g off : Nat} {l : List Ln} (h : RowX u g off l) (k : Nat) (hk : k < l.length) (x : Ln) : RowX ((u.setCell ⟨g, off + k * 2, none⟩ (.int .i64 x.1)).setCell ⟨g, off + k * 2 + 1, none⟩ (.string x.2)) g off (l.set k x) := by
  obtain ⟨cur, h1, h2⟩ := h
  refine ⟨_, (h1.set (off + k * 2) (.int .i64 x.1)).set (off + k * 2 + 1) (.string x.2), fun j hj => ?_⟩
  rw [List.length_set] at hj
  obtain ⟨a1, a2⟩ := h2 j hj
  have s1 : off + k * 2 < cur.size := (Array.getElem?_eq_some_iff.1 (h2 k hk).1).1
  have s2 : off + k * 2 + 1 < cur.size := (Array.getElem?_eq_some_iff.1 (h2 k hk).2).1
  by_cases e : j = k
  · subst e
    have e1 : (l.set j x).getD j ln0 = x := by simp [List.getD, hk]
    rw [e1]
    constructor
    · rw [Array.getElem?_setIfInBounds_ne (by omega)]; simp [s1]
    · simp [s2]
  · have e1 : (l.set k x).getD j ln0 = l.getD j ln0 := by simp [List.getD, Ne.symm e]
    rw [e1]
    constructor
    · rw [Array.getElem?_setIfInBounds_ne (by omega), Array.getElem?_setIfInBounds_ne (by omega)]; exact a1
    · rw [Array.getElem?_setIfInBounds_ne (by omega), Array.getElem?_setIfInBounds_ne (by omega)]; exact a2
/-- a slice of states that is owned, wherever -/
def OwnX (u : World) (v : Value) (l : List Ln) : Prop := (l = [] ∧ v = .slice none 0 0) ∨ ∃ g off cap, v = .slice (some ⟨g, off, none⟩) l.length cap ∧ RowX u g off l
theorem OwnX.up {u u' : World} {v : Value} {l : List Ln} (h : OwnX u v l) (hb : Below u.heap.size u u') : OwnX u' v l := by
  rcases h with h | ⟨g, off, cap, hv, hr⟩
  · exact .inl h
  · exact .inr ⟨g, off, cap, hv, hr.up hb⟩
theorem OwnX.slice {u : World} {v : Value} {l : List Ln} (h : OwnX u v l) : SliceIs u v l := by
  rcases h with ⟨h1, h2⟩ | ⟨g, off, cap, hv, hr⟩
  · exact .inl ⟨_, _, h1, h2⟩
  · exact .inr ⟨g, off, cap, hr.lt, hv, hr.row⟩
theorem OwnX.shape {u : World} {v : Value} {l : List Ln} (h : OwnX u v l) : ∃ p cap, v = .slice p l.length cap := h.slice.shape
theorem OwnX.kept {u u' : World} {v : Value} {l : List Ln} {row : Option Nat} (h : OwnX u v l) (hg : u.grownBy u' row) (hne : row = none ∨ v.ownBlock ≠ row) : OwnX u' v l := by
  rcases h with h | ⟨g, off, cap, hv, hr⟩
  · exact .inl h
  · refine .inr ⟨g, off, cap, hv, hr.kept hg ?_⟩
    rcases hne with e | e
    · rw [e]; simp
    · rw [hv] at e
      intro h'
      exact e (by rw [h']; rfl)
theorem OwnX.of {base : Nat} {u : World} {v : Value} {l : List Ln} (h : OwS base v l u) : OwnX u v l := by
  rcases h.2 with ⟨rfl, hl⟩ | ⟨g, cap, cur, rfl, hb, hg, h1, h2, h3, h4⟩
  · exact .inl ⟨List.length_eq_zero_iff.1 hl, rfl⟩
  · refine .inr ⟨g, 0, cap, rfl, cur, hg, fun j hj => ?_⟩
    obtain ⟨e1, e2⟩ := flat_at l j hj
    have f : ∀ k, k < l.length * 2 → cur[k]? = (flat l)[k]? := fun k hk => by
      rw [← h4, List.getElem?_take, if_pos hk, Array.getElem?_toList]
    rw [Nat.zero_add, f _ (by omega), f _ (by omega)]
    exact ⟨e1, e2⟩
/-- marked: a number and a text each, one behind the other -/
def Mk (l : List Ln) (k : Nat) : Prop := ∀ j, j < k → l.getD j ln0 = ((2 * (j : Int) + 1), markT (2 * j + 2))
theorem Mk.zero (l : List Ln) : Mk l 0 := fun j h => absurd h (by omega)
theorem Mk.set {l : List Ln} {k : Nat} (h : Mk l k) (hk : k < l.length) : Mk (l.set k ((2 * (k : Int) + 1), markT (2 * k + 2))) (k + 1) := by
  intro j hj
  by_cases e : j = k
  · subst e
    simp [List.getD, hk]
  · have := h j (by omega)
    simpa [List.getD, Ne.symm e] using this
theorem grown_set {u w : World} {g k : Nat} {v : Value} (h : w.grownBy u (some g)) : w.grownBy (u.setCell ⟨g, k, none⟩ v) (some g) :=
  ⟨h.os, h.tape, h.output, by have := h.size; simpa [World.setCell] using this, fun j hj hne => (heap_setCell_other _ _ _ _ (fun hh => hne (by rw [hh]))).trans (h.block j hj hne)⟩
theorem grown_up {u u' w : World} {row : Option Nat} (h : w.grownBy u row) (hb : Below u.heap.size u u') : w.grownBy u' row :=
  ⟨hb.os.trans h.os, hb.tape.trans h.tape, hb.output.trans h.output, Nat.le_trans h.size hb.size, fun j hj hne => (hb.block j (Nat.lt_of_lt_of_le hj h.size)).trans (h.block j hj hne)⟩
/-- what marking leaves -/
structure Marked (w : World) (g off n k : Nat) (u : World) : Prop where
  grown : w.grownBy u (some g)
  row : ∃ l : List Ln, l.length = n ∧ Mk l k ∧ RowX u g off l
theorem Marked.up {w u u' : World} {g off n k : Nat} (h : Marked w g off n k u) (hb : Below u.heap.size u u') : Marked w g off n k u' := by
  obtain ⟨hg, l, hl, hm, hr⟩ := h
  exact ⟨grown_up hg hb, l, hl, hm, hr.up hb⟩
theorem Marked.step {w u : World} {g off n k : Nat} (h : Marked w g off n k u) (hk : k < n) : Marked w g off n (k + 1) ((u.setCell ⟨g, off + k * 2, none⟩ (.int .i64 (2 * (k : Int) + 1))).setCell ⟨g, off + k * 2 + 1, none⟩ (.string (markT (2 * k + 2)))) := by
  obtain ⟨hg, l, hl, hm, hr⟩ := h
  have hr2 := hr.set k (by omega) (2 * (k : Int) + 1, markT (2 * k + 2))
  exact ⟨grown_set (grown_set hg), l.set k (2 * (k : Int) + 1, markT (2 * k + 2)), by rw [List.length_set]; exact hl, hm.set (by omega), hr2⟩
theorem Marked.at {w u : World} {g off n k : Nat} (h : Marked w g off n k u) (j : Nat) (hj : j < n) : (∃ z, u.cell? ⟨g, off + j * 2, none⟩ = some (.int .i64 z)) ∧ (∃ x, u.cell? ⟨g, off + j * 2 + 1, none⟩ = some (.string x)) ∧ ∀ k, u.frozen? ⟨g, k, none⟩ = false := by
  obtain ⟨hg, l, hl, hm, hr⟩ := h
  have := hr.row j (by omega)
  exact ⟨⟨_, this.1⟩, ⟨_, this.2⟩, hr.frozen⟩
end Go.Proofs.Ytjjfdkmhoocfhaa.st
