/-
  Blocks that hold rules: a copy on its way. No condition.
-/
import Derived.Test.YtndjjhcdnlkekaaDoorRuA
namespace Go.Proofs.YtndjjhcdnlkekaaDoor.rl
open Go.ChangeShapes Go.WideShapes Go.ChangeAt Go.RowKit
open Go.Proofs.YtndjjhcdnlkekaaDoor.wi (heap_lt calls_w wp_w)
set_option linter.unusedVariables false
set_option linter.unusedSimpArgs false

def flat1 (x : Ln) : List Value := [Value.int .i64 x.1, Value.int .i64 x.2.1, Value.string x.2.2.1, Value.string x.2.2.2]
def cells (s : List Ln) : Array Value := (s.flatMap flat1).toArray
/-- a block that holds these rules -/
def Blk (u : World) (g : Nat) (s : List Ln) : Prop := u.heap[g]? = some (.cells (cells s) 26 (0, 0))
theorem cells_at : ∀ (s : List Ln) (j : Nat), j < s.length → (s.flatMap flat1)[j * 4]? = some (.int .i64 (s.getD j ln0).1) ∧ (s.flatMap flat1)[j * 4 + 1]? = some (.int .i64 (s.getD j ln0).2.1) ∧ (s.flatMap flat1)[j * 4 + 2]? = some (.string (s.getD j ln0).2.2.1) ∧ (s.flatMap flat1)[j * 4 + 3]? = some (.string (s.getD j ln0).2.2.2)
  | [], j, h => absurd h (by simp)
  | x :: s, 0, _ => by simp [flat1]
  | x :: s, j + 1, h => by
    have := cells_at s j (by simpa using h)
    have e0 : (j + 1) * 4 = j * 4 + 4 := by omega
    have e1 : (j + 1) * 4 + 1 = (j * 4 + 1) + 4 := by omega
    have e2 : (j + 1) * 4 + 2 = (j * 4 + 2) + 4 := by omega
    have e3 : (j + 1) * 4 + 3 = (j * 4 + 3) + 4 := by omega
    have c : ∀ i, (flat1 x ++ s.flatMap flat1)[i + 4]? = (s.flatMap flat1)[i]? := fun i => by rw [List.getElem?_append_right (by simp [flat1])]; simp [flat1]
    rw [List.flatMap_cons, e1, e2, e3, e0, c, c, c, c]
    simpa using this
theorem flat_len : ∀ s : List Ln, (s.flatMap flat1).length = s.length * 4
  | [] => rfl
  | x :: s => by rw [List.flatMap_cons, List.length_append, flat_len s]; simp [flat1]; omega
theorem Blk.row {u : World} {g : Nat} {s : List Ln} (h : Blk u g s) : Row u g 0 s := by
  intro j hj
  have := cells_at s j hj
  have e : ∀ i, u.cell? ⟨g, i, none⟩ = (s.flatMap flat1)[i]? := fun i => by
    rw [World.cell?, show u.heap[g]? = some (.cells (cells s) 26 (0, 0)) from h]
    simp [cells]
  simp only [Nat.zero_add, e]
  exact this
theorem Blk.lt {u : World} {g : Nat} {s : List Ln} (h : Blk u g s) : g < u.heap.size := heap_lt h
theorem Blk.up {u u' : World} {g : Nat} {s : List Ln} (h : Blk u g s) (hb : Below u.heap.size u u') : Blk u' g s := (hb.block _ (heap_lt h)).trans h
theorem Blk.slice {u : World} {g cap : Nat} {s : List Ln} (h : Blk u g s) : SliceIs u (.slice (some ⟨g, 0, none⟩) s.length cap) s := .inr ⟨g, 0, cap, h.lt, rfl, h.row⟩
/-- the copy on its way -/
def upTo (s : List Ln) (k : Nat) : List Ln := s.take k ++ List.replicate (s.length - k) ln0
theorem upTo_zero (s : List Ln) : upTo s 0 = List.replicate s.length ln0 := by simp [upTo]
theorem upTo_end (s : List Ln) : upTo s s.length = s := by simp [upTo]
theorem upTo_length (s : List Ln) (k : Nat) (h : k ≤ s.length) : (upTo s k).length = s.length := by simp [upTo]; omega
theorem upTo_set (s : List Ln) (k : Nat) (h : k < s.length) : (upTo s k).set k (s.getD k ln0) = upTo s (k + 1) := by
  unfold upTo
  have e : s.length - k = (s.length - (k + 1)) + 1 := by omega
  rw [List.set_append_right _ _ (by simp; omega), e, List.replicate_succ]
  have e1 : k - (s.take k).length = 0 := by simp; omega
  rw [e1, List.set_cons_zero, List.take_succ_eq_append_getElem h, List.append_assoc]
  simp [List.getD, List.getElem?_eq_getElem h]
theorem flat_set : ∀ (s : List Ln) (k : Nat) (x : Ln), k < s.length → ((((s.flatMap flat1).set (k * 4) (.int .i64 x.1)).set (k * 4 + 1) (.int .i64 x.2.1)).set (k * 4 + 2) (.string x.2.2.1)).set (k * 4 + 3) (.string x.2.2.2) = (s.set k x).flatMap flat1
  | [], k, x, h => absurd h (by simp)
  | y :: s, 0, x, _ => by simp [flat1]
  | y :: s, k + 1, x, h => by
    have := flat_set s k x (by simpa using h)
    have e0 : (k + 1) * 4 = k * 4 + 4 := by omega
    have e1 : (k + 1) * 4 + 1 = (k * 4 + 1) + 4 := by omega
    have e2 : (k + 1) * 4 + 2 = (k * 4 + 2) + 4 := by omega
    have e3 : (k + 1) * 4 + 3 = (k * 4 + 3) + 4 := by omega
    have c : ∀ (l : List Value) i v, (flat1 y ++ l).set (i + 4) v = flat1 y ++ l.set i v := fun l i v => by rw [List.set_append_right _ _ (by simp [flat1])]; simp [flat1]
    rw [List.flatMap_cons, e1, e2, e3, e0, c, c, c, c, List.set_cons_succ, List.flatMap_cons, ← this]
/-- a rule stored, cell by cell -/
def put (u : World) (g k : Nat) (x : Ln) : World := (((u.setCell ⟨g, k * 4, none⟩ (.int .i64 x.1)).setCell ⟨g, k * 4 + 1, none⟩ (.int .i64 x.2.1)).setCell ⟨g, k * 4 + 2, none⟩ (.string x.2.2.1)).setCell ⟨g, k * 4 + 3, none⟩ (.string x.2.2.2)
theorem Blk.set {u : World} {g : Nat} {s : List Ln} (h : Blk u g s) (k : Nat) (hk : k < s.length) (x : Ln) : Blk (put u g k x) g (s.set k x) := by
  refine (heap_setCell_same _ _ _ _ _ _ (heap_setCell_same _ _ _ _ _ _ (heap_setCell_same _ _ _ _ _ _ (heap_setCell_same u _ _ _ _ _ h)))).trans ?_
  congr 1
  unfold cells
  rw [List.setIfInBounds_toArray, List.setIfInBounds_toArray, List.setIfInBounds_toArray, List.setIfInBounds_toArray, flat_set s k x hk]
theorem rep_at (n i : Nat) : ((List.replicate n ln0).flatMap flat1)[i]? = if i < n * 4 then some ([Value.int .i64 0, Value.int .i64 0, Value.string ⟨#[]⟩, Value.string ⟨#[]⟩].getD (i % 4) (.int .i64 0)) else none := by
  by_cases h : i < n * 4
  · rw [if_pos h]
    have hj : i / 4 < (List.replicate n ln0).length := by simp; omega
    have hr : (List.replicate n ln0).getD (i / 4) ln0 = ln0 := by rw [List.getD_eq_getElem?_getD, List.getElem?_replicate, if_pos (by omega)]; rfl
    have := cells_at (List.replicate n ln0) (i / 4) hj
    rw [hr] at this
    rcases (show i % 4 = 0 ∨ i % 4 = 1 ∨ i % 4 = 2 ∨ i % 4 = 3 by omega) with e | e | e | e
    · rw [e, show i = i / 4 * 4 by omega, this.1]; rfl
    · rw [e, show i = i / 4 * 4 + 1 by omega, this.2.1]; rfl
    · rw [e, show i = i / 4 * 4 + 2 by omega, this.2.2.1]; rfl
    · rw [e, show i = i / 4 * 4 + 3 by omega, this.2.2.2]; rfl
  · rw [if_neg h, List.getElem?_eq_none_iff]
    rw [flat_len]; simp; omega
theorem madeRow (n : Nat) : madeCells #[Value.int .i64 0, Value.int .i64 0, Value.string ⟨#[]⟩, Value.string ⟨#[]⟩] (n * 4) = cells (List.replicate n ln0) := by
  apply Array.ext
  · rw [size_madeCells]
    show n * 4 = (((List.replicate n ln0).flatMap flat1).toArray).size
    rw [List.size_toArray, flat_len, List.length_replicate]
  · intro i hi1 hi2
    rw [size_madeCells] at hi1
    have h2 : (cells (List.replicate n ln0))[i]? = some ([Value.int .i64 0, Value.int .i64 0, Value.string ⟨#[]⟩, Value.string ⟨#[]⟩].getD (i % 4) (.int .i64 0)) := by
      have := rep_at n i
      rw [if_pos hi1] at this
      simpa [cells] using this
    rw [Array.getElem?_eq_getElem hi2] at h2
    rw [Option.some.inj h2]
    rcases (show i % 4 = 0 ∨ i % 4 = 1 ∨ i % 4 = 2 ∨ i % 4 = 3 by omega) with e | e | e | e <;> simp [madeCells, e]
end Go.Proofs.YtndjjhcdnlkekaaDoor.rl
