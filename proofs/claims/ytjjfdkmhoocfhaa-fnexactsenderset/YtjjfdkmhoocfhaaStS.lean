/-
  The law's own helpers on slices of states: a slice copied, held against another: what they tell; no old block turns. No condition.
-/
import Derived.Test.YtjjfdkmhoocfhaaStS0
namespace Go.Proofs.Ytjjfdkmhoocfhaa.st
open Go.ChangeShapes Go.WideShapes Go.ChangeAt Go.RowKit
open Go.Proofs.Ytjjfdkmhoocfhaa.wi (heap_lt calls_w wp_w)
set_option linter.unusedVariables false
set_option linter.unusedSimpArgs false

def cells (s : List Ln) : Array Value := (s.flatMap fun x => [Value.int .i64 x.1, Value.string x.2]).toArray
/-- a block that holds these states -/
def Blk (u : World) (g : Nat) (s : List Ln) : Prop := u.heap[g]? = some (.cells (cells s) 28 (0, 0))
theorem cells_at : ∀ (s : List Ln) (j : Nat), j < s.length → (s.flatMap fun x => [Value.int .i64 x.1, Value.string x.2])[j * 2]? = some (.int .i64 (s.getD j ln0).1) ∧ (s.flatMap fun x => [Value.int .i64 x.1, Value.string x.2])[j * 2 + 1]? = some (.string (s.getD j ln0).2)
  | [], j, h => absurd h (by simp)
  | x :: s, 0, _ => by simp
  | x :: s, j + 1, h => by
    have := cells_at s j (by simpa using h)
    have e1 : (j + 1) * 2 = j * 2 + 2 := by omega
    have e2 : (j + 1) * 2 + 1 = (j * 2 + 1) + 2 := by omega
    rw [List.flatMap_cons, e2, e1]
    simpa using this
theorem flat_len : ∀ s : List Ln, (s.flatMap fun x => [Value.int .i64 x.1, Value.string x.2]).length = s.length * 2
  | [] => rfl
  | x :: s => by rw [List.flatMap_cons, List.length_append, flat_len s]; simp; omega
theorem Blk.row {u : World} {g : Nat} {s : List Ln} (h : Blk u g s) : Row u g 0 s := by
  intro j hj
  have := cells_at s j hj
  refine ⟨?_, ?_⟩
  · rw [Nat.zero_add, World.cell?, show u.heap[g]? = some (.cells (cells s) 28 (0, 0)) from h]
    simpa [cells] using this.1
  · rw [Nat.zero_add, World.cell?, show u.heap[g]? = some (.cells (cells s) 28 (0, 0)) from h]
    simpa [cells] using this.2
theorem Blk.lt {u : World} {g : Nat} {s : List Ln} (h : Blk u g s) : g < u.heap.size := heap_lt h
theorem Blk.up {u u' : World} {g : Nat} {s : List Ln} (h : Blk u g s) (hb : Below u.heap.size u u') : Blk u' g s := (hb.block _ (heap_lt h)).trans h
theorem Blk.slice {u : World} {g cap : Nat} {s : List Ln} (h : Blk u g s) : SliceIs u (.slice (some ⟨g, 0, none⟩) s.length cap) s := .inr ⟨g, 0, cap, h.lt, rfl, h.row⟩
/-- the copy on its way -/
def upTo (s : List Ln) (k : Nat) : List Ln := s.take k ++ List.replicate (s.length - k) ln0
theorem upTo_zero (s : List Ln) : upTo s 0 = List.replicate s.length ln0 := by simp [upTo]
theorem upTo_end (s : List Ln) : upTo s s.length = s := by simp [upTo]
theorem upTo_length (s : List Ln) (k : Nat) (h : k ≤ s.length) : (upTo s k).length = s.length := by simp [upTo]; omega
theorem upTo_set (s : List Ln) (k : Nat) (h : k < s.length) : (upTo s k).set k (s.getD k ln0) = upTo s (k + 1) := by
  unfold upTo
  have e : s.length - k = (s.length - (k + 1)) + 1 := by omega
  rw [List.set_append_right _ _ (by simp; omega), e, List.replicate_succ]
  have e1 : k - (s.take k).length = 0 := by simp; omega
  rw [e1, List.set_cons_zero, List.take_succ_eq_append_getElem h, List.append_assoc]
  simp [List.getD, List.getElem?_eq_getElem h]
theorem flat_set : ∀ (s : List Ln) (k : Nat) (x : Ln), k < s.length → ((s.flatMap fun x => [Value.int .i64 x.1, Value.string x.2]).set (k * 2) (.int .i64 x.1)).set (k * 2 + 1) (.string x.2) = (s.set k x).flatMap fun x => [Value.int .i64 x.1, Value.string x.2]
  | [], k, x, h => absurd h (by simp)
  | y :: s, 0, x, _ => by simp
  | y :: s, k + 1, x, h => by
    have := flat_set s k x (by simpa using h)
    have e1 : (k + 1) * 2 = k * 2 + 2 := by omega
    have e2 : (k + 1) * 2 + 1 = (k * 2 + 1) + 2 := by omega
    rw [List.flatMap_cons, e1, List.set_cons_succ, List.flatMap_cons, ← this]
    simp
theorem Blk.set {u : World} {g : Nat} {s : List Ln} (h : Blk u g s) (k : Nat) (hk : k < s.length) (x : Ln) : Blk ((u.setCell ⟨g, k * 2, none⟩ (.int .i64 x.1)).setCell ⟨g, k * 2 + 1, none⟩ (.string x.2)) g (s.set k x) := by
  refine (heap_setCell_same _ _ _ _ _ _ (heap_setCell_same u _ _ _ _ _ h)).trans ?_
  congr 1
  unfold cells
  rw [List.setIfInBounds_toArray, List.setIfInBounds_toArray, flat_set s k x hk]
theorem madeRow : ∀ (n : Nat), madeCells #[Value.int .i64 0, Value.string ⟨#[]⟩] (n * 2) = cells (List.replicate n ln0) := by
  intro n
  apply Array.ext
  · rw [size_madeCells]; simp [cells, flat_len]
  · intro i hi1 hi2
    rw [size_madeCells] at hi1
    have hr : ∀ j, j < n → (List.replicate n ln0).getD j ln0 = ln0 := fun j hj => by rw [List.getD_eq_getElem?_getD, List.getElem?_replicate, if_pos hj]; rfl
    rcases (show (∃ j, i = j * 2 ∧ j < n) ∨ (∃ j, i = j * 2 + 1 ∧ j < n) by
      rcases Nat.mod_two_eq_zero_or_one i with h | h
      · exact .inl ⟨i / 2, by omega, by omega⟩
      · exact .inr ⟨i / 2, by omega, by omega⟩) with ⟨j, rfl, hj⟩ | ⟨j, rfl, hj⟩
    · have h1 := (cells_at (List.replicate n ln0) j (by simpa using hj)).1
      rw [hr j hj] at h1
      have h2 : (cells (List.replicate n ln0))[j * 2]? = some (Value.int .i64 0) := by simpa [cells] using h1
      rw [Array.getElem?_eq_getElem hi2] at h2
      rw [Option.some.inj h2]
      simp [madeCells]
    · have h1 := (cells_at (List.replicate n ln0) j (by simpa using hj)).2
      rw [hr j hj] at h1
      have h2 : (cells (List.replicate n ln0))[j * 2 + 1]? = some (Value.string ⟨#[]⟩) := by simpa [cells] using h1
      rw [Array.getElem?_eq_getElem hi2] at h2
      rw [Option.some.inj h2]
      have hm : (j * 2 + 1) % 2 = 1 := by omega
      simp [madeCells, hm]
end Go.Proofs.Ytjjfdkmhoocfhaa.st
