/-
  Blocks and slices of texts. No condition.
-/
import Derived.Test.YtndjjhcdnlkekaaDoorWin0
import Derived.Deep.RegionWith
import Derived.Deep.QuietTactic
import Derived.BigQuiet
namespace Go.Proofs.YtndjjhcdnlkekaaDoor.ss
open Go.ChangeShapes Go.WideShapes Go.ChangeAt Go.RowKit
open Go.Proofs.YtndjjhcdnlkekaaDoor.wi (heap_lt calls_w wp_w)
set_option linter.unusedVariables false

def none0 : ByteArray := ⟨#[]⟩
/-- a slice that holds these texts -/
def Row (w : World) (b off : Nat) (s : List ByteArray) : Prop := ∀ j, j < s.length → w.cell? ⟨b, off + j, none⟩ = some (.string (s.getD j ⟨#[]⟩))
def SliceIs (w : World) (v : Value) (s : List ByteArray) : Prop := (∃ p cap, s = [] ∧ v = .slice p 0 cap) ∨ ∃ b off cap, b < w.heap.size ∧ v = .slice (some ⟨b, off, none⟩) s.length cap ∧ Row w b off s
theorem Row.below {w u : World} {n b off : Nat} {s : List ByteArray} (h : Row w b off s) (hB : Below n w u) (hb : b < n) : Row u b off s := fun j hj => (hB.cell (p := ⟨b, off + j, none⟩) hb).trans (h j hj)
def cells (s : List ByteArray) : Array Value := (s.map Value.string).toArray
/-- a block that holds these texts -/
def Blk (u : World) (g : Nat) (s : List ByteArray) : Prop := u.heap[g]? = some (.cells (cells s) 9 (0, 0))
theorem Blk.row {u : World} {g : Nat} {s : List ByteArray} (h : Blk u g s) : Row u g 0 s := by
  intro j hj
  rw [Nat.zero_add]
  simp [World.cell?, show u.heap[g]? = some (.cells (cells s) 9 (0, 0)) from h, cells, List.getElem?_eq_getElem hj]
theorem Blk.lt {u : World} {g : Nat} {s : List ByteArray} (h : Blk u g s) : g < u.heap.size := heap_lt h
theorem Blk.up {u u' : World} {g : Nat} {s : List ByteArray} (h : Blk u g s) (hb : Below u.heap.size u u') : Blk u' g s := (hb.block _ (heap_lt h)).trans h
theorem Blk.slice {u : World} {g cap : Nat} {s : List ByteArray} (h : Blk u g s) : SliceIs u (.slice (some ⟨g, 0, none⟩) s.length cap) s := .inr ⟨g, 0, cap, h.lt, rfl, h.row⟩
theorem SliceIs.up {w u : World} {v : Value} {s : List ByteArray} (h : SliceIs w v s) (hb : Below w.heap.size w u) : SliceIs u v s := by
  rcases h with h | ⟨b, off, cap, hb', rfl, hR⟩
  · exact .inl h
  · exact .inr ⟨b, off, cap, Nat.lt_of_lt_of_le hb' hb.size, rfl, hR.below hb hb'⟩
theorem SliceIs.shape {w : World} {v : Value} {s : List ByteArray} (h : SliceIs w v s) : ∃ p cap, v = .slice p s.length cap := by
  rcases h with ⟨p, cap, rfl, rfl⟩ | ⟨b, off, cap, hb, rfl, hR⟩
  · exact ⟨_, _, rfl⟩
  · exact ⟨_, _, rfl⟩
/-- the copy on its way -/
def upTo (s : List ByteArray) (k : Nat) : List ByteArray := s.take k ++ List.replicate (s.length - k) ⟨#[]⟩
theorem upTo_zero (s : List ByteArray) : upTo s 0 = List.replicate s.length ⟨#[]⟩ := by simp [upTo]
theorem upTo_end (s : List ByteArray) : upTo s s.length = s := by simp [upTo]
theorem upTo_length (s : List ByteArray) (k : Nat) (h : k ≤ s.length) : (upTo s k).length = s.length := by simp [upTo]; omega
theorem upTo_set (s : List ByteArray) (k : Nat) (h : k < s.length) : (upTo s k).set k (s.getD k ⟨#[]⟩) = upTo s (k + 1) := by
  unfold upTo
  have e : s.length - k = (s.length - (k + 1)) + 1 := by omega
  rw [List.set_append_right _ _ (by simp; omega), e, List.replicate_succ]
  have e1 : k - (s.take k).length = 0 := by simp; omega
  rw [e1, List.set_cons_zero, List.take_succ_eq_append_getElem h, List.append_assoc]
  simp [List.getD, List.getElem?_eq_getElem h]
theorem cells_set (s : List ByteArray) (k : Nat) (x : ByteArray) : (cells s).setIfInBounds k (.string x) = cells (s.set k x) := by
  unfold cells
  rw [List.setIfInBounds_toArray, List.map_set]
theorem madeRow (n : Nat) : madeCells #[Value.string ⟨#[]⟩] n = cells (List.replicate n ⟨#[]⟩) := by
  unfold madeCells cells
  apply Array.ext'
  simp only [List.map_replicate]
  apply List.ext_getElem
  · simp
  · intro i h1 h2
    simp [Nat.mod_one]
theorem infoS : (Tryd.prog.info? 9).map (fun i => (i.zero, i.size, i.bytes)) = some (some (.string ⟨#[]⟩), 1, 16) := by kernel_rfl
theorem Blk.set {u : World} {g : Nat} {s : List ByteArray} (h : Blk u g s) (k : Nat) (x : ByteArray) : Blk (u.setCell ⟨g, k, none⟩ (.string x)) g (s.set k x) := by
  refine (heap_setCell_same u _ _ _ _ _ h).trans ?_
  rw [cells_set]
theorem Blk.frozen {u : World} {g : Nat} {s : List ByteArray} (h : Blk u g s) (k : Nat) : u.frozen? ⟨g, k, none⟩ = false := frozen_of_row _ _ _ _ _ h
theorem Blk.cell {u : World} {g : Nat} {s : List ByteArray} (h : Blk u g s) (k : Nat) (hk : k < s.length) : u.cell? ⟨g, k, none⟩ = some (.string (s.getD k ⟨#[]⟩)) := by
  have := h.row k hk
  rwa [Nat.zero_add] at this
theorem below_drewN {w u : World} {n : Nat} (h : Below n w u) (m : Nat) : Below n w (u.drewN m) := ⟨h.os, h.tape, h.output, h.size, h.block⟩
theorem beqT {a b : ByteArray} (h : a = b) : (a.toList == b.toList) = true := by subst h; simp
theorem beqF {s t : ByteArray} (h : ¬ s = t) : (s.toList == t.toList) = false := by
  rw [beq_eq_false_iff_ne, ByteArray.toList_eq, ByteArray.toList_eq]
  intro e
  refine h ?_
  cases s; cases t; simp only [ByteArray.mk.injEq]; exact Array.ext' e
end Go.Proofs.YtndjjhcdnlkekaaDoor.ss
