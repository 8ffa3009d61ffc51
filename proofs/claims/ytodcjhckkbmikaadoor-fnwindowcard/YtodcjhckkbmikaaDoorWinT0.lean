/-
  Blocks of numbers, and a window's row. No condition.
-/
import Derived.Test.YtodcjhckkbmikaaDoorWinR
import Derived.Deep.RegionWith
import Derived.Deep.QuietTactic
import Derived.BigQuiet
namespace Go.Proofs.YtodcjhckkbmikaaDoor.wi
open Go.ChangeShapes Go.WideShapes Go.ChangeAt Go.RowKit
set_option linter.unusedVariables false

def cells (s : List Int) : Array Value := (s.map (Value.int .i64)).toArray
/-- a block that holds these numbers -/
def Blk (u : World) (g : Nat) (s : List Int) : Prop := u.heap[g]? = some (.cells (cells s) 2 (0, 0))
theorem Blk.row {u : World} {g : Nat} {s : List Int} (h : Blk u g s) : Row u g 0 s := by
  intro j hj
  rw [Nat.zero_add]
  simp [World.cell?, show u.heap[g]? = some (.cells (cells s) 2 (0, 0)) from h, cells, List.getElem?_eq_getElem hj]
theorem Blk.lt {u : World} {g : Nat} {s : List Int} (h : Blk u g s) : g < u.heap.size := heap_lt h
theorem Blk.up {u u' : World} {g : Nat} {s : List Int} (h : Blk u g s) (hb : Below u.heap.size u u') : Blk u' g s := (hb.block _ (heap_lt h)).trans h
theorem Blk.slice {u : World} {g cap : Nat} {s : List Int} (h : Blk u g s) : SliceIs u (.slice (some ⟨g, 0, none⟩) s.length cap) s := .inr ⟨g, 0, cap, h.lt, rfl, h.row⟩
theorem SliceIs.up {w u : World} {v : Value} {s : List Int} (h : SliceIs w v s) (hb : Below w.heap.size w u) : SliceIs u v s := by
  rcases h with h | ⟨b, off, cap, hb', rfl, hR⟩
  · exact .inl h
  · exact .inr ⟨b, off, cap, Nat.lt_of_lt_of_le hb' hb.size, rfl, hR.below hb hb'⟩
/-- the copy on its way -/
def upTo (s : List Int) (k : Nat) : List Int := s.take k ++ List.replicate (s.length - k) 0
theorem upTo_zero (s : List Int) : upTo s 0 = List.replicate s.length 0 := by simp [upTo]
theorem upTo_end (s : List Int) : upTo s s.length = s := by simp [upTo]
theorem upTo_length (s : List Int) (k : Nat) (h : k ≤ s.length) : (upTo s k).length = s.length := by simp [upTo]; omega
theorem upTo_set (s : List Int) (k : Nat) (h : k < s.length) : (upTo s k).set k (s.getD k 0) = upTo s (k + 1) := by
  unfold upTo
  have e : s.length - k = (s.length - (k + 1)) + 1 := by omega
  rw [List.set_append_right _ _ (by simp; omega), e, List.replicate_succ]
  have e1 : k - (s.take k).length = 0 := by simp; omega
  rw [e1, List.set_cons_zero, List.take_succ_eq_append_getElem h, List.append_assoc]
  simp [List.getD, List.getElem?_eq_getElem h]
theorem cells_set (s : List Int) (k : Nat) (x : Int) : (cells s).setIfInBounds k (.int .i64 x) = cells (s.set k x) := by
  unfold cells
  rw [List.setIfInBounds_toArray, List.map_set]
theorem madeRow (n : Nat) : madeCells #[Value.int .i64 0] n = cells (List.replicate n 0) := by
  unfold madeCells cells
  apply Array.ext'
  simp only [List.map_replicate]
  apply List.ext_getElem
  · simp
  · intro i h1 h2
    simp [Nat.mod_one]
theorem info64 : (Tryd.prog.info? 2).map (fun i => (i.zero, i.size, i.bytes)) = some (some (.int .i64 0), 1, 8) := by kernel_rfl
theorem Blk.set {u : World} {g : Nat} {s : List Int} (h : Blk u g s) (k : Nat) (x : Int) : Blk (u.setCell ⟨g, k, none⟩ (.int .i64 x)) g (s.set k x) := by
  refine (heap_setCell_same u _ _ _ _ _ h).trans ?_
  rw [cells_set]
theorem Blk.frozen {u : World} {g : Nat} {s : List Int} (h : Blk u g s) (k : Nat) : u.frozen? ⟨g, k, none⟩ = false := frozen_of_row _ _ _ _ _ h
theorem Blk.cell {u : World} {g : Nat} {s : List Int} (h : Blk u g s) (k : Nat) (hk : k < s.length) : u.cell? ⟨g, k, none⟩ = some (.int .i64 (s.getD k 0)) := by
  have := h.row k hk
  rwa [Nat.zero_add] at this

theorem infoW : (Tryd.prog.info? 25).map (·.size) = some 3 := by kernel_rfl
theorem loadW {u : World} {q : Nat} {e t : Int} {z : Value} (h : u.heap[q]? = some (.cells #[.int .i64 e, .int .i64 t, z] 25 (0, 0))) : (loadVar 25 ⟨q, 0, none⟩).run Tryd.prog u = .ok (.agg #[.int .i64 e, .int .i64 t, z]) u :=
  run_loadVar_row u q _ _ _ _ _ h Tryd.underlying25 rfl infoW
end Go.Proofs.YtodcjhckkbmikaaDoor.wi
