/-
  Inside a law that takes a sender: what is known. No condition.
-/
import Derived.Test.YtjjfdkmhoocfhaaStU
namespace Go.Proofs.Ytjjfdkmhoocfhaa.st
open Go.ChangeShapes Go.WideShapes Go.ChangeAt Go.RowKit
open Go.Proofs.Ytjjfdkmhoocfhaa.wi (heap_lt calls_w wp_w)
set_option linter.unusedVariables false

/-- the argument's block -/
def InA (w : World) (v : Value) (u : World) : Prop := Below w.heap.size w u ∧ rw.At u w.heap.size #[v] 44
theorem InA.new {w : World} {v : Value} : InA w v (w.alloc (.cells #[v] 44)) := ⟨(Below.refl _ _).alloc (Nat.le_refl _) _, rw.At.new _ _ _⟩
theorem InA.up {w u u' : World} {v : Value} (h : InA w v u) (hb : Below u.heap.size u u') : InA w v u' := ⟨h.1.trans (hb.mono h.1.size), h.2.up hb⟩
theorem InA.cell {w u : World} {v : Value} (h : InA w v u) : u.cell? ⟨w.heap.size, 0, none⟩ = some v := h.2.cell 0
theorem InA.lt {w u : World} {v : Value} (h : InA w v u) : w.heap.size < u.heap.size := h.2.lt
theorem InA.set {w u : World} {v : Value} (h : InA w v u) {q : Nat} (hq : w.heap.size < q) (j : Nat) (x : Value) : InA w v (u.setCell ⟨q, j, none⟩ x) := ⟨h.1.setCell (p := ⟨q, j, none⟩) (by show _ ≤ q; omega) x, h.2.far (by omega) j x⟩
/-- the copy's row too -/
def InX (w : World) (v : Value) (g : Nat) (l : List Ln) (u : World) : Prop := InA w v u ∧ Blk u g l
theorem InX.up {w u u' : World} {v : Value} {g : Nat} {l : List Ln} (h : InX w v g l u) (hb : Below u.heap.size u u') : InX w v g l u' := ⟨h.1.up hb, h.2.up hb⟩
/-- the copy that the program is handed, in a variable of the law's -/
structure InC (w : World) (v : Value) (q g : Nat) (l : List Ln) (u : World) : Prop where
  a : InA w v u
  k : Blk u g l
  x : rw.At u q #[.slice (some ⟨g, 0, none⟩) l.length l.length] 49
theorem InC.up {w u u' : World} {v : Value} {q g : Nat} {l : List Ln} (h : InC w v q g l u) (hb : Below u.heap.size u u') : InC w v q g l u' := ⟨h.a.up hb, h.k.up hb, h.x.up hb⟩
theorem InC.cells {w u : World} {v : Value} {q g : Nat} {l : List Ln} (h : InC w v q g l u) : u.cell? ⟨w.heap.size, 0, none⟩ = some v ∧ u.cell? ⟨q, 0, none⟩ = some (.slice (some ⟨g, 0, none⟩) l.length l.length) := ⟨h.a.cell, h.x.cell 0⟩
theorem InC.bel {w u : World} {v : Value} {q g : Nat} {l : List Ln} (h : InC w v q g l u) : Below w.heap.size w u := h.a.1
theorem InC.slice {w u : World} {v : Value} {q g : Nat} {l : List Ln} (h : InC w v q g l u) : SliceIs u (.slice (some ⟨g, 0, none⟩) l.length l.length) l := h.k.slice
theorem InC.new {w u : World} {v : Value} {g : Nat} {l : List Ln} (h : InA w v u) (hk : Blk u g l) : InC w v u.heap.size g l (u.alloc (.cells #[.slice (some ⟨g, 0, none⟩) l.length l.length] 49)) := ⟨h.up (rw.up_alloc _ _), hk.up (rw.up_alloc _ _), rw.At.new _ _ _⟩
theorem szV_ok {left : Int} {l : List Ln} (h : ¬ szV left l < 0) (hl : left ≤ 1048576) : l.length ≤ 1048576 ∧ szV left l = left - ((l.length : Int) + (tot l : Int)) := by
  unfold szV at h ⊢
  split at h
  · exact absurd (by decide) h
  · rename_i h2
    rw [if_neg h2]
    exact ⟨by omega, rfl⟩
end Go.Proofs.Ytjjfdkmhoocfhaa.st
