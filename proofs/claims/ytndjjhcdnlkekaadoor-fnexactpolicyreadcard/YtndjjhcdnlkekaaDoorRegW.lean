/-
  Small words for regions taken by hand: a world under a letter of which a property is known; blocks that stay. No condition.
-/
import Derived.Test.YtndjjhcdnlkekaaDoorWin0
import Derived.Deep.RegionHeld3
import Derived.OrdersHeld
namespace Go.Proofs.YtndjjhcdnlkekaaDoor.rw
open Go.ChangeShapes Go.WideShapes Go.ChangeAt Go.RowKit
open Go.Proofs.YtndjjhcdnlkekaaDoor.wi (heap_lt)
set_option linter.unusedVariables false

theorem region_w {P : Program} {md : Region.Mode} {ops : Array Oper} {Q : Exit → Act → World → Prop} {S : World → Prop} {n : Nat} {l : Array Bool} {a : Act} {w0 : World} (R : World → Prop) (h : R w0) (hK : ∀ u, R u → wpAnyH P md ops Q S n l a u) : wpAnyH P md ops Q S n l a w0 := hK w0 h
/-- a block of the call's own, whole -/
def At (u : World) (q : Nat) (cs : Array Value) (T : TypeId) : Prop := u.heap[q]? = some (.cells cs T (0, 0))
variable {u u' : World} {q : Nat} {cs : Array Value} {T : TypeId}
theorem At.lt (h : At u q cs T) : q < u.heap.size := heap_lt h
theorem At.up (h : At u q cs T) (hb : Below u.heap.size u u') : At u' q cs T := (hb.block _ (heap_lt h)).trans h
theorem At.frozen (h : At u q cs T) (k : Nat) : u.frozen? ⟨q, k, none⟩ = false := frozen_of_row _ _ _ _ _ h
theorem At.cell (h : At u q cs T) (k : Nat) : u.cell? ⟨q, k, none⟩ = cs[k]? := by simp [World.cell?, show u.heap[q]? = some (.cells cs T (0, 0)) from h]
theorem At.set (h : At u q cs T) (k : Nat) (x : Value) : At (u.setCell ⟨q, k, none⟩ x) q (cs.setIfInBounds k x) T := heap_setCell_same u q k _ _ x h
theorem At.far {p : Nat} (h : At u q cs T) (hp : q ≠ p) (k : Nat) (x : Value) : At (u.setCell ⟨p, k, none⟩ x) q cs T := by
  show _ = _
  rw [heap_setCell_other _ _ _ _ hp]; exact h
theorem At.new (u : World) (cs : Array Value) (T : TypeId) : At (u.alloc (.cells cs T)) u.heap.size cs T := heap_alloc_new _ _
theorem up_alloc (u : World) (o : Obj) : Below u.heap.size u (u.alloc o) := (Below.refl _ _).alloc (Nat.le_refl _) o
theorem up_drew (u : World) : Below u.heap.size u u.drew := (Below.refl _ _).drew
/-- no old block turns -/
def Bel (w u : World) : Prop := Below w.heap.size w u
theorem Bel.up {w u u' : World} (h : Bel w u) (hb : Below u.heap.size u u') : Bel w u' := (show Below w.heap.size w u from h).trans (hb.mono (show Below w.heap.size w u from h).size)
end Go.Proofs.YtndjjhcdnlkekaaDoor.rw
