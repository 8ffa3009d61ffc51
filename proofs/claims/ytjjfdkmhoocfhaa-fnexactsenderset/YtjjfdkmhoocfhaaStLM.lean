/-
  Inside a law over a sender whose answers bear senders: what is known, and what stays where a row is marked. No condition.
-/
import Derived.Test.YtjjfdkmhoocfhaaStLs
import Derived.Test.YtjjfdkmhoocfhaaStV5
namespace Go.Proofs.Ytjjfdkmhoocfhaa.st
open Go.ChangeShapes Go.WideShapes Go.ChangeAt Go.RowKit
open Go.Proofs.Ytjjfdkmhoocfhaa.wi (heap_lt calls_w wp_w)
set_option linter.unusedVariables false

/-- behind the two answers: the argument, its copy and the copy's row, both answers and their rows, in this order -/
structure InM (w : World) (v : Value) (qa : Nat) (va : Value) (gx qx : Nat) (n : Nat) (qg : Nat) (vg : Value) (cd : Int) (al lx lg : List Ln) (u : World) : Prop where
  a : InA w v u
  wa : rw.At u qa #[va, .int .i64 cd] 57
  ra : OwnX u va al
  x : rw.At u qx #[.slice (some ⟨gx, 0, none⟩) n n] 49
  kx : RowX u gx 0 lx
  wg : rw.At u qg #[vg, .int .i64 cd] 57
  rg : OwnX u vg lg
  o1 : ∀ b, va.ownBlock = some b → b < qa
  o2 : w.heap.size < qa
  o3 : qa < gx
  o4 : gx < qx
  o5 : ∀ b, vg.ownBlock = some b → qx < b ∧ b < qg
  o6 : qx < qg
variable {w u u' : World} {v : Value} {qa : Nat} {va : Value} {gx qx n qg : Nat} {vg : Value} {cd : Int} {al lx lx' lg lg' : List Ln}
theorem InM.up (h : InM w v qa va gx qx n qg vg cd al lx lg u) (hb : Below u.heap.size u u') : InM w v qa va gx qx n qg vg cd al lx lg u' :=
  ⟨h.a.up hb, h.wa.up hb, h.ra.up hb, h.x.up hb, h.kx.up hb, h.wg.up hb, h.rg.up hb, h.o1, h.o2, h.o3, h.o4, h.o5, h.o6⟩
theorem InM.bel (h : InM w v qa va gx qx n qg vg cd al lx lg u) : Below w.heap.size w u := h.a.1
theorem At_kept {q : Nat} {cs : Array Value} {T : TypeId} {row : Option Nat} (h : rw.At u q cs T) (hg : u.grownBy u' row) (hne : some q ≠ row) : rw.At u' q cs T := (hg.block q h.lt hne).trans h
theorem InA.kept (h : InA w v u) {b : Nat} (hg : u.grownBy u' (some b)) (hb : w.heap.size < b) : InA w v u' :=
  ⟨h.1.grown hg h.1.size (fun j hj => by cases hj; omega), At_kept h.2 hg (by simp; omega)⟩
/-- the copy is marked -/
theorem InM.markX (h : InM w v qa va gx qx n qg vg cd al lx lg u) (hg : u.grownBy u' (some gx)) (hr : RowX u' gx 0 lx') : InM w v qa va gx qx n qg vg cd al lx' lg u' := by
  have o2 := h.o2
  have o3 := h.o3
  have o4 := h.o4
  have o6 := h.o6
  refine ⟨h.a.kept hg (by omega), At_kept h.wa hg (by simp; omega), h.ra.kept hg (.inr (fun e => by have := h.o1 gx e; omega)), At_kept h.x hg (by simp; omega), hr, At_kept h.wg hg (by simp; omega), h.rg.kept hg (.inr (fun e => by have := h.o5 gx e; omega)), h.o1, o2, o3, o4, h.o5, o6⟩
/-- the program's answer is marked -/
theorem InM.markG (h : InM w v qa va gx qx n qg vg cd al lx lg u) (hg : u.grownBy u' vg.ownBlock) (hr : OwnX u' vg lg') : InM w v qa va gx qx n qg vg cd al lx lg' u' := by
  have o2 := h.o2
  have o3 := h.o3
  have o4 := h.o4
  have o6 := h.o6
  cases hb : vg.ownBlock with
  | none =>
    rw [hb] at hg
    have hbl : Below u.heap.size u u' := ⟨hg.os, hg.tape, hg.output, hg.size, fun k hk => hg.block k hk (by simp)⟩
    have h2 := h.up hbl
    exact ⟨h2.a, h2.wa, h2.ra, h2.x, h2.kx, h2.wg, hr, h.o1, o2, o3, o4, h.o5, o6⟩
  | some b =>
    rw [hb] at hg
    have h5 := h.o5 b hb
    refine ⟨h.a.kept hg (by omega), At_kept h.wa hg (by simp; omega), h.ra.kept hg (.inr (fun e => by have := h.o1 b e; omega)), At_kept h.x hg (by simp; omega), h.kx.kept hg (by simp; omega), At_kept h.wg hg (by simp; omega), hr, h.o1, o2, o3, o4, h.o5, o6⟩
theorem Blk.rowX {g : Nat} {l : List Ln} (h : Blk u g l) : RowX u g 0 l := by
  refine ⟨cells l, h, fun j hj => ?_⟩
  have := cells_at l j hj
  rw [Nat.zero_add]
  constructor
  · simpa [cells] using this.1
  · simpa [cells] using this.2
end Go.Proofs.Ytjjfdkmhoocfhaa.st
