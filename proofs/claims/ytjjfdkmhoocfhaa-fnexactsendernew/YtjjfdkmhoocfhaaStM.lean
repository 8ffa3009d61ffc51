/-
  Two answers in a law's hands, the second one marked: what stays. No condition.
-/
import Derived.Test.YtjjfdkmhoocfhaaStV3
import Derived.Test.YtjjfdkmhoocfhaaRegW
namespace Go.Proofs.Ytjjfdkmhoocfhaa.st
open Go.ChangeShapes Go.WideShapes Go.ChangeAt Go.RowKit
open Go.Proofs.Ytjjfdkmhoocfhaa.wi (heap_lt calls_w wp_w)
set_option linter.unusedVariables false

/-- what is known behind the two answers: their blocks, their rows, and that the second's row lies behind the first's block -/
structure InRS (w : World) (C : Value → Array Value) (T : TypeId) (qa : Nat) (va : Value) (qg : Nat) (vg : Value) (al lg : List Ln) (u : World) : Prop where
  below : Below w.heap.size w u
  wa : rw.At u qa (C va) T
  ra : OwnX u va al
  wg : rw.At u qg (C vg) T
  rg : OwnX u vg lg
  o1 : ∀ b, va.ownBlock = some b → b < qa
  o2 : w.heap.size ≤ qa
  o3 : ∀ b, vg.ownBlock = some b → qa < b ∧ b < qg
  o4 : qa < qg
variable {w u u' : World} {C : Value → Array Value} {T : TypeId} {qa : Nat} {va : Value} {qg : Nat} {vg : Value} {al lg lg' : List Ln}
theorem InRS.up (h : InRS w C T qa va qg vg al lg u) (hb : Below u.heap.size u u') : InRS w C T qa va qg vg al lg u' :=
  ⟨h.below.trans (hb.mono h.below.size), h.wa.up hb, h.ra.up hb, h.wg.up hb, h.rg.up hb, h.o1, h.o2, h.o3, h.o4⟩
theorem InRS.mark (h : InRS w C T qa va qg vg al lg u) (hg : u.grownBy u' vg.ownBlock) (hr : OwnX u' vg lg') : InRS w C T qa va qg vg al lg' u' := by
  have h2 := h.o2
  have h4 := h.o4
  cases hb : vg.ownBlock with
  | none =>
    rw [hb] at hg
    exact ⟨h.below.grown hg h.below.size (fun j hj => by cases hj), (hg.block _ h.wa.lt (by simp)).trans h.wa, h.ra.kept hg (.inl rfl), (hg.block _ h.wg.lt (by simp)).trans h.wg, hr, h.o1, h2, h.o3, h4⟩
  | some b =>
    rw [hb] at hg
    have h5 := h.o3 b hb
    refine ⟨h.below.grown hg h.below.size (fun j hj => by cases hj; omega), (hg.block _ h.wa.lt (by simp; omega)).trans h.wa, h.ra.kept hg (.inr ?_), (hg.block _ h.wg.lt (by simp; omega)).trans h.wg, hr, h.o1, h2, h.o3, h4⟩
    intro e
    have := h.o1 b e
    omega
theorem own_lt {base : Nat} {v : Value} {l : List Ln} (h : OwS base v l u) : ∀ b, v.ownBlock = some b → base ≤ b ∧ b < u.heap.size := fun b hb => by
  obtain ⟨h1, cur, h2⟩ := h.block b hb
  exact ⟨h1, heap_lt h2⟩
end Go.Proofs.Ytjjfdkmhoocfhaa.st
