/-
  What is known while the program writes a patch: the call's own row of texts, one line in a block. No condition.
-/
import Derived.Test.YtikkohecanmefabPbN
namespace Go.Proofs.Ytikkohecanmefab.ls
open Go.ChangeShapes Go.WideShapes Go.ChangeAt Go.RowKit
open Go.Proofs.Ytikkohecanmefab.ot
open Go.Proofs.Ytikkohecanmefab.wi (heap_lt)
set_option linter.unusedVariables false

theorem lit1 (w : World) (t : ByteArray) : OwT w.heap.size (.slice (some ⟨w.heap.size, 0, none⟩) 1 1) [t] (w.alloc (.cells #[.string t] 9)) :=
  ⟨rfl, .inr ⟨w.heap.size, 1, #[.string t], rfl, Nat.le_refl _, heap_alloc_new _ _, Nat.le_refl _, by decide, by simp, by simp⟩⟩
/-- the row -/
structure InJ (W : World) (v : Value) (l : List ByteArray) (u : World) : Prop where
  bel : Below W.heap.size W u
  row : OwT W.heap.size v l u
theorem InJ.up {W u u' : World} {v : Value} {l : List ByteArray} (h : InJ W v l u) (hb : Below u.heap.size u u') : InJ W v l u' := ⟨h.bel.trans (hb.mono h.bel.size), h.row.up hb⟩
theorem InJ.app {W u u' : World} {v v' : Value} {l m : List ByteArray} (h : InJ W v l u) (hg : u.grownBy u' v.ownBlock) (hr : u'.ownsRow W.heap.size 9 1 v' (l.length + m.length) (l.map Value.string ++ m.map Value.string)) : InJ W v' (l ++ m) u' :=
  ⟨below_own h.bel hg h.row (Nat.le_refl _) h.bel.size, OwT.of hr⟩
/-- and a line -/
structure InQ (W : World) (v : Value) (l : List ByteArray) (q : Nat) (z : Int) (x : ByteArray) (u : World) : Prop where
  j : InJ W v l u
  line : u.heap[q]? = some (.cells #[.int .i64 z, .string x] 60 (0, 0))
theorem InQ.up {W u u' : World} {v : Value} {l : List ByteArray} {q : Nat} {z : Int} {x : ByteArray} (h : InQ W v l q z x u) (hb : Below u.heap.size u u') : InQ W v l q z x u' := ⟨h.j.up hb, (hb.block _ (heap_lt h.line)).trans h.line⟩
theorem InQ.app {W u u' : World} {v v' : Value} {l m : List ByteArray} {q : Nat} {z : Int} {x : ByteArray} (h : InQ W v l q z x u) (hl : l ≠ []) (hg : u.grownBy u' v.ownBlock) (hr : u'.ownsRow W.heap.size 9 1 v' (l.length + m.length) (l.map Value.string ++ m.map Value.string)) : InQ W v' (l ++ m) q z x u' := by
  refine ⟨h.j.app hg hr, ?_⟩
  obtain ⟨g, cap, rfl, hb, ⟨cur, hc⟩, _⟩ := h.j.row.block hl
  refine (hg.block q (heap_lt h.line) (fun e => ?_)).trans h.line
  obtain rfl : q = g := by simpa [Value.ownBlock] using e
  rw [h.line] at hc
  cases hc
theorem InQ.cells {W u : World} {v : Value} {l : List ByteArray} {q : Nat} {z : Int} {x : ByteArray} (h : InQ W v l q z x u) : u.cell? ⟨q, 0, none⟩ = some (.int .i64 z) ∧ u.cell? ⟨q, 1, none⟩ = some (.string x) := ⟨by simp [World.cell?, h.line], by simp [World.cell?, h.line]⟩
theorem InQ.ne {W u : World} {v : Value} {l : List ByteArray} (h : InJ W v l u) : W.heap.size ≤ u.heap.size := h.bel.size
theorem cell2 (w : World) (a b : Value) (t : TypeId) : ∀ j u, [a, b][j]? = some u → (w.alloc (.cells #[a, b] t)).cell? ((⟨w.heap.size, 0, none⟩ : Addr).add j) = some u := by
  intro j u hj
  match j, hj with
  | 0, hj => simp at hj; subst hj; simp [Addr.add]
  | 1, hj => simp at hj; subst hj; simp [Addr.add]
  | (j + 2), hj => simp at hj
theorem cell3 (w : World) (a b c : Value) (t : TypeId) : ∀ j u, [a, b, c][j]? = some u → (w.alloc (.cells #[a, b, c] t)).cell? ((⟨w.heap.size, 0, none⟩ : Addr).add j) = some u := by
  intro j u hj
  match j, hj with
  | 0, hj => simp at hj; subst hj; simp [Addr.add]
  | 1, hj => simp at hj; subst hj; simp [Addr.add]
  | 2, hj => simp at hj; subst hj; simp [Addr.add]
  | (j + 3), hj => simp at hj
theorem pxs_ne (s : List Ln) (k : Nat) : pxs s k ≠ [] := fun h => by have := pxs_length s k; rw [h] at this; simp at this
end Go.Proofs.Ytikkohecanmefab.ls
