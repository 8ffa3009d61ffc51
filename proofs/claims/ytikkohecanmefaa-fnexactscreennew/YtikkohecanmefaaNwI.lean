/-
  The program's ScreenNew: a blank screen of that size, or a code. No condition.
-/
import Derived.Test.YtikkohecanmefaaSzI
namespace Go.Proofs.Ytikkohecanmefaa.sc
open Go.ChangeShapes Go.WideShapes Go.ChangeAt Go.RowKit
open Go.Proofs.Ytikkohecanmefaa.ss (beqT beqF Row SliceIs infoS)
open Go.Proofs.Ytikkohecanmefaa.ot
open Go.Proofs.Ytikkohecanmefaa.wi (heap_lt calls_w wp_w)
set_option linter.unusedVariables false

/-- a screen with a code is handed back, its rows in a row of their own -/
def ScrPost (w : World) (l : List ByteArray) (i k : Int) (e : ByteArray) (cd : Int) (r : Ending) (w' : World) : Prop := ∃ v, r = .returned (.agg #[v, .int .i64 i, .int .i64 k, .string e, .int .i64 cd]) ∧ Below w.heap.size w w' ∧ w'.ownsRow w.heap.size 9 1 v l.length (l.map Value.string)
theorem infoO : (Try.prog.info? 32).map (·.size) = some 5 := by kernel_rfl
open Classical in
set_option maxHeartbeats 8000000 in
theorem newI_no (a b : Int) (w : World) (h : ¬ SizeR a b) : Calls Try.prog 15 #[.int .i64 a, .int .i64 b] w (ScrPost w [] 0 0 ⟨#[]⟩ 1) := by
  have hs := sizeI_any a b
  rw [decide_eq_false h] at hs
  have HB : Hid (∀ o, Below w.heap.size w (w.alloc o)) := fun o => (Below.refl _ _).alloc (Nat.le_refl _) o
  go_enter Try.func15, Try.ntmps15
  go_wp2_with (go_at_call 37; (with_reducible refine (hs _).mono ?_); rintro r w' ⟨rfl, hw'⟩; obtain rfl := hw'.symm)
  exact bodyPost_ret (results_cell_row Try.results15 _ _ w.heap.size _ #[.slice none 0 0, .int .i64 0, .int .i64 0, .string ⟨#[]⟩, .int .i64 1] _ _ rfl (heap_alloc_new _ _) Try.underlying32 rfl infoO) rfl ⟨_, rfl, HB.out _, OwT.nil _ _⟩
/-- ahead of the answer's being filled -/
structure ScrFin (w : World) (l : List ByteArray) (v : Value) (u : World) : Prop where
  bel : Below w.heap.size w u
  res : u.heap[w.heap.size]? = some (.cells #[.slice none 0 0, .int .i64 0, .int .i64 0, .string ⟨#[]⟩, .int .i64 0] 32 (0, 0))
  own : u.ownsRow w.heap.size 9 1 v l.length (l.map Value.string)
theorem ScrFin.done {w u : World} {l : List ByteArray} {v : Value} (h : ScrFin w l v u) (hne : v.ownBlock ≠ some w.heap.size) (x0 x1 x2 x3 x4 : Value) :
    (((((u.setCell ⟨w.heap.size, 0, none⟩ x0).setCell ⟨w.heap.size, 1, none⟩ x1).setCell ⟨w.heap.size, 2, none⟩ x2).setCell ⟨w.heap.size, 3, none⟩ x3).setCell ⟨w.heap.size, 4, none⟩ x4).heap[w.heap.size]? = some (.cells #[x0, x1, x2, x3, x4] 32 (0, 0)) ∧ Below w.heap.size w (((((u.setCell ⟨w.heap.size, 0, none⟩ x0).setCell ⟨w.heap.size, 1, none⟩ x1).setCell ⟨w.heap.size, 2, none⟩ x2).setCell ⟨w.heap.size, 3, none⟩ x3).setCell ⟨w.heap.size, 4, none⟩ x4) ∧ (((((u.setCell ⟨w.heap.size, 0, none⟩ x0).setCell ⟨w.heap.size, 1, none⟩ x1).setCell ⟨w.heap.size, 2, none⟩ x2).setCell ⟨w.heap.size, 3, none⟩ x3).setCell ⟨w.heap.size, 4, none⟩ x4).ownsRow w.heap.size 9 1 v l.length (l.map Value.string) := by
  have b0 := h.bel.setCell (p := ⟨w.heap.size, 0, none⟩) (Nat.le_refl _) x0
  have b1 := b0.setCell (p := ⟨w.heap.size, 1, none⟩) (Nat.le_refl _) x1
  have b2 := b1.setCell (p := ⟨w.heap.size, 2, none⟩) (Nat.le_refl _) x2
  have b3 := b2.setCell (p := ⟨w.heap.size, 3, none⟩) (Nat.le_refl _) x3
  have b4 := b3.setCell (p := ⟨w.heap.size, 4, none⟩) (Nat.le_refl _) x4
  refine ⟨?_, b4, ?_⟩
  · have a0 := heap_setCell_same u w.heap.size 0 _ _ x0 h.res
    have a1 := heap_setCell_same _ w.heap.size 1 _ _ x1 a0
    have a2 := heap_setCell_same _ w.heap.size 2 _ _ x2 a1
    have a3 := heap_setCell_same _ w.heap.size 3 _ _ x3 a2
    have a4 := heap_setCell_same _ w.heap.size 4 _ _ x4 a3
    exact a4
  · have c0 := World.ownsRow.kept h.own (Go.Lib.grownBy_setCell u w.heap.size 0 x0) (.inr hne)
    have c1 := World.ownsRow.kept c0 (Go.Lib.grownBy_setCell _ w.heap.size 1 x1) (.inr hne)
    have c2 := World.ownsRow.kept c1 (Go.Lib.grownBy_setCell _ w.heap.size 2 x2) (.inr hne)
    have c3 := World.ownsRow.kept c2 (Go.Lib.grownBy_setCell _ w.heap.size 3 x3) (.inr hne)
    exact World.ownsRow.kept c3 (Go.Lib.grownBy_setCell _ w.heap.size 4 x4) (.inr hne)
open Classical in
set_option maxHeartbeats 8000000 in
theorem newI_yes (n high : Nat) (w : World) (h : SizeR n high) : Calls Try.prog 15 #[.int .i64 (n : Int), .int .i64 (high : Int)] w (ScrPost w (szd [] n high) 0 0 ⟨#[]⟩ 0) := by
  have hs := sizeI_any (n : Int) (high : Int)
  rw [decide_eq_true h] at hs
  have HB : Hid (∀ o, Below w.heap.size w (w.alloc o)) := fun o => (Below.refl _ _).alloc (Nat.le_refl _) o
  have hz := fun u => sized_any none 0 [] 0 0 ⟨#[]⟩ n high 0 u (.inl ⟨_, _, rfl, rfl⟩) (Nat.le_refl _) (by simp) (by simp) (by decide) (by have := h.1; omega) (by have := h.1; omega) (by have := h.2; omega) (by have := h.2; omega) (Int.le_refl _) (by decide) (Int.le_refl _) (by decide) (by simp; omega)
  have HZ : Hid (∀ u, Calls Try.prog 45 #[.agg #[.slice none 0 0, .int .i64 0, .int .i64 0, .string ⟨#[]⟩], .int .i64 (n : Int), .int .i64 (high : Int)] u fun r w' => ∃ v, r = .returned (.agg #[v, .int .i64 0, .int .i64 0, .string ⟨#[]⟩]) ∧ OwT u.heap.size v (szd [] n high) w' ∧ Below u.heap.size u w') := fun u => by
    have h2 := hz u
    have e1 : (0 : Int) - ((0 : Nat) : Int) = 0 := by simp
    have e2 : min (0 : Int) (n : Int) = 0 := by omega
    rw [e1, e2] at h2
    exact h2
  clear hz
  go_enter Try.func15, Try.ntmps15
  go_wp2_with (go_at_call 37; (with_reducible refine (hs _).mono ?_); rintro r w' ⟨rfl, hw'⟩; obtain rfl := hw'.symm)
  have hR0 : (w.alloc (.cells #[.slice none 0 0, .int .i64 0, .int .i64 0, .string ⟨#[]⟩, .int .i64 0] 32)).heap[w.heap.size]? = some (.cells #[.slice none 0 0, .int .i64 0, .int .i64 0, .string ⟨#[]⟩, .int .i64 0] 32 (0, 0)) := heap_alloc_new _ _
  refine calls_w (fun u => Below w.heap.size w u ∧ u.heap[w.heap.size]? = some (.cells #[.slice none 0 0, .int .i64 0, .int .i64 0, .string ⟨#[]⟩, .int .i64 0] 32 (0, 0))) ⟨HB.out _, hR0⟩ ?_
  clear hR0 HB
  rintro u ⟨hu, hR⟩
  refine (HZ.out u).mono ?_
  rintro r w1 ⟨v, rfl, hO, hb⟩
  have hR1 := (hb.block _ (heap_lt hR)).trans hR
  have hB1 : Below w.heap.size w w1 := hu.trans (hb.mono hu.size)
  obtain ⟨p, c, rfl⟩ := hO.shape
  rw [szd_length] at hO ⊢
  have hne : (Value.slice p high c).ownBlock ≠ some w.heap.size := by
    rcases hO.2 with ⟨h1, _⟩ | ⟨g, cap, cur, h1, hg, _⟩
    · rw [h1]; simp [Value.ownBlock]
    · rw [h1]
      have := heap_lt hR
      simp [Value.ownBlock]; omega
  have r0 : w1.cell? ⟨w.heap.size, 0, none⟩ = some (.slice none 0 0) := by simp [World.cell?, hR1]
  have r1 : w1.cell? ⟨w.heap.size, 1, none⟩ = some (.int .i64 0) := by simp [World.cell?, hR1]
  have r2 : w1.cell? ⟨w.heap.size, 2, none⟩ = some (.int .i64 0) := by simp [World.cell?, hR1]
  have r3 : w1.cell? ⟨w.heap.size, 3, none⟩ = some (.string ⟨#[]⟩) := by simp [World.cell?, hR1]
  have r4 : w1.cell? ⟨w.heap.size, 4, none⟩ = some (.int .i64 0) := by simp [World.cell?, hR1]
  have g0 : ∀ k, w1.frozen? ⟨w.heap.size, k, none⟩ = false := fun k => frozen_of_row _ _ _ _ _ hR1
  have hO2 : w1.ownsRow w.heap.size 9 1 (.slice p high c) high ((szd [] n high).map Value.string) := by
    have h1 : w1.ownsRow u.heap.size 9 1 (.slice p high c) (szd [] n high).length ((szd [] n high).map Value.string) := hO
    rw [szd_length] at h1
    exact la.own_le h1 hu.size
  have HF : Hid (ScrFin w (szd [] n high) (.slice p high c) w1) := ⟨hB1, hR1, by rw [szd_length]; exact hO2⟩
  clear hR hR1 hB1 hu hb hO hO2
  go_wp2
  obtain ⟨d1, d2, d3⟩ := HF.out.done hne (.slice p high c) (.int .i64 0) (.int .i64 0) (.string ⟨#[]⟩) (.int .i64 0)
  exact bodyPost_ret (results_cell_row Try.results15 _ _ w.heap.size _ #[.slice p high c, .int .i64 0, .int .i64 0, .string ⟨#[]⟩, .int .i64 0] _ _ rfl d1 Try.underlying32 rfl infoO) rfl ⟨_, rfl, d2, d3⟩
end Go.Proofs.Ytikkohecanmefaa.sc
