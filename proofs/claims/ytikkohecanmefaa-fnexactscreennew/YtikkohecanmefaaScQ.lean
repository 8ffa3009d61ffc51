/-
  The law's own helper that holds two like screens against each other: yes; no old block turns. No condition.
-/
import Derived.Test.YtikkohecanmefaaScT
namespace Go.Proofs.Ytikkohecanmefaa.sc
open Go.ChangeShapes Go.WideShapes Go.ChangeAt Go.RowKit
open Go.Proofs.Ytikkohecanmefaa.ss
open Go.Proofs.Ytikkohecanmefaa.wi (heap_lt calls_w wp_w)
set_option linter.unusedVariables false

set_option maxHeartbeats 8000000 in
theorem eqScr_any (row col : Int) (e : ByteArray) (va vb : Value) (l : List ByteArray) (w : World) (hl : l.length ≤ maxLen) (ha : SliceIs w va l) (hb : SliceIs w vb l) :
    Calls Try.prog 13 #[.agg #[va, .int .i64 row, .int .i64 col, .string e], .agg #[vb, .int .i64 row, .int .i64 col, .string e]] w fun r w' => r = .returned (.bool true) ∧ Below w.heap.size w w' := by
  have HI : Hid ((fun u => Below w.heap.size w u ∧ (∃ h : u.heap[w.heap.size]? = some (.cells #[va, .int .i64 row, .int .i64 col, .string e] 27 (0, 0)), True) ∧ u.heap[w.heap.size + 1]? = some (.cells #[vb, .int .i64 row, .int .i64 col, .string e] 27 (0, 0))) ((w.alloc (.cells #[va, .int .i64 row, .int .i64 col, .string e] 27)).alloc (.cells #[vb, .int .i64 row, .int .i64 col, .string e] 27))) := by
    refine ⟨((Below.refl _ _).alloc (Nat.le_refl _) _).alloc (by simp) _, ⟨(Below.heap_alloc _ _ _ (by simp)).trans (heap_alloc_new _ _), trivial⟩, ?_⟩
    simpa using heap_alloc_new (w.alloc (.cells #[va, .int .i64 row, .int .i64 col, .string e] 27)) (.cells #[vb, .int .i64 row, .int .i64 col, .string e] 27)
  have b1 : (e.toList == e.toList) = true := beqT rfl
  go_enter Try.func13, Try.ntmps13
  go_wp2_with (go_at_call 42; fail)
  refine calls_w (fun u => Below w.heap.size w u ∧ (∃ h : u.heap[w.heap.size]? = some (.cells #[va, .int .i64 row, .int .i64 col, .string e] 27 (0, 0)), True) ∧ u.heap[w.heap.size + 1]? = some (.cells #[vb, .int .i64 row, .int .i64 col, .string e] 27 (0, 0))) HI.out ?_
  clear HI
  rintro u ⟨hu, ⟨hA, _⟩, hC⟩
  refine (eqTexts_any va vb l u hl (ha.up hu) (hb.up hu)).mono ?_
  rintro r w1 ⟨rfl, hb1⟩
  have HB : Hid (Below w.heap.size w w1) := hu.trans (hb1.mono hu.size)
  have hA1 := (hb1.block _ (heap_lt hA)).trans hA
  have hC1 := (hb1.block _ (heap_lt hC)).trans hC
  have a1 : w1.cell? ⟨w.heap.size, 1, none⟩ = some (.int .i64 row) := by simp [World.cell?, hA1]
  have a2 : w1.cell? ⟨w.heap.size, 2, none⟩ = some (.int .i64 col) := by simp [World.cell?, hA1]
  have a3 : w1.cell? ⟨w.heap.size, 3, none⟩ = some (.string e) := by simp [World.cell?, hA1]
  have c1 : w1.cell? ⟨w.heap.size + 1, 1, none⟩ = some (.int .i64 row) := by simp [World.cell?, hC1]
  have c2 : w1.cell? ⟨w.heap.size + 1, 2, none⟩ = some (.int .i64 col) := by simp [World.cell?, hC1]
  have c3 : w1.cell? ⟨w.heap.size + 1, 3, none⟩ = some (.string e) := by simp [World.cell?, hC1]
  clear hu hb1 ha hb hA hC hA1 hC1
  go_wp2_with fail
  go_ret
  exact ⟨rfl, HB.out⟩
end Go.Proofs.Ytikkohecanmefaa.sc
