/-
  What the model unseals is what the program unseals: no condition.
-/
import Derived.Test.YteekipjmhihleafUnsealI
namespace Go.Proofs.Yteekipjmhihleaf.un
open Go.ChangeShapes Go.WideShapes Go.ChangeAt Go.RowKit
open Go.Lib (byteCells)
set_option linter.unusedVariables false

set_option maxHeartbeats 1600000 in
theorem spec_any (s : ByteArray) (w : World) (hs : s.size ≤ maxLen) :
    Calls Try.prog 16 #[.string s] w fun e w' => e = .returned (outU s) ∧ Below w.heap.size w w' := by
  unfold maxLen at hs
  by_cases h1 : 8000 < s.size
  · rw [outU_long h1]
    go_enter Try.func16, Try.ntmps16
    go_wp2
    exact bodyPost_ret (v := .agg #[.string { data := #[] }, .int .i64 0, .int .i64 2]) (by simp [results, Try.results16, go_sem]) rfl ⟨rfl, (Below.refl _ _).alloc (Nat.le_refl _) _⟩
  by_cases h2 : s.size < 4
  · rw [outU_short h2]
    go_enter Try.func16, Try.ntmps16
    go_wp2
    exact bodyPost_ret (v := .agg #[.string { data := #[] }, .int .i64 0, .int .i64 4]) (by simp [results, Try.results16, go_sem]) rfl ⟨rfl, (Below.refl _ _).alloc (Nat.le_refl _) _⟩
  have hm : (s.extract 0 (s.size - 4)).size ≤ 8000 := by simp; omega
  obtain ⟨c0, c1⟩ := cr.crcC_u32 0 (s.extract 0 (s.size - 4))
  have hi : (4 : Int) ≤ (s.size : Int) := by omega
  have hle : (s.size : Int) - 4 ≤ (s.size : Int) := by omega
  have ht : ((s.size : Int) - 4).toNat = s.size - 4 := by omega
  have hwr : IntKind.i64.wrap ((s.size : Int) - 4) = (s.size : Int) - 4 := by rw [IntKind.wrap_i64]; omega
  by_cases h3 : rightP s
  · have hq : ((se.fourB (cr.crcC 0 (s.extract 0 (s.size - 4)))).toList == (s.extract (s.size - 4) s.size).toList) = true := beq_eq h3.symm
    rw [outU_good h1 h2 h3]
    unfold inner
    clear h3
    go_enter Try.func16, Try.ntmps16
    go_wp2
    go_region_with (first | (go_at_call 21; refine (cr.spec_any _ _ _ hm (by omega) (by omega)).mono ?_; rintro e w' ⟨rfl, rfl⟩) | (go_at_call 23; refine (se.four_any _ _ c0 c1).mono ?_; rintro e w1 ⟨rfl, hb1⟩; obtain ⟨hc, hf⟩ := bcell hb1; have hz1 : w.heap.size < w1.heap.size := by { have := hb1.size; simp at this; omega }))
    all_goals
      go_wp2
      refine bodyPost_ret (v := .agg #[.string (s.extract 0 (s.size - 4)), .int .i64 0, .int .i64 0]) (by simp [results, Try.results16, go_sem, hc]) rfl ⟨rfl, ?_⟩
      exact ((((((Below.refl _ _).alloc (Nat.le_refl _) _).drew).trans (hb1.mono (by simp))).setCell (Nat.le_refl _) _).setCell (Nat.le_refl _) _).setCell (Nat.le_refl _) _
  · have hq : ((se.fourB (cr.crcC 0 (s.extract 0 (s.size - 4)))).toList == (s.extract (s.size - 4) s.size).toList) = false := beq_ne (fun e => h3 e.symm)
    rw [outU_bad h1 h2 h3]
    clear h3
    go_enter Try.func16, Try.ntmps16
    go_wp2
    go_region_with (first | (go_at_call 21; refine (cr.spec_any _ _ _ hm (by omega) (by omega)).mono ?_; rintro e w' ⟨rfl, rfl⟩) | (go_at_call 23; refine (se.four_any _ _ c0 c1).mono ?_; rintro e w1 ⟨rfl, hb1⟩; obtain ⟨hc, hf⟩ := bcell hb1; have hz1 : w.heap.size < w1.heap.size := by { have := hb1.size; simp at this; omega }))
    all_goals
      go_wp2
      refine bodyPost_ret (v := .agg #[.string { data := #[] }, .int .i64 0, .int .i64 5]) (by simp [results, Try.results16, go_sem, hc]) rfl ⟨rfl, ?_⟩
      exact ((((((Below.refl _ _).alloc (Nat.le_refl _) _).drew).trans (hb1.mono (by simp))).setCell (Nat.le_refl _) _).setCell (Nat.le_refl _) _).setCell (Nat.le_refl _) _

theorem spec_out (s : ByteArray) (w : World) (hs : s.size ≤ maxLen) :
    Calls Try.prog 16 #[.string s] w fun e w' => e = .returned (.agg #[.string (textU s), .int .i64 0, .int .i64 (codeU s)]) ∧ Below w.heap.size w w' := spec_any s w hs
set_option maxHeartbeats 400000 in
/-- two answers that are the same -/
theorem eq_any (t : ByteArray) (a c : Int) (w : World) :
    Calls Try.prog 18 #[.agg #[.string t, .int .i64 a, .int .i64 c], .agg #[.string t, .int .i64 a, .int .i64 c]] w fun e w' => e = .returned (.bool true) ∧ Below w.heap.size w w' := by
  go_enter Try.func18, Try.ntmps18
  go_wp2
  go_ret
  exact ⟨rfl, ((Below.refl _ _).alloc (Nat.le_refl _) _).alloc (by simp) _⟩
end Go.Proofs.Yteekipjmhihleaf.un
