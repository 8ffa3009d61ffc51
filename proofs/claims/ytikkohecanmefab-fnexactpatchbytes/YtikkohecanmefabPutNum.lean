/-
  The two functions that write a number in bytes hand back the same text, for every number of 64 bits: no condition.
-/
import Derived.Test.YtikkohecanmefabPutPl
namespace Go.Proofs.Ytikkohecanmefab.pn
open Go.ChangeShapes Go.WideShapes Go.ChangeAt Go.RowKit
set_option linter.unusedVariables false

set_option maxHeartbeats 400000 in
theorem foldS_any (n : Int) (w : World) (hb : i64P n) :
    Calls Try.prog 70 #[.int .i64 n] w fun e w' => e = .returned (.int .u64 (fold n)) ∧ w' = w := by
  obtain ⟨h0, h1⟩ := hb
  by_cases hn : n < 0
  · rw [fold_neg hn]
    go_enter Try.func70, Try.ntmps70
    go_wp2
    go_ret
    exact ⟨rfl, rfl⟩
  · rw [fold_pos hn]
    go_enter Try.func70, Try.ntmps70
    go_wp2
    go_ret
    exact ⟨rfl, rfl⟩
set_option maxHeartbeats 400000 in
theorem foldI_any (n : Int) (w : World) (hb : i64P n) :
    Calls Try.prog 71 #[.int .i64 n] w fun e w' => e = .returned (.int .u64 (fold n)) ∧ w' = w := by
  obtain ⟨h0, h1⟩ := hb
  by_cases hn : n < 0
  · have HF : Hid (bits BinOp.xor IntKind.u64 IntKind.u64.max (IntKind.u64.wrap (IntKind.u64.wrap n * 2)) = fold n) := by
      show _ = _
      rw [IntKind.wrap_u64, IntKind.wrap_u64, not_u64 _ (by omega) (by omega), fold_neg hn]
      omega
    go_enter Try.func71, Try.ntmps71
    go_wp2
    all_goals
      go_ret
      exact ⟨ret_int HF.out, rfl⟩
  · have HF : Hid (n * 2 = fold n) := by
      show _ = _
      rw [fold_pos hn]; omega
    go_enter Try.func71, Try.ntmps71
    go_wp2
    go_ret
    exact ⟨ret_int HF.out, rfl⟩

set_option maxRecDepth 20000 in
set_option maxHeartbeats 1000000 in
theorem spec_any (n : Int) (w : World) (hb : i64P n) :
    Calls Try.prog 45 #[.int .i64 n] w fun e w' => e = .returned (.string (numB n)) ∧ Below w.heap.size w w' := by
  obtain ⟨i0, hi, hz0, hz1, hz2⟩ := info_parts info5
  have hf := fold_u64 hb
  obtain ⟨U, hU⟩ : ∃ U : Nat, fold n = (U : Int) := ⟨(fold n).toNat, by omega⟩
  have HN : Hid (numB n = strOfNums (digs U)) := by show _ = _; rw [numB, hU]; rfl
  have HL : Hid (U * 128 ^ 0 < 18446744073709551616) := by show _ < _; omega
  go_enter Try.func45, Try.ntmps45
  go_wp2_with (go_at_call 70; refine (foldS_any _ _ hb).mono ?_; rintro e w' ⟨rfl, hw'⟩; obtain rfl := hw'.symm)
  clear hf
  go_loopw [3, 4] (fun x v wr => Gone U w.heap.size w x v wr) (fun x _ _ => (intOf x).toNat)
  case atStart =>
    refine ⟨U, U, [], rfl, by simp, rfl, HL, rfl, ⟨rfl, Or.inr ⟨w.heap.size, 0, #[], rfl, Nat.le_refl _, ?_, Nat.le_refl _, Nat.zero_le _, rfl, rfl⟩⟩, (Below.refl _ _).alloc (Nat.le_refl _) _⟩
    exact heap_alloc_new _ _
  case round =>
    obtain ⟨u, y, xs, rfl, hl9, HY, HT, HD, hown, hB⟩ := hrel
    have hy0 : 0 ≤ y := by have := HY.out; omega
    have hy1 : y ≤ 18446744073709551615 := by have := HY.out; have := le_of_bound HT.out; omega
    have hbs : w.heap.size ≤ wr.heap.size := hB.size
    have HO := own_base hown
    by_cases hu : y < 128
    · go_wp2_with (at_builtin; go_must (refine wpList_append_own _ rfl _ _ 95 rfl w.heap.size 5 i0 (.int .u8 0) 1 1 Try.underlying95 hi hz0 hz1 hz2 rfl (by decide) _ _ _ rfl (hown.alloc _) ⟨wr.heap.size, 0, none⟩ 1 1 [.int .u8 y] rfl rfl (cell_one_new _ _ _) (fun x hx => by simp at hx; subst hx; rfl) (by unfold maxLen; omega) (by omega) (by simp; omega) ?_))
      intro v' w1 hown' hgrow _
      have hown2 : w1.ownsRow w.heap.size 5 1 v' (xs.length + 1) ((xs ++ [y]).map (Value.int .u8)) := by simpa using hown'
      have hconv := conv_owned hown2
      have HB2 : Hid (Below w.heap.size w w1) := (hB.alloc hbs _).grown hgrow (by simp; omega) HO.out
      clear hown' hgrow hown2
      go_wp2
      go_ret
      exact ⟨ret_str (by rw [HN.out, digs_end HD.out (by have := HY.out; omega), HY.out]), HB2.out⟩
    · obtain ⟨hl8, hnext⟩ := len_bound HT.out (by have := HY.out; omega)
      have HX : Hid (u / 128 * 128 ^ (xs.length + 1) < 18446744073709551616) := hnext
      clear hnext
      go_wp2_with (at_builtin; go_must (refine wpList_append_own _ rfl _ _ 95 rfl w.heap.size 5 i0 (.int .u8 0) 1 1 Try.underlying95 hi hz0 hz1 hz2 rfl (by decide) _ _ _ rfl (hown.alloc _) ⟨wr.heap.size, 0, none⟩ 1 1 [.int .u8 (y % 128 + 128)] rfl rfl (cell_one_new _ _ _) (fun x hx => by simp at hx; subst hx; rfl) (by unfold maxLen; omega) (by omega) (by simp; omega) ?_))
      intro v' w1 hown' hgrow _
      have HO2 : Hid (w1.ownsRow w.heap.size 5 1 v' (xs.length + 1) ((xs ++ [y % 128 + 128]).map (Value.int .u8))) := by show World.ownsRow _ _ _ _ _ _ _; simpa using hown'
      have HB2 : Hid (Below w.heap.size w w1) := (hB.alloc hbs _).grown hgrow (by simp; omega) HO.out
      clear hown' hgrow
      go_wp2
      go_roundw
      case rel =>
        refine ⟨u / 128, y / 128, xs ++ [y % 128 + 128], by go_num, by simp; omega, ?_, ?_, ?_, ?_, HB2.out⟩
        · show _ = _
          rw [HY.out]; rfl
        · show _ < _
          simpa using HX.out
        · show _ = _
          rw [digs_step HD.out (by have := HY.out; omega), HY.out]; rfl
        · simpa using HO2.out
      case measure => simp [intOf]; omega

set_option maxRecDepth 20000 in
set_option maxHeartbeats 1000000 in
theorem impl_any (n : Int) (w : World) (hb : i64P n) :
    Calls Try.prog 48 #[.int .i64 n] w fun e w' => e = .returned (.string (numB n)) ∧ Below w.heap.size w w' := by
  obtain ⟨i0, hi, hz0, hz1, hz2⟩ := info_parts info5
  have hf := fold_u64 hb
  obtain ⟨U, hU⟩ : ∃ U : Nat, fold n = (U : Int) := ⟨(fold n).toNat, by omega⟩
  have HN : Hid (numB n = strOfNums (digs U)) := by show _ = _; rw [numB, hU]; rfl
  have HL : Hid (U * 128 ^ 0 < 18446744073709551616) := by show _ < _; omega
  go_enter Try.func48, Try.ntmps48
  go_wp2_with (go_at_call 71; refine (foldI_any _ _ hb).mono ?_; rintro e w' ⟨rfl, hw'⟩; obtain rfl := hw'.symm)
  clear hf
  go_loopw [3, 4] (fun v x wr => Gone U w.heap.size w x v wr) (fun _ x _ => (intOf x).toNat)
  case atStart => exact ⟨U, U, [], rfl, by simp, rfl, HL, rfl, World.ownsRow_nil _ _ _ _, Below.refl _ _⟩
  case round =>
    obtain ⟨u, y, xs, rfl, hl9, HY, HT, HD, hown, hB⟩ := hrel
    have hy0 : 0 ≤ y := by have := HY.out; omega
    have hy1 : y ≤ 18446744073709551615 := by have := HY.out; have := le_of_bound HT.out; omega
    have hbs : w.heap.size ≤ wr.heap.size := hB.size
    have HO := own_base hown
    by_cases hu : y < 128
    · go_wp2_with (at_builtin; go_must (refine wpList_append_own _ rfl _ _ 95 rfl w.heap.size 5 i0 (.int .u8 0) 1 1 Try.underlying95 hi hz0 hz1 hz2 rfl (by decide) _ _ _ rfl (hown.alloc _) ⟨wr.heap.size, 0, none⟩ 1 1 [.int .u8 y] rfl rfl (cell_one_new _ _ _) (fun x hx => by simp at hx; subst hx; rfl) (by unfold maxLen; omega) (by omega) (by simp; omega) ?_))
      intro v' w1 hown' hgrow _
      have hown2 : w1.ownsRow w.heap.size 5 1 v' (xs.length + 1) ((xs ++ [y]).map (Value.int .u8)) := by simpa using hown'
      have hconv := conv_owned hown2
      have HB2 : Hid (Below w.heap.size w w1) := (hB.alloc hbs _).grown hgrow (by simp; omega) HO.out
      clear hown' hgrow hown2
      go_wp2
      go_ret
      exact ⟨ret_str (by rw [HN.out, digs_end HD.out (by have := HY.out; omega), HY.out]), HB2.out⟩
    · obtain ⟨hl8, hnext⟩ := len_bound HT.out (by have := HY.out; omega)
      have HX : Hid (u / 128 * 128 ^ (xs.length + 1) < 18446744073709551616) := hnext
      clear hnext
      have ha := and127 hy0 hy1
      have ho := or128 (z := y % 128) (by omega) (by omega)
      go_wp2_with (at_builtin; go_must (refine wpList_append_own _ rfl _ _ 95 rfl w.heap.size 5 i0 (.int .u8 0) 1 1 Try.underlying95 hi hz0 hz1 hz2 rfl (by decide) _ _ _ rfl (hown.alloc _) ⟨wr.heap.size, 0, none⟩ 1 1 [.int .u8 (y % 128 + 128)] rfl rfl (cell_one_new _ _ _) (fun x hx => by simp at hx; subst hx; rfl) (by unfold maxLen; omega) (by omega) (by simp; omega) ?_))
      intro v' w1 hown' hgrow _
      have HO2 : Hid (w1.ownsRow w.heap.size 5 1 v' (xs.length + 1) ((xs ++ [y % 128 + 128]).map (Value.int .u8))) := by show World.ownsRow _ _ _ _ _ _ _; simpa using hown'
      have HB2 : Hid (Below w.heap.size w w1) := (hB.alloc hbs _).grown hgrow (by simp; omega) HO.out
      clear hown' hgrow ha ho
      go_wp2
      go_roundw
      case rel =>
        refine ⟨u / 128, y / 128, xs ++ [y % 128 + 128], by go_num, by simp; omega, ?_, ?_, ?_, ?_, HB2.out⟩
        · show _ = _
          rw [HY.out]; rfl
        · show _ < _
          simpa using HX.out
        · show _ = _
          rw [digs_step HD.out (by have := HY.out; omega), HY.out]; rfl
        · simpa using HO2.out
      case measure => simp [intOf]; omega

end Go.Proofs.Ytikkohecanmefab.pn
