/-
  The model's WindowTake: over a slice without a place, and all cases together: what the plain function tells; no old block turns. No condition.
-/
import Derived.Test.YtodcjhckkbmikaaDoorTakeM3
namespace Go.Proofs.YtodcjhckkbmikaaDoor.wi
open Go.ChangeShapes Go.WideShapes Go.ChangeAt Go.RowKit
open Classical
set_option linter.unusedVariables false

set_option maxRecDepth 20000 in
set_option maxHeartbeats 8000000 in
theorem takeM_none (e t : Int) (p : Option Addr) (cap : Nat) (c : Int) (w : World) (h : RightW e t [] ∧ RightG 0 e c 0) (ho : ¬ Old e c e t) :
    Calls Tryd.prog 7 #[.agg #[.int .i64 e, .int .i64 t, .slice p 0 cap], .int .i64 e, .int .i64 c] w fun r w' => Below w.heap.size w w' ∧ OutIs w.heap.size (takeA e t [] e c) r w' := by
  have HI0 : Hid (InMm w e t (.slice p 0 cap) _) := inMm_start w e t _
  have d2 := decide_eq_true h.2.2.1
  have d3 := decide_eq_true h.2.2.2.1
  have ht := h.1.2.1
  have hc0 := h.2.2.2.1
  have hnl : ¬ e < e := by omega
  have hno : ¬ c < t - 16 := fun hh => ho (.inr ⟨rfl, hh⟩)
  have HTA : Hid (Told e t [] e c → takeA e t [] e c = ((0, 0, []), 7)) := fun ht => takeA_there h ho ht
  have HSA : Hid (¬ Told e t [] e c → takeA e t [] e c = ((e, max c t, newSeen t [] c), 0)) := fun ht => takeA_same h ho ht hnl
  obtain ⟨A, hA⟩ : ∃ A, A = takeA e t [] e c := ⟨_, rfl⟩
  rw [← hA] at HTA HSA ⊢
  clear hA
  go_enter Tryd.func7, Tryd.ntmps7
  go_wp2_with (go_at_call 9; fail)
  refine calls_w (InMm w e t (.slice p 0 cap)) HI0.out ?_
  clear HI0
  intro u0 i0
  refine (windowM_any e t _ [] u0 (by simp) (.inl ⟨p, cap, rfl, rfl⟩)).mono ?_
  rintro r w1 ⟨rfl, hb1⟩
  have i1 := i0.up hb1
  clear i0 hb1
  rw [decide_eq_true h.1]
  obtain ⟨x0, x1, x2, _⟩ := win_cells i1.win
  have HI1 : Hid (InMm w e t (.slice p 0 cap) w1) := i1
  clear i1 ho
  by_cases hct : c = t
  · have hq : (c == t) = true := by simp [hct]
    have hAA := HTA.out ⟨rfl, .inl ⟨by omega, hct⟩⟩
    subst hAA
    have HOI : Hid (∀ w', OutIs w.heap.size ((0, 0, []), 7) (.returned (.agg #[.int .i64 0, .int .i64 0, .slice none 0 0, .int .i64 7])) w') := fun w' => out_ill _ _ _
    have hres := HI1.out.res
    have HB1 : Hid (Below w.heap.size w w1) := HI1.out.below
    clear HI1 HTA HSA hct h
    go_wp2_with (go_at_call 19; (with_reducible refine (is_any _ _ _ _).mono ?_); rintro r w' ⟨rfl, hw'⟩; obtain rfl := hw'.symm)
    refine wp_loop_rounds 1 ?_
    rw [rounds_succ]
    go_wp2_with (first | (go_at_call 20; (with_reducible refine (illM_any _ _).mono ?_); rintro r w2 ⟨rfl, hb2⟩; have hres2 := (hb2.block _ (heap_lt hres)).trans hres; have HB2 : Hid (Below w.heap.size w w2) := HB1.out.trans (hb2.mono HB1.out.size); clear hb2) | (refine wpList_store_row rfl 29 _ _ rfl (w.heap.size + 1) _ rfl rfl _ _ hres2 infoWO (by rfl) (by simp [Value.oneCell']) ?_))
    exact bodyPost_ret (results_cell_row Tryd.results7 _ _ (w.heap.size + 1) _ _ _ _ rfl (setRow_heap _ _ _ _ _ _ hres2) Tryd.underlying29 rfl infoWO) rfl ⟨below_setRow HB2.out (by omega) _, HOI.out _⟩
  · have hq : (c == t) = false := by simp [hct]
    have hAA := HSA.out (fun hh => hct (by rcases hh.2 with h | h; exact h.2; cases h))
    rw [← endL_eq] at hAA
    obtain ⟨T, hTT⟩ : ∃ T, T = max c t := ⟨_, rfl⟩
    obtain ⟨lo, hlo⟩ : ∃ lo, lo = min c t := ⟨_, rfl⟩
    have hT1 : -1 ≤ T ∧ T ≤ 2000 := by omega
    have hl1 : -1 ≤ lo ∧ lo ≤ 2000 := by omega
    have HMX : Hid (∀ u, Calls Tryd.prog 14 #[.int .i64 c, .int .i64 t] u fun r w' => r = .returned (.int .i64 T) ∧ w' = u) := fun u => by rw [hTT]; exact maxM_max c t u
    have HMN : Hid (∀ u, Calls Tryd.prog 15 #[.int .i64 c, .int .i64 t] u fun r w' => r = .returned (.int .i64 lo) ∧ w' = u) := fun u => by rw [hlo]; exact minM_any c t u
    rw [← hTT, ← hlo] at hAA
    clear hTT hlo
    subst hAA
    clear HTA HSA hct h
    go_wp2_with (go_at_call 19; (with_reducible refine (is_any _ _ _ _).mono ?_); rintro r w' ⟨rfl, hw'⟩; obtain rfl := hw'.symm)
    refine wp_loop_rounds 1 ?_
    rw [rounds_succ]
    have m0 : w.heap.size < w1.heap.size := heap_lt HI1.out.win
    have m1 : ¬ w.heap.size = w1.heap.size := by omega
    have m2 : ¬ w1.heap.size = w.heap.size := by omega
    have m3 : w.heap.size + 1 < w1.heap.size := heap_lt HI1.out.res
    go_wp2_with (first | (go_at_call 14; (with_reducible refine (HMX.out _).mono ?_); rintro r w' ⟨rfl, hw'⟩; obtain rfl := hw'.symm) | (go_at_call 15; (with_reducible refine (HMN.out _).mono ?_); rintro r w' ⟨rfl, hw'⟩; obtain rfl := hw'.symm))
    have HL0 : Hid (InLm w e t (.slice p 0 cap) w1.heap.size T (.slice none 0 0) [] (w1.alloc (.cells #[.int .i64 e, .int .i64 T, .slice none 0 0] 25))) := ⟨HI1.out.up ((Below.refl _ _).alloc (Nat.le_refl _) _), heap_alloc_new _ _, ⟨rfl, .inl ⟨rfl, rfl⟩⟩, m3⟩
    clear HMX HMN m0 m1 m2 m3 x0 x1 x2 HI1
    obtain ⟨q, hq'⟩ : ∃ q, q = w1.heap.size := ⟨_, rfl⟩
    rw [← hq'] at HL0 ⊢
    refine wp_w (InLm w e t (.slice p 0 cap) q T (.slice none 0 0) []) HL0.out ?_
    clear hq' HL0
    intro u2 i2
    obtain ⟨⟨x0, x1, x2⟩, ⟨y0, y1, y2⟩, f2⟩ := i2.cells
    have n1 : ¬ w.heap.size = q := by have := i2.qN; omega
    have n2 : ¬ q = w.heap.size := by have := i2.qN; omega
    have HI : Hid (InLm w e t (.slice p 0 cap) q T (.slice none 0 0) [] u2) := i2
    clear i2
    refine wp_loop_rounds 1 ?_
    rw [rounds_succ]
    by_cases hln : lo < 0
    · have HE2 : Hid (endL lo T [] = []) := by
        show _ = _
        simp [endL, stepL, hln]
      rw [decide_eq_true hln]
      have HI5 : Hid (InLm w e t (.slice p 0 cap) q T (.slice none 0 0) (endL lo T []) u2) := by rw [HE2.out]; exact HI.out
      clear HI
      have HB9 : Hid (Below w.heap.size w (u2)) := HI5.out.base.below
      have HRW9 : Hid ((u2).ownsRow (w.heap.size + 2) 2 1 (.slice none 0 0) (endL lo T []).length ((endL lo T []).map (Value.int .i64))) := row_le HI5.out.row (by have := HI5.out.qN; omega)
      have hout := HI5.out.out
      have hres := HI5.out.base.res
      clear HI5
      go_wp2_with (first | (refine wpList_load_row rfl 25 _ rfl q rfl _ _ _ _ hout Tryd.underlying25 rfl infoW ?_) | (refine wpList_store_row rfl 29 _ _ rfl (w.heap.size + 1) _ rfl rfl _ _ hres infoWO (by rfl) (by simp [Value.oneCell']) ?_))
      exact bodyPost_ret (results_cell_row Tryd.results7 _ _ (w.heap.size + 1) _ _ _ _ rfl (setRow_heap _ _ _ _ _ _ hres) Tryd.underlying29 rfl infoWO) rfl ⟨below_setRow HB9.out (by omega) _, ⟨_, rfl, row_le (row_setRow HRW9.out (by omega)) (by omega)⟩⟩
    · have HE2 : Hid (endL lo T [] = putL [] lo T) := by
        show _ = _
        simp [endL, stepL, hln]
      rw [decide_eq_false hln]
      go_wp2_with (go_at_call 21; fail)
      refine calls_w (InLm w e t (.slice p 0 cap) q T (.slice none 0 0) []) HI.out ?_
      clear HI x0 x1 x2 y0 y1 y2 f2
      intro u3 i3
      refine (put_any (q + 1) _ [] lo T u3 i3.row (by simp) (by omega) (by omega) i3.size).mono ?_
      rintro r w2 ⟨v1, rfl, hb2, hrow2⟩
      obtain ⟨p1, k1, c1, rfl⟩ := row_shape hrow2
      have i5 := i3.put hb2 hrow2
      have i4 := i3.up hb2
      obtain ⟨⟨x0, x1, x2⟩, ⟨y0, y1, y2⟩, f2⟩ := i4.cells
      have HI5 : Hid (InLm w e t (.slice p 0 cap) q T (.slice p1 k1 c1) (endL lo T []) (w2.setCell ⟨q, 2, none⟩ (.slice p1 k1 c1))) := by rw [HE2.out]; exact i5
      clear i3 i4 i5 hb2 hrow2
      have HB9 : Hid (Below w.heap.size w (w2.setCell ⟨q, 2, none⟩ (.slice p1 k1 c1))) := HI5.out.base.below
      have HRW9 : Hid ((w2.setCell ⟨q, 2, none⟩ (.slice p1 k1 c1)).ownsRow (w.heap.size + 2) 2 1 (.slice p1 k1 c1) (endL lo T []).length ((endL lo T []).map (Value.int .i64))) := row_le HI5.out.row (by have := HI5.out.qN; omega)
      have hout := HI5.out.out
      have hres := HI5.out.base.res
      clear HI5
      go_wp2_with (first | (refine wpList_load_row rfl 25 _ rfl q rfl _ _ _ _ hout Tryd.underlying25 rfl infoW ?_) | (refine wpList_store_row rfl 29 _ _ rfl (w.heap.size + 1) _ rfl rfl _ _ hres infoWO (by rfl) (by simp [Value.oneCell']) ?_))
      exact bodyPost_ret (results_cell_row Tryd.results7 _ _ (w.heap.size + 1) _ _ _ _ rfl (setRow_heap _ _ _ _ _ _ hres) Tryd.underlying29 rfl infoWO) rfl ⟨below_setRow HB9.out (by omega) _, ⟨_, rfl, row_le (row_setRow HRW9.out (by omega)) (by omega)⟩⟩

theorem takeM_any (e t : Int) (v : Value) (s : List Int) (ep c : Int) (w : World) (hs : s.length ≤ maxLen) (hv : SliceIs w v s) :
    Calls Tryd.prog 7 #[.agg #[.int .i64 e, .int .i64 t, v], .int .i64 ep, .int .i64 c] w fun r w' => Below w.heap.size w w' ∧ OutIs w.heap.size (takeA e t s ep c) r w' := by
  by_cases h : RightW e t s ∧ RightG 0 ep c 0
  · by_cases hl : e < ep
    · exact takeM_new e t v s ep c w hs hv h hl
    · by_cases ho : Old ep c e t
      · exact takeM_old e t v s ep c w hs hv h ho
      · obtain rfl : ep = e := by unfold Old at ho; omega
        rcases hv with ⟨p, cap, rfl, rfl⟩ | ⟨b, off, cap, hb, rfl, hR⟩
        · exact takeM_none ep t p cap c w h ho
        · exact takeM_row ep t b off cap s c w hb hR h ho
  · exact takeM_form e t v s ep c w hs hv h
end Go.Proofs.YtodcjhckkbmikaaDoor.wi
