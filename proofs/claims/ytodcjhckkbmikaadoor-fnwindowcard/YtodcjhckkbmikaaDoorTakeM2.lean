/-
  The model's WindowTake where the epoch is new or the count too old: what the plain function tells; no old block turns. No condition.
-/
import Derived.Test.YtodcjhckkbmikaaDoorTakeM
namespace Go.Proofs.YtodcjhckkbmikaaDoor.wi
open Go.ChangeShapes Go.WideShapes Go.ChangeAt Go.RowKit
open Classical
set_option linter.unusedVariables false

/-- behind the first test: all is right so far -/
def AtRight (w : World) (e t : Int) (v : Value) (u : World) : Prop := InMm w e t v u

set_option maxRecDepth 20000 in
set_option maxHeartbeats 8000000 in
theorem takeM_new (e t : Int) (v : Value) (s : List Int) (ep c : Int) (w : World) (hs : s.length ≤ maxLen) (hv : SliceIs w v s) (h : RightW e t s ∧ RightG 0 ep c 0) (hl : e < ep) :
    Calls Tryd.prog 7 #[.agg #[.int .i64 e, .int .i64 t, v], .int .i64 ep, .int .i64 c] w fun r w' => Below w.heap.size w w' ∧ OutIs w.heap.size (takeA e t s ep c) r w' := by
  have ho : ¬ Old ep c e t := by unfold Old; omega
  have htl : ¬ Told e t s ep c := fun h => by have := h.1; omega
  rw [takeA_new h ho htl hl]
  have HI0 : Hid (InMm w e t v _) := inMm_start w e t v
  have HV : Hid (∀ u, Below w.heap.size w u → SliceIs u v s) := fun u hu => hv.up hu
  have d2 := decide_eq_true h.2.2.1
  have d3 := decide_eq_true h.2.2.2.1
  have HOI : Hid (∀ w', OutIs w.heap.size ((ep, c, []), 0) (.returned (.agg #[.int .i64 ep, .int .i64 c, .slice none 0 0, .int .i64 0])) w') := fun w' => ⟨_, rfl, ⟨rfl, .inl ⟨rfl, rfl⟩⟩⟩
  clear hv ho htl
  go_enter Tryd.func7, Tryd.ntmps7
  go_wp2_with (go_at_call 9; fail)
  refine calls_w (InMm w e t v) HI0.out ?_
  clear HI0
  intro u0 i0
  refine (windowM_any e t v s u0 hs (HV.out _ i0.below)).mono ?_
  rintro r w1 ⟨rfl, hb1⟩
  have i1 := i0.up hb1
  clear i0 hb1 HV
  rw [decide_eq_true h.1]
  have hres := i1.res
  have HB1 : Hid (Below w.heap.size w w1) := i1.below
  obtain ⟨x0, x1, x2, _⟩ := win_cells i1.win
  clear i1
  go_wp2_with (first | (go_at_call 19; (with_reducible refine (is_any _ _ _ _).mono ?_); rintro r w' ⟨rfl, hw'⟩; obtain rfl := hw'.symm) | (refine wpList_store_row rfl 29 _ _ rfl (w.heap.size + 1) _ rfl rfl _ _ hres infoWO (by rfl) (by simp [Value.oneCell']) ?_))
  exact bodyPost_ret (results_cell_row Tryd.results7 _ _ (w.heap.size + 1) _ _ _ _ rfl (setRow_heap _ _ _ _ _ _ hres) Tryd.underlying29 rfl infoWO) rfl ⟨below_setRow HB1.out (by omega) _, HOI.out _⟩

set_option maxRecDepth 20000 in
set_option maxHeartbeats 8000000 in
theorem takeM_old (e t : Int) (v : Value) (s : List Int) (ep c : Int) (w : World) (hs : s.length ≤ maxLen) (hv : SliceIs w v s) (h : RightW e t s ∧ RightG 0 ep c 0) (ho : Old ep c e t) :
    Calls Tryd.prog 7 #[.agg #[.int .i64 e, .int .i64 t, v], .int .i64 ep, .int .i64 c] w fun r w' => Below w.heap.size w w' ∧ OutIs w.heap.size (takeA e t s ep c) r w' := by
  rw [takeA_old h ho]
  have HI0 : Hid (InMm w e t v _) := inMm_start w e t v
  have HV : Hid (∀ u, Below w.heap.size w u → SliceIs u v s) := fun u hu => hv.up hu
  have d2 := decide_eq_true h.2.2.1
  have d3 := decide_eq_true h.2.2.2.1
  have ht := h.1.2.1
  have HOI : Hid (∀ w', OutIs w.heap.size ((0, 0, []), 12) (.returned (.agg #[.int .i64 0, .int .i64 0, .slice none 0 0, .int .i64 12])) w') := fun w' => out_ill _ _ _
  have hne : ¬ e < ep := by unfold Old at ho; omega
  have hor : ep < e ∨ (¬ ep < e ∧ c < t - 16) := by unfold Old at ho; omega
  clear hv ho
  go_enter Tryd.func7, Tryd.ntmps7
  go_wp2_with (go_at_call 9; fail)
  refine calls_w (InMm w e t v) HI0.out ?_
  clear HI0
  intro u0 i0
  refine (windowM_any e t v s u0 hs (HV.out _ i0.below)).mono ?_
  rintro r w1 ⟨rfl, hb1⟩
  have i1 := i0.up hb1
  clear i0 hb1 HV
  rw [decide_eq_true h.1]
  have hres := i1.res
  have HB1 : Hid (Below w.heap.size w w1) := i1.below
  obtain ⟨x0, x1, x2, _⟩ := win_cells i1.win
  clear i1
  rcases hor with hlt | ⟨hnl, hlt⟩
  · go_wp2_with (first | (go_at_call 19; (with_reducible refine (is_any _ _ _ _).mono ?_); rintro r w' ⟨rfl, hw'⟩; obtain rfl := hw'.symm) | (go_at_call 20; (with_reducible refine (illM_any _ _).mono ?_); rintro r w2 ⟨rfl, hb2⟩; have hres2 := (hb2.block _ (heap_lt hres)).trans hres; have HB2 : Hid (Below w.heap.size w w2) := HB1.out.trans (hb2.mono HB1.out.size); clear hb2) | (refine wpList_store_row rfl 29 _ _ rfl (w.heap.size + 1) _ rfl rfl _ _ hres2 infoWO (by rfl) (by simp [Value.oneCell']) ?_))
    exact bodyPost_ret (results_cell_row Tryd.results7 _ _ (w.heap.size + 1) _ _ _ _ rfl (setRow_heap _ _ _ _ _ _ hres2) Tryd.underlying29 rfl infoWO) rfl ⟨below_setRow HB2.out (by omega) _, HOI.out _⟩
  · go_wp2_with (first | (go_at_call 19; (with_reducible refine (is_any _ _ _ _).mono ?_); rintro r w' ⟨rfl, hw'⟩; obtain rfl := hw'.symm) | (go_at_call 20; (with_reducible refine (illM_any _ _).mono ?_); rintro r w2 ⟨rfl, hb2⟩; have hres2 := (hb2.block _ (heap_lt hres)).trans hres; have HB2 : Hid (Below w.heap.size w w2) := HB1.out.trans (hb2.mono HB1.out.size); clear hb2) | (refine wpList_store_row rfl 29 _ _ rfl (w.heap.size + 1) _ rfl rfl _ _ hres2 infoWO (by rfl) (by simp [Value.oneCell']) ?_))
    exact bodyPost_ret (results_cell_row Tryd.results7 _ _ (w.heap.size + 1) _ _ _ _ rfl (setRow_heap _ _ _ _ _ _ hres2) Tryd.underlying29 rfl infoWO) rfl ⟨below_setRow HB2.out (by omega) _, HOI.out _⟩
end Go.Proofs.YtodcjhckkbmikaaDoor.wi
