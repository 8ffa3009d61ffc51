/-
  The model's WindowTake where it refuses, or where the epoch is new: what the plain function tells; no old block turns. No condition.
-/
import Derived.Test.YtodcjhckkbmikaaDoorTake6
import Derived.Test.YtodcjhckkbmikaaDoorWinM
import Derived.Test.YtodcjhckkbmikaaDoorPutM
namespace Go.Proofs.YtodcjhckkbmikaaDoor.wi
open Go.ChangeShapes Go.WideShapes Go.ChangeAt Go.RowKit
open Classical
set_option linter.unusedVariables false

theorem illM_any (k : Int) (w : World) : Calls Tryd.prog 20 #[.int .i64 k] w fun r w' => r = .returned (.agg #[.int .i64 0, .int .i64 0, .slice none 0 0, .int .i64 k]) ∧ Below w.heap.size w w' := by
  have HB : Hid (∀ o, Below w.heap.size w (w.alloc o)) := fun o => (Below.refl _ _).alloc (Nat.le_refl _) o
  go_enter Tryd.func20, Tryd.ntmps20
  go_wp2
  exact bodyPost_ret (results_cell_row Tryd.results20 _ _ w.heap.size _ _ _ _ rfl (heap_alloc_new _ _) Tryd.underlying29 rfl infoWO) rfl ⟨rfl, HB.out _⟩

/-- what is known inside: the window's block and the answer's -/
structure InMm (w : World) (e t : Int) (v : Value) (u : World) : Prop where
  below : Below w.heap.size w u
  win : u.heap[w.heap.size]? = some (.cells #[.int .i64 e, .int .i64 t, v] 25 (0, 0))
  res : u.heap[w.heap.size + 1]? = some (.cells #[.int .i64 0, .int .i64 0, .slice none 0 0, .int .i64 0] 29 (0, 0))
theorem InMm.up {w u u' : World} {e t : Int} {v : Value} (h : InMm w e t v u) (hb : Below u.heap.size u u') : InMm w e t v u' := ⟨h.below.trans (hb.mono h.below.size), (hb.block _ (heap_lt h.win)).trans h.win, (hb.block _ (heap_lt h.res)).trans h.res⟩
theorem InMm.drewN {w u : World} {e t : Int} {v : Value} (h : InMm w e t v u) (k : Nat) : InMm w e t v (u.drewN k) := ⟨below_drewN h.below _, h.win, h.res⟩
theorem InMm.drew {w u : World} {e t : Int} {v : Value} (h : InMm w e t v u) : InMm w e t v u.drew := ⟨h.below.drew, h.win, h.res⟩
theorem inMm_start (w : World) (e t : Int) (v : Value) : InMm w e t v ((w.alloc (.cells #[.int .i64 e, .int .i64 t, v] 25)).alloc (.cells #[.int .i64 0, .int .i64 0, .slice none 0 0, .int .i64 0] 29)) :=
  ⟨((Below.refl _ _).alloc (Nat.le_refl _) _).alloc (by simp) _, (Below.heap_alloc _ _ _ (by simp)).trans (heap_alloc_new _ _), heap_alloc2_new _ _ _⟩

/-- an answer that refuses -/
theorem out_ill (base : Nat) (k : Int) (w' : World) : OutIs base ((0, 0, []), k) (.returned (.agg #[.int .i64 0, .int .i64 0, .slice none 0 0, .int .i64 k])) w' := ⟨_, rfl, ⟨rfl, .inl ⟨rfl, rfl⟩⟩⟩

set_option maxRecDepth 20000 in
set_option maxHeartbeats 8000000 in
theorem takeM_form (e t : Int) (v : Value) (s : List Int) (ep c : Int) (w : World) (hs : s.length ≤ maxLen) (hv : SliceIs w v s) (hn : ¬ (RightW e t s ∧ RightG 0 ep c 0)) :
    Calls Tryd.prog 7 #[.agg #[.int .i64 e, .int .i64 t, v], .int .i64 ep, .int .i64 c] w fun r w' => Below w.heap.size w w' ∧ OutIs w.heap.size (takeA e t s ep c) r w' := by
  rw [takeA_form hn]
  have HI0 : Hid (InMm w e t v _) := inMm_start w e t v
  have HV : Hid (∀ u, Below w.heap.size w u → SliceIs u v s) := fun u hu => hv.up hu
  have HOI : Hid (∀ w', OutIs w.heap.size ((0, 0, []), 1) (.returned (.agg #[.int .i64 0, .int .i64 0, .slice none 0 0, .int .i64 1])) w') := fun w' => out_ill _ _ _
  clear hv
  go_enter Tryd.func7, Tryd.ntmps7
  go_wp2_with (go_at_call 9; fail)
  refine calls_w (InMm w e t v) HI0.out ?_
  clear HI0
  intro u0 i0
  refine (windowM_any e t v s u0 hs (HV.out _ i0.below)).mono ?_
  rintro r w1 ⟨rfl, hb1⟩
  have i1 := i0.up hb1
  clear i0 hb1
  have hres := i1.res
  have HB1 : Hid (Below w.heap.size w w1) := i1.below
  clear i1
  by_cases h1 : RightW e t s
  · rw [decide_eq_true h1]
    by_cases h2 : 0 ≤ ep ∧ ep ≤ 200
    · have d2 := decide_eq_true h2
      have h3 : ¬ (0 ≤ c ∧ c ≤ 2000) := fun h => hn ⟨h1, ⟨by omega, by omega⟩, h2, h, Nat.zero_le _⟩
      have d3 := decide_eq_false h3
      go_wp2_with (first | (go_at_call 19; (with_reducible refine (is_any _ _ _ _).mono ?_); rintro r w' ⟨rfl, hw'⟩; obtain rfl := hw'.symm) | (go_at_call 20; (with_reducible refine (illM_any _ _).mono ?_); rintro r w2 ⟨rfl, hb2⟩; have hres2 := (hb2.block _ (heap_lt hres)).trans hres; have HB2 : Hid (Below w.heap.size w w2) := HB1.out.trans (hb2.mono HB1.out.size); clear hb2) | (refine wpList_store_row rfl 29 _ _ rfl (w.heap.size + 1) _ rfl rfl _ _ hres2 infoWO (by rfl) (by simp [Value.oneCell']) ?_))
      exact bodyPost_ret (results_cell_row Tryd.results7 _ _ (w.heap.size + 1) _ _ _ _ rfl (setRow_heap _ _ _ _ _ _ hres2) Tryd.underlying29 rfl infoWO) rfl ⟨below_setRow HB2.out (by omega) _, HOI.out _⟩
    · have d2 := decide_eq_false h2
      go_wp2_with (first | (go_at_call 19; (with_reducible refine (is_any _ _ _ _).mono ?_); rintro r w' ⟨rfl, hw'⟩; obtain rfl := hw'.symm) | (go_at_call 20; (with_reducible refine (illM_any _ _).mono ?_); rintro r w2 ⟨rfl, hb2⟩; have hres2 := (hb2.block _ (heap_lt hres)).trans hres; have HB2 : Hid (Below w.heap.size w w2) := HB1.out.trans (hb2.mono HB1.out.size); clear hb2) | (refine wpList_store_row rfl 29 _ _ rfl (w.heap.size + 1) _ rfl rfl _ _ hres2 infoWO (by rfl) (by simp [Value.oneCell']) ?_))
      exact bodyPost_ret (results_cell_row Tryd.results7 _ _ (w.heap.size + 1) _ _ _ _ rfl (setRow_heap _ _ _ _ _ _ hres2) Tryd.underlying29 rfl infoWO) rfl ⟨below_setRow HB2.out (by omega) _, HOI.out _⟩
  · rw [decide_eq_false h1]
    go_wp2_with (first | (go_at_call 20; (with_reducible refine (illM_any _ _).mono ?_); rintro r w2 ⟨rfl, hb2⟩; have hres2 := (hb2.block _ (heap_lt hres)).trans hres; have HB2 : Hid (Below w.heap.size w w2) := HB1.out.trans (hb2.mono HB1.out.size); clear hb2) | (refine wpList_store_row rfl 29 _ _ rfl (w.heap.size + 1) _ rfl rfl _ _ hres2 infoWO (by rfl) (by simp [Value.oneCell']) ?_))
    exact bodyPost_ret (results_cell_row Tryd.results7 _ _ (w.heap.size + 1) _ _ _ _ rfl (setRow_heap _ _ _ _ _ _ hres2) Tryd.underlying29 rfl infoWO) rfl ⟨below_setRow HB2.out (by omega) _, HOI.out _⟩
end Go.Proofs.YtodcjhckkbmikaaDoor.wi
