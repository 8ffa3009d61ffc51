/-
  For every window the law that holds the program's WindowRight against the model's answers true: no condition.
-/
import Derived.Test.YtkfiigmfhfhkgahRows
import Derived.Test.YtkfiigmfhfhkgahWinM
import Derived.Test.YtkfiigmfhfhkgahWinT
import Derived.Test.YtkfiigmfhfhkgahWinO
namespace Go.Proofs.Ytkfiigmfhfhkgah.fnExactWindowRight
open Go.ChangeShapes Go.WideShapes Go.ChangeAt Go.RowKit
open Go.Proofs.Ytkfiigmfhfhkgah.wi
open Classical
set_option linter.unusedVariables false

theorem own : ownKnob Try.prog.godebug = none := by kernel_rfl
theorem laidOut : laidOutB Try.prog = true := by kernel_rfl

/-- what is known inside the law: the argument's block -/
def InL (w : World) (e t : Int) (v : Value) (u : World) : Prop := Below w.heap.size w u ∧ u.heap[w.heap.size]? = some (.cells #[.int .i64 e, .int .i64 t, v] 31 (0, 0))
theorem InL.up {w u u' : World} {e t : Int} {v : Value} (h : InL w e t v u) (hb : Below u.heap.size u u') : InL w e t v u' := ⟨h.1.trans (hb.mono h.1.size), (hb.block _ (heap_lt h.2)).trans h.2⟩
/-- what is known where the argument's copy is held against the argument -/
def InE (w : World) (e t : Int) (v : Value) (q g : Nat) (s : List Int) (u : World) : Prop := InL w e t v u ∧ u.heap[q]? = some (.cells #[.int .i64 e, .int .i64 t, .slice (some ⟨g, 0, none⟩) s.length s.length] 34 (0, 0)) ∧ Blk u g s
theorem InE.up {w u u' : World} {e t : Int} {v : Value} {q g : Nat} {s : List Int} (h : InE w e t v q g s u) (hb : Below u.heap.size u u') : InE w e t v q g s u' := ⟨h.1.up hb, (hb.block _ (heap_lt h.2.1)).trans h.2.1, h.2.2.up hb⟩
theorem InE.drew {w u : World} {e t : Int} {v : Value} {q g : Nat} {s : List Int} (h : InE w e t v q g s u) : InE w e t v q g s u.drew := ⟨⟨h.1.1.drew, h.1.2⟩, h.2.1, h.2.2⟩
theorem InE.below {w u : World} {e t : Int} {v : Value} {q g : Nat} {s : List Int} (h : InE w e t v q g s u) : Below w.heap.size w u := h.1.1
theorem InE.slice {w u : World} {e t : Int} {v : Value} {q g : Nat} {s : List Int} (h : InE w e t v q g s u) : SliceIs u (.slice (some ⟨g, 0, none⟩) s.length s.length) s := h.2.2.slice
theorem InE.cells {w u : World} {e t : Int} {v : Value} {q g : Nat} {s : List Int} (h : InE w e t v q g s u) :
    u.cell? ⟨q, 0, none⟩ = some (.int .i64 e) ∧ u.cell? ⟨q, 1, none⟩ = some (.int .i64 t) ∧ u.cell? ⟨q, 2, none⟩ = some (.slice (some ⟨g, 0, none⟩) s.length s.length) ∧
    u.cell? ⟨w.heap.size, 0, none⟩ = some (.int .i64 e) ∧ u.cell? ⟨w.heap.size, 1, none⟩ = some (.int .i64 t) ∧ u.cell? ⟨w.heap.size, 2, none⟩ = some v := by
  refine ⟨?_, ?_, ?_, ?_, ?_, ?_⟩ <;> simp [World.cell?, h.2.1, h.1.2]

set_option maxHeartbeats 8000000 in
theorem walk (e t : Int) (v : Value) (s : List Int) (w : World) (hs : s.length ≤ maxLen) (hv : SliceIs w v s) :
    Calls Try.prog 4 #[.agg #[.int .i64 e, .int .i64 t, v]] w fun r w' => r = .returned (.bool true) ∧ Below w.heap.size w w' := by
  have HI0 : Hid (InL w e t v (w.alloc (.cells #[.int .i64 e, .int .i64 t, v] 31))) := ⟨(Below.refl _ _).alloc (Nat.le_refl _) _, heap_alloc_new _ _⟩
  have HV : Hid (∀ u, Below w.heap.size w u → SliceIs u v s) := fun u hu => hv.up hu
  clear hv
  go_enter Try.func4, Try.ntmps4
  go_wp2_with (go_at_call 9; fail)
  refine calls_w (InL w e t v) HI0.out ?_
  clear HI0
  intro u0 h0
  refine (szWin_any e t v s u0 hs (HV.out _ h0.1)).mono ?_
  rintro r w1 ⟨rfl, hb1⟩
  have h1 := h0.up hb1
  clear h0 hb1
  have hs' := hs
  unfold maxLen at hs'
  by_cases hbig : 1048576 < s.length
  · rw [if_pos hbig]
    have HB : Hid (Below w.heap.size w w1) := h1.1
    clear h1
    go_wp2
    go_ret
    exact ⟨rfl, HB.out⟩
  · rw [if_neg hbig]
    have hs2 : s.length ≤ 1048576 := by omega
    have d : decide (1048576 - (s.length : Int) < 0) = false := decide_eq_false (by omega)
    have hrow := h1.2
    go_wp2_with (first | (refine wpList_load_row rfl 31 _ rfl w.heap.size rfl _ _ _ _ hrow Try.underlying31 rfl infoLW ?_) | (go_at_call 11; fail))
    clear hrow
    refine (toWin_any e t v s w1 hs2 (HV.out _ h1.1)).mono ?_
    rintro r w2 ⟨g1, rfl, hb2, hk1, hg1⟩
    have h2 := h1.up hb2
    clear h1 hb2
    go_wp2_with (go_at_call 10; fail)
    refine (windowM_any e t _ s w2 hs hk1.slice).mono ?_
    rintro r w3 ⟨rfl, hb3⟩
    have h3 := h2.up hb3
    clear h2 hb3 hk1
    have hrow := h3.2
    go_wp2_with (first | (refine wpList_load_row rfl 31 _ rfl w.heap.size rfl _ _ _ _ hrow Try.underlying31 rfl infoLW ?_) | (go_at_call 11; fail))
    clear hrow
    refine (toWin_any e t v s w3 hs2 (HV.out _ h3.1)).mono ?_
    rintro r w4 ⟨g2, rfl, hb4, hk2, hg2⟩
    have h4 := h3.up hb4
    clear h3 hb4
    have h5 : InL w e t v (w4.alloc (.cells #[.int .i64 e, .int .i64 t, .slice (some ⟨g2, 0, none⟩) s.length s.length] 34)) := h4.up ((Below.refl _ _).alloc (Nat.le_refl _) _)
    have hx5 : (w4.alloc (.cells #[.int .i64 e, .int .i64 t, .slice (some ⟨g2, 0, none⟩) s.length s.length] 34)).heap[w4.heap.size]? = some (.cells #[.int .i64 e, .int .i64 t, .slice (some ⟨g2, 0, none⟩) s.length s.length] 34 (0, 0)) := heap_alloc_new _ _
    have hk5 := hk2.up ((Below.refl w4.heap.size w4).alloc (Nat.le_refl _) (.cells #[.int .i64 e, .int .i64 t, .slice (some ⟨g2, 0, none⟩) s.length s.length] 34))
    clear hk2 h4
    go_wp2_with (first | (refine wpList_load_row rfl 34 _ rfl w4.heap.size rfl _ _ _ _ hx5 Try.underlying34 rfl infoW ?_) | (go_at_call 12; fail))
    obtain ⟨q, hq⟩ : ∃ q, q = w4.heap.size := ⟨_, rfl⟩
    rw [← hq] at hx5 ⊢
    refine calls_w (fun u => InL w e t v u ∧ u.heap[q]? = some (.cells #[.int .i64 e, .int .i64 t, .slice (some ⟨g2, 0, none⟩) s.length s.length] 34 (0, 0)) ∧ Blk u g2 s) ⟨h5, hx5, hk5⟩ ?_
    clear h5 hx5 hk5 hq
    rintro u5 ⟨h5, hx5, hk5⟩
    refine (windowI_any e t _ s u5 hs hk5.slice).mono ?_
    rintro r w6 ⟨rfl, hb6⟩
    have h6 := h5.up hb6
    have hx6 := (hb6.block _ (heap_lt hx5)).trans hx5
    have hk6 := hk5.up hb6
    clear h5 hx5 hk5 hb6
    obtain ⟨z, hz⟩ : ∃ z, z = decide (RightW e t s) := ⟨_, rfl⟩
    rw [← hz]
    clear hz
    have hzz : (z == z) = true := by simp
    have hzn : (z != z) = false := by simp
    · go_wp2_with fail
      have hJ : InE w e t v q g2 s w6 := ⟨h6, hx6, hk6⟩
      clear h6 hx6 hk6
      obtain ⟨x0, x1, x2, y0, y1, y2⟩ := hJ.cells
      replace hJ := hJ.drew
      go_region_with (first | (go_at_call 11; (with_reducible refine (toWin_any _ _ _ _ _ hs2 (HV.out _ hJ.below)).mono ?_); rintro r w7 ⟨g3, rfl, hb7, hk7, hg7⟩; replace hJ := hJ.up hb7; clear hb7 x0 x1 x2 y0 y1 y2; obtain ⟨x0, x1, x2, y0, y1, y2⟩ := hJ.cells) | (go_at_call 13; (with_reducible refine (eqWin_any _ _ _ _ _ _ hs hJ.slice hk7.slice).mono ?_); rintro r w8 ⟨rfl, hb8⟩; replace hJ := hJ.up hb8; clear hb8 x0 x1 x2 y0 y1 y2; obtain ⟨x0, x1, x2, y0, y1, y2⟩ := hJ.cells))
      all_goals
        have HB : Hid (Below w.heap.size w w8) := hJ.below
        clear hJ x0 x1 x2 y0 y1 y2 hk7
        go_wp2
        go_ret
        exact ⟨rfl, HB.out⟩

set_option maxRecDepth 100000 in
theorem lifted (os : Os) (started : os.Started) (H : Type) (enc : TypeId × Value → H) :
    ReturnsInHanded {} Try.checked os 4 .any (Rows.fnExactWindowRightSpec.pre6 enc Try.prog Try.f4 Rows.fnExactWindowRightRow.domain false) (Rows.fnExactWindowRightSpec.post enc Try.prog Try.f4 false true false false) := by
  refine returnsInHanded_of_change (C := Try.checked) own started (by kernel_rfl) Try.func4
    (ChangeSpec.witness6 (enc := enc) (C := Try.checked) false ⟨#[], #[.agg #[.int .i64 0, .int .i64 0, .slice none 0 0]], []⟩ 8 (by kernel_rfl) (by kernel_rfl) (by kernel_rfl) (by kernel_rfl)) ?_
  intro W base args ds gs before hval0 hW hcnd _
  have hval : ∀ (j : Nat) t v, Try.f4.params[j]? = some t → args[j]? = some v → Value.okWide Try.prog W .any base t v := hval0
  have hW' := hW
  obtain ⟨p, q, hA0, hV, rfl, hfz, hnd⟩ := hW
  have hA : DataW.TrodAll enc Try.prog W 0 (fun _ => true) true Try.f4.params.toList args.toList ds p := hA0
  rw [Try.params4] at hA hval
  obtain ⟨v0, vs0, d0, ds0, p0, q0, hargs, rfl, rfl, h0, r0⟩ := trodAll_cons hA
  obtain ⟨rfl, rfl, rfl⟩ := trodAll_nil r0
  obtain rfl : args = #[v0] := by cases args; simp_all
  obtain ⟨rfl, rfl⟩ := trodVars_none hV
  have k0 := h0
  have lt0 : ∀ x ∈ p0, x.block < W.heap.size := by obtain ⟨m, hm⟩ := k0; exact DataW.trod_lt m _ _ _ hm
  obtain ⟨e, t, v, s, rfl, hs, hv⟩ := win_open (hval 0 31 v0 rfl rfl) h0
  clear hA0 hval0
  simp only [List.append_nil] at hW'
  refine (walk e t v s W hs hv).mono fun e W' ⟨he, bel⟩ => ?_
  subst he
  exact ⟨_, rfl, _, _, _, [], _, [], hW', trodAll_mk1 (shut_bool Try.underlying4 _), (trodAll_cons_mk (Below.trod laidOut (by kernel_rfl) (of_decide_eq_true (by kernel_rfl)) k0 bel lt0) trodAll_mk0), rfl, bel.frame _, fun h => by cases h⟩

theorem over : Rows.fnExactWindowRightRow.holds Try.pinned (OpenSpec.ofChange Rows.fnExactWindowRightSpec) :=
  OpenClaim.holds_of_wide 4 Try.f4 rfl rfl rfl rfl rfl rfl rfl ⟨rfl, rfl, rfl, rfl, rfl⟩ rfl rfl rfl rfl rfl (by kernel_rfl) Try.func4 (by kernel_rfl)
    (of_decide_eq_true (by kernel_rfl)) (by unfold Func.isWrapper; first | (rw [if_pos (by decide +kernel)]; kernel_rfl) | (rw [if_neg (by decide +kernel)]; exact ⟨rfl, rfl⟩))
    (fun os started H enc _ => lifted os started H enc)

theorem proved : Rows.FnExactWindowRightSaid :=
  over
#print axioms proved
end Go.Proofs.Ytkfiigmfhfhkgah.fnExactWindowRight
