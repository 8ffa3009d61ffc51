/-
  The law that holds the program's WindowTake against the model's, walked: it tells true. Condition: the four errors lie in their variables.
-/
import Derived.Test.YtcgcjikgbbmjiaaDoorWinU
namespace Go.Proofs.YtcgcjikgbbmjiaaDoor.wi
open Go.ChangeShapes Go.WideShapes Go.ChangeAt Go.RowKit
set_option linter.unusedVariables false

/-- the blocks in the order of their making -/
structure Ranks (N qa : Nat) (va : Value) (qx g qg : Nat) (vg : Value) : Prop where
  a1 : ∀ b, va.ownBlock = some b → N < b ∧ b < qa
  a2 : N < qa
  a3 : qa < g
  a4 : g < qx
  a5 : ∀ b, vg.ownBlock = some b → qx < b ∧ b < qg
  a6 : qx < qg
/-- what is known behind the three answers -/
structure InLaw (w : World) (e t : Int) (v : Value) (qa : Nat) (va : Value) (qx g n qg : Nat) (vg : Value) (ae att : Int) (al : List Int) (ac : Int) (lx lg : List Int) (u : World) : Prop where
  below : Below w.heap.size w u
  win : u.heap[w.heap.size]? = some (.cells #[.int .i64 e, .int .i64 t, v] 31 (0, 0))
  wa : u.heap[qa]? = some (.cells #[.int .i64 ae, .int .i64 att, va, .int .i64 ac] 35 (0, 0))
  ra : Own u va al
  wx : u.heap[qx]? = some (.cells #[.int .i64 e, .int .i64 t, .slice (some ⟨g, 0, none⟩) n n] 33 (0, 0))
  rx : Own u (.slice (some ⟨g, 0, none⟩) n n) lx
  wg : u.heap[qg]? = some (.cells #[.int .i64 ae, .int .i64 att, vg, .int .i64 ac] 35 (0, 0))
  rg : Own u vg lg
theorem InLaw.up {w u u' : World} {e t : Int} {v : Value} {qa : Nat} {va : Value} {qx g n qg : Nat} {vg : Value} {ae att : Int} {al : List Int} {ac : Int} {lx lg : List Int} (h : InLaw w e t v qa va qx g n qg vg ae att al ac lx lg u) (hb : Below u.heap.size u u') : InLaw w e t v qa va qx g n qg vg ae att al ac lx lg u' :=
  ⟨h.below.trans (hb.mono h.below.size), (hb.block _ (heap_lt h.win)).trans h.win, (hb.block _ (heap_lt h.wa)).trans h.wa, h.ra.up hb, (hb.block _ (heap_lt h.wx)).trans h.wx, h.rx.up hb, (hb.block _ (heap_lt h.wg)).trans h.wg, h.rg.up hb⟩
theorem InLaw.drew {w u : World} {e t : Int} {v : Value} {qa : Nat} {va : Value} {qx g n qg : Nat} {vg : Value} {ae att : Int} {al : List Int} {ac : Int} {lx lg : List Int} (h : InLaw w e t v qa va qx g n qg vg ae att al ac lx lg u) : InLaw w e t v qa va qx g n qg vg ae att al ac lx lg u.drew :=
  ⟨h.below.drew, h.win, h.wa, h.ra, h.wx, h.rx, h.wg, h.rg⟩
theorem InLaw.markx {w u u' : World} {e t : Int} {v : Value} {qa : Nat} {va : Value} {qx g n qg : Nat} {vg : Value} {ae att : Int} {al : List Int} {ac : Int} {lx lg lx' : List Int} (h : InLaw w e t v qa va qx g n qg vg ae att al ac lx lg u) (o : Ranks w.heap.size qa va qx g qg vg) (hg : u.grownBy u' (some g)) (hr : Own u' (.slice (some ⟨g, 0, none⟩) n n) lx') : InLaw w e t v qa va qx g n qg vg ae att al ac lx' lg u' := by
  have := o.a2; have := o.a3; have := o.a4; have := o.a6
  refine ⟨h.below.grown hg h.below.size (fun j hj => by cases hj; omega), (hg.block _ (heap_lt h.win) (by simp; omega)).trans h.win, (hg.block _ (heap_lt h.wa) (by simp; omega)).trans h.wa, h.ra.kept hg (.inr fun hh => ?_), (hg.block _ (heap_lt h.wx) (by simp; omega)).trans h.wx, hr, (hg.block _ (heap_lt h.wg) (by simp; omega)).trans h.wg, h.rg.kept hg (.inr fun hh => ?_)⟩
  · have := o.a1 g hh; omega
  · have := o.a5 g hh; omega
theorem InLaw.markg {w u u' : World} {e t : Int} {v : Value} {qa : Nat} {va : Value} {qx g n qg : Nat} {vg : Value} {ae att : Int} {al : List Int} {ac : Int} {lx lg lg' : List Int} (h : InLaw w e t v qa va qx g n qg vg ae att al ac lx lg u) (o : Ranks w.heap.size qa va qx g qg vg) (hg : u.grownBy u' vg.ownBlock) (hr : Own u' vg lg') : InLaw w e t v qa va qx g n qg vg ae att al ac lx lg' u' := by
  have := o.a2; have := o.a3; have := o.a4; have := o.a6
  cases hb : vg.ownBlock with
  | none =>
    rw [hb] at hg
    exact ⟨h.below.grown hg h.below.size (fun j hj => by cases hj), (hg.block _ (heap_lt h.win) (by simp)).trans h.win, (hg.block _ (heap_lt h.wa) (by simp)).trans h.wa, h.ra.kept hg (by cases va.ownBlock <;> simp), (hg.block _ (heap_lt h.wx) (by simp)).trans h.wx, h.rx.kept hg (.inr (by simp [Value.ownBlock])), (hg.block _ (heap_lt h.wg) (by simp)).trans h.wg, hr⟩
  | some b =>
    rw [hb] at hg
    have hb5 := o.a5 b hb
    refine ⟨h.below.grown hg h.below.size (fun j hj => by cases hj; omega), (hg.block _ (heap_lt h.win) (by simp; omega)).trans h.win, (hg.block _ (heap_lt h.wa) (by simp; omega)).trans h.wa, h.ra.kept hg (.inr fun hh => ?_), (hg.block _ (heap_lt h.wx) (by simp; omega)).trans h.wx, h.rx.kept hg (.inr fun hh => ?_), (hg.block _ (heap_lt h.wg) (by simp; omega)).trans h.wg, hr⟩
    · have := o.a1 b hh; omega
    · have : g = b := by simpa [Value.ownBlock] using hh
      omega

theorem InLaw.cells {w u : World} {e t : Int} {v : Value} {qa : Nat} {va : Value} {qx g n qg : Nat} {vg : Value} {ae att : Int} {al : List Int} {ac : Int} {lx lg : List Int} (h : InLaw w e t v qa va qx g n qg vg ae att al ac lx lg u) :
    u.cell? ⟨qx, 0, none⟩ = some (.int .i64 e) ∧ u.cell? ⟨qx, 1, none⟩ = some (.int .i64 t) ∧ u.cell? ⟨qx, 2, none⟩ = some (.slice (some ⟨g, 0, none⟩) n n) ∧
    u.cell? ⟨w.heap.size, 0, none⟩ = some (.int .i64 e) ∧ u.cell? ⟨w.heap.size, 1, none⟩ = some (.int .i64 t) ∧ u.cell? ⟨w.heap.size, 2, none⟩ = some v := by
  refine ⟨?_, ?_, ?_, ?_, ?_, ?_⟩ <;> simp [World.cell?, h.wx, h.win]

/-- what is known inside the law: the argument's block -/
def InLq (w : World) (e t : Int) (v : Value) (u : World) : Prop := Below w.heap.size w u ∧ u.heap[w.heap.size]? = some (.cells #[.int .i64 e, .int .i64 t, v] 31 (0, 0))
theorem InLq.up {w u u' : World} {e t : Int} {v : Value} (h : InLq w e t v u) (hb : Below u.heap.size u u') : InLq w e t v u' := ⟨h.1.trans (hb.mono h.1.size), (hb.block _ (heap_lt h.2)).trans h.2⟩
/-- an answer of WindowTake -/
def Ans (ae att : Int) (al : List Int) (ac : Int) (u : World) (r : Ending) (w' : World) : Prop := Below u.heap.size u w' ∧ ∃ v', r = .returned (.agg #[.int .i64 ae, .int .i64 att, v', .int .i64 ac]) ∧ w'.ownsRow u.heap.size 2 1 v' al.length (al.map (Value.int .i64))

set_option maxRecDepth 20000 in
set_option maxHeartbeats 8000000 in
theorem takeWalk (e t : Int) (v : Value) (s : List Int) (ep c : Int) (w : World) (hs : s.length ≤ maxLen) (hv : SliceIs w v s) (ae att : Int) (al : List Int) (ac : Int) (hal : al.length ≤ 1048576)
    (HM : Hid (∀ u x, SliceIs u x s → Calls Tryd.prog 9 #[.agg #[.int .i64 e, .int .i64 t, x], .int .i64 ep, .int .i64 c] u (Ans ae att al ac u)))
    (HX : Hid (∀ u x, Below w.heap.size w u → SliceIs u x s → Calls Tryd.prog 11 #[.agg #[.int .i64 e, .int .i64 t, x], .int .i64 ep, .int .i64 c] u (Ans ae att al ac u))) :
    Calls Tryd.prog 4 #[.agg #[.int .i64 e, .int .i64 t, v], .int .i64 ep, .int .i64 c] w fun r w' => r = .returned (.bool true) ∧ Below w.heap.size w w' := by
  have HI0 : Hid (InLq w e t v (w.alloc (.cells #[.int .i64 e, .int .i64 t, v] 31))) := ⟨(Below.refl _ _).alloc (Nat.le_refl _) _, heap_alloc_new _ _⟩
  have HV : Hid (∀ u, Below w.heap.size w u → SliceIs u v s) := fun u hu => hv.up hu
  clear hv
  go_enter Tryd.func4, Tryd.ntmps4
  go_wp2_with (go_at_call 8; fail)
  refine calls_w (InLq w e t v) HI0.out ?_
  clear HI0
  intro u0 h0
  refine (szWin_any e t v s u0 hs (HV.out _ h0.1)).mono ?_
  rintro r w1 ⟨rfl, hb1⟩
  have h1 := h0.up hb1
  clear h0 hb1
  have hs' := hs
  unfold maxLen at hs'
  by_cases hbig : 1048576 < s.length
  · rw [if_pos hbig]
    have HB : Hid (Below w.heap.size w w1) := h1.1
    clear h1
    go_wp2
    go_ret
    exact ⟨rfl, HB.out⟩
  · rw [if_neg hbig]
    have hs2 : s.length ≤ 1048576 := by omega
    have d : decide (1048576 - (s.length : Int) < 0) = false := decide_eq_false (by omega)
    have hrow := h1.2
    go_wp2_with (first | (refine wpList_load_row rfl 31 _ rfl w.heap.size rfl _ _ _ _ hrow Tryd.underlying31 rfl infoLW ?_) | (go_at_call 10; fail))
    clear hrow d
    refine (toWin_any e t v s w1 hs2 (HV.out _ h1.1)).mono ?_
    rintro r w2 ⟨g1, rfl, hb2, hk1, hg1⟩
    have h2 := h1.up hb2
    clear h1 hb2
    go_wp2_with (go_at_call 9; fail)
    refine (HM.out w2 _ hk1.slice).mono ?_
    rintro r w3 ⟨hb3, va, rfl, hra⟩
    have h3 := h2.up hb3
    have ha1 : ∀ b, va.ownBlock = some b → w.heap.size < b ∧ b < w3.heap.size := fun b hb => by
      have := heap_lt h2.2
      have := World.ownsRow.lt hra b hb
      omega
    clear h2 hb3 hk1 hg1 HM
    have hra0 : Own w3 va al := row_le hra (Nat.zero_le _)
    clear hra
    obtain ⟨pa, ca, rfl⟩ := own_shape hra0
    have h3' := h3.up ((Below.refl w3.heap.size w3).alloc (Nat.le_refl _) (.cells #[.int .i64 ae, .int .i64 att, .slice pa al.length ca, .int .i64 ac] 35))
    have hrow := h3'.2
    go_wp2_with (first | (refine wpList_load_row rfl 31 _ rfl w.heap.size rfl _ _ _ _ hrow Tryd.underlying31 rfl infoLW ?_) | (go_at_call 10; fail))
    clear hrow
    have ha2 : w.heap.size < w3.heap.size := heap_lt h3.2
    have wa3 : (w3.alloc (.cells #[.int .i64 ae, .int .i64 att, .slice pa al.length ca, .int .i64 ac] 35)).heap[w3.heap.size]? = some (.cells #[.int .i64 ae, .int .i64 att, .slice pa al.length ca, .int .i64 ac] 35 (0, 0)) := heap_alloc_new _ _
    have ra3 := hra0.up ((Below.refl w3.heap.size w3).alloc (Nat.le_refl _) (.cells #[.int .i64 ae, .int .i64 att, .slice pa al.length ca, .int .i64 ac] 35))
    obtain ⟨qa, hqa⟩ : ∃ q, q = w3.heap.size := ⟨_, rfl⟩
    rw [← hqa] at ha1 ha2 wa3 ⊢
    refine calls_w (fun u => InLq w e t v u ∧ u.heap[qa]? = some (.cells #[.int .i64 ae, .int .i64 att, .slice pa al.length ca, .int .i64 ac] 35 (0, 0)) ∧ Own u (.slice pa al.length ca) al) ⟨h3', wa3, ra3⟩ ?_
    clear hqa h3 h3' hra0 wa3 ra3
    rintro u4 ⟨i4, wa4, ra4⟩
    refine (toWin_any e t v s u4 hs2 (HV.out _ i4.1)).mono ?_
    rintro r w4 ⟨g, rfl, hb4, hk4, hg4⟩
    have ha3 : qa < g := Nat.lt_of_lt_of_le (heap_lt wa4) hg4
    have ha4 : g < w4.heap.size := hk4.lt
    have rx4 : Own w4 (.slice (some ⟨g, 0, none⟩) s.length s.length) s := hk4.rowAt.row (Nat.zero_le _) hs
    have bx : Below w4.heap.size w4 (w4.alloc (.cells #[.int .i64 e, .int .i64 t, .slice (some ⟨g, 0, none⟩) s.length s.length] 33)) := (Below.refl _ _).alloc (Nat.le_refl _) _
    have i5 := (i4.up hb4).up bx
    have wa5 := (bx.block _ (heap_lt ((hb4.block _ (heap_lt wa4)).trans wa4))).trans ((hb4.block _ (heap_lt wa4)).trans wa4)
    have ra5 := (ra4.up hb4).up bx
    have rx5 := rx4.up bx
    have wx5 : (w4.alloc (.cells #[.int .i64 e, .int .i64 t, .slice (some ⟨g, 0, none⟩) s.length s.length] 33)).heap[w4.heap.size]? = some (.cells #[.int .i64 e, .int .i64 t, .slice (some ⟨g, 0, none⟩) s.length s.length] 33 (0, 0)) := heap_alloc_new _ _
    clear i4 wa4 ra4 hb4 hk4 hg4 rx4 bx
    go_wp2_with (first | (refine wpList_load_row rfl 33 _ rfl w4.heap.size rfl _ _ _ _ wx5 Tryd.underlying33 rfl infoW ?_) | (go_at_call 11; fail))
    obtain ⟨qx, hqx⟩ : ∃ q, q = w4.heap.size := ⟨_, rfl⟩
    rw [← hqx] at ha4 wx5 ⊢
    refine calls_w (fun u => InLq w e t v u ∧ u.heap[qa]? = some (.cells #[.int .i64 ae, .int .i64 att, .slice pa al.length ca, .int .i64 ac] 35 (0, 0)) ∧ Own u (.slice pa al.length ca) al ∧ u.heap[qx]? = some (.cells #[.int .i64 e, .int .i64 t, .slice (some ⟨g, 0, none⟩) s.length s.length] 33 (0, 0)) ∧ Own u (.slice (some ⟨g, 0, none⟩) s.length s.length) s) ⟨i5, wa5, ra5, wx5, rx5⟩ ?_
    clear hqx i5 wa5 ra5 wx5 rx5
    rintro u6 ⟨i6, wa6, ra6, wx6, rx6⟩
    refine (HX.out u6 _ i6.1 rx6.slice).mono ?_
    rintro r w7 ⟨hb7, vg, rfl, hrg⟩
    have ha5 : ∀ b, vg.ownBlock = some b → qx < b ∧ b < w7.heap.size := fun b hb => by
      have := heap_lt wx6
      have := World.ownsRow.lt hrg b hb
      omega
    have ha6 : qx < w7.heap.size := Nat.lt_of_lt_of_le (heap_lt wx6) hb7.size
    have rg7 : Own w7 vg al := row_le hrg (Nat.zero_le _)
    clear hrg
    obtain ⟨pg, cg, rfl⟩ := own_shape rg7
    have bg : Below w7.heap.size w7 (w7.alloc (.cells #[.int .i64 ae, .int .i64 att, .slice pg al.length cg, .int .i64 ac] 35)) := (Below.refl _ _).alloc (Nat.le_refl _) _
    have wg8 : (w7.alloc (.cells #[.int .i64 ae, .int .i64 att, .slice pg al.length cg, .int .i64 ac] 35)).heap[w7.heap.size]? = some (.cells #[.int .i64 ae, .int .i64 att, .slice pg al.length cg, .int .i64 ac] 35 (0, 0)) := heap_alloc_new _ _
    obtain ⟨qg, hqg⟩ : ∃ q, q = w7.heap.size := ⟨_, rfl⟩
    have R : Ranks w.heap.size qa (.slice pa al.length ca) qx g qg (.slice pg al.length cg) := ⟨ha1, ha2, ha3, ha4, by rw [hqg]; exact ha5, by rw [hqg]; exact ha6⟩
    have i8 : InLaw w e t v qa (.slice pa al.length ca) qx g s.length qg (.slice pg al.length cg) ae att al ac s al (w7.alloc (.cells #[.int .i64 ae, .int .i64 att, .slice pg al.length cg, .int .i64 ac] 35)) := by
      have i7 := (i6.up hb7).up bg
      have h6 := hb7.trans (bg.mono hb7.size)
      exact ⟨i7.1, i7.2, (h6.block _ (heap_lt wa6)).trans wa6, ra6.up h6, (h6.block _ (heap_lt wx6)).trans wx6, rx6.up h6, by rw [hqg]; exact wg8, rg7.up bg⟩
    clear ha1 ha2 ha3 ha4 ha5 ha6 i6 wa6 ra6 wx6 rx6 hb7 rg7 bg
    have wa8 := i8.wa
    go_wp2_with (first | (refine wpList_load_row rfl 35 _ rfl w7.heap.size rfl _ _ _ _ wg8 Tryd.underlying35 rfl infoWO' ?_) | (refine wpList_load_row rfl 35 _ rfl qa rfl _ _ _ _ wa8 Tryd.underlying35 rfl infoWO' ?_) | (go_at_call 12; fail))
    rw [← hqg]
    refine calls_w (InLaw w e t v qa (.slice pa al.length ca) qx g s.length qg (.slice pg al.length cg) ae att al ac s al) i8 ?_
    clear i8 wg8 wa8 hqg
    intro u9 i9
    have hal' : al.length ≤ maxLen := Nat.le_trans hal (by decide)
    refine (eqOut_any ae att _ _ ac al u9 hal' i9.rg i9.ra).mono ?_
    rintro r w10 ⟨rfl, hb10⟩
    have i10 := i9.up hb10
    clear i9 hb10
    go_wp2_with fail
    obtain ⟨x0, x1, x2, y0, y1, y2⟩ := i10.cells
    replace i10 := i10.drew
    go_region_with (first | (go_at_call 10; (with_reducible refine (toWin_any _ _ _ _ _ hs2 (HV.out _ i10.below)).mono ?_); rintro r w11 ⟨g3, rfl, hb11, hk11, hg11⟩; replace i10 := i10.up hb11; clear hb11 x0 x1 x2 y0 y1 y2; obtain ⟨x0, x1, x2, y0, y1, y2⟩ := i10.cells) | (go_at_call 13; (with_reducible refine (eqWin_any _ _ _ _ _ _ hs i10.rx.slice hk11.slice).mono ?_); rintro r w12 ⟨rfl, hb12⟩; replace i10 := i10.up hb12; clear hb12 x0 x1 x2 y0 y1 y2; obtain ⟨x0, x1, x2, y0, y1, y2⟩ := i10.cells))
    all_goals
      clear x0 x1 x2 y0 y1 y2 hk11
      have hx := i10.wx
      go_wp2_with (first | (refine wpList_load_row rfl 33 _ rfl qx rfl _ _ _ _ hx Tryd.underlying33 rfl infoW ?_) | (go_at_call 14; fail))
      refine (markWin_any e t _ s w12 hs2 i10.rx).mono ?_
      rintro r w13 ⟨rfl, hg13, lx, hlx, _, hox⟩
      have i13 := i10.markx R hg13 hox
      clear hx i10 hg13 hlx hox
      have hn1 : decide ((s.length : Int) + 1 < 0) = false := decide_eq_false (by omega)
      obtain ⟨c0, c1, c2, c3⟩ := out_cells i13.wg
      obtain ⟨d0, d1, d2, d3⟩ := out_cells i13.wa
      go_wp2_with (go_at_call 12; fail)
      refine (eqOut_any ae att _ _ ac al w13 hal' i13.rg i13.ra).mono ?_
      rintro r w14 ⟨rfl, hb14⟩
      have i14 := i13.up hb14
      clear c0 c1 c2 c3 d0 d1 d2 d3 i13 hb14 hn1
      have hg := i14.wg
      go_wp2_with (first | (refine wpList_load_row rfl 35 _ rfl qg rfl _ _ _ _ hg Tryd.underlying35 rfl infoWO' ?_) | (go_at_call 15; fail))
      refine (markOut_any ae att _ ac al w14 hal i14.rg).mono ?_
      rintro r w15 ⟨rfl, hg15, lg, hlg, hmk, hog⟩
      have i15 := i14.markg R hg15 hog
      clear hg i14 hg15 hog
      have hg := i15.wg
      go_wp2_with (first | (refine wpList_load_row rfl 35 _ rfl qg rfl _ _ _ _ hg Tryd.underlying35 rfl infoWO' ?_) | (go_at_call 16; fail))
      have HHE : Hid (∀ u, Own u (.slice pg al.length cg) lg → Calls Tryd.prog 16 #[.agg #[.int .i64 ae, .int .i64 att, .slice pg al.length cg, .int .i64 ac], .int .i64 1] u fun r w' => r = .returned (.int .i64 ((al.length : Int) + 1)) ∧ Below u.heap.size u w') := fun u hu => by
        have := heldOut_any ae att (.slice pg al.length cg) ac lg u (by omega) hu (by rw [hlg]; exact hmk)
        rwa [hlg] at this
      clear hlg hmk
      refine (HHE.out w15 i15.rg).mono ?_
      rintro r w16 ⟨rfl, hb16⟩
      have i16 := i15.up hb16
      clear hg i15 hb16
      have hn1 : decide ((al.length : Int) + 1 < 0) = false := decide_eq_false (by omega)
      have hn2 : (((al.length : Int) + 1) == ((al.length : Int) + 1)) = true := by simp
      have hrow := i16.win
      go_wp2_with (first | (refine wpList_load_row rfl 31 _ rfl w.heap.size rfl _ _ _ _ hrow Tryd.underlying31 rfl infoLW ?_) | (go_at_call 10; fail))
      refine (toWin_any e t v s w16 hs2 (HV.out _ i16.below)).mono ?_
      rintro r w17 ⟨g4, rfl, hb17, hk17, hg17⟩
      have i17 := i16.up hb17
      clear hrow i16 hb17 hg17
      go_wp2_with (go_at_call 11; fail)
      refine (HX.out w17 _ i17.below hk17.slice).mono ?_
      rintro r w18 ⟨hb18, vh, rfl, hrh⟩
      have i18 := i17.up hb18
      have rh18 : Own w18 vh al := row_le hrh (Nat.zero_le _)
      clear i17 hb18 hk17 hrh
      obtain ⟨ph, ch, rfl⟩ := own_shape rh18
      have bh : Below w18.heap.size w18 (w18.alloc (.cells #[.int .i64 ae, .int .i64 att, .slice ph al.length ch, .int .i64 ac] 35)) := (Below.refl _ _).alloc (Nat.le_refl _) _
      have wh19 : (w18.alloc (.cells #[.int .i64 ae, .int .i64 att, .slice ph al.length ch, .int .i64 ac] 35)).heap[w18.heap.size]? = some (.cells #[.int .i64 ae, .int .i64 att, .slice ph al.length ch, .int .i64 ac] 35 (0, 0)) := heap_alloc_new _ _
      have i19 := i18.up bh
      have rh19 := rh18.up bh
      have wa19 := i19.wa
      clear i18 rh18 bh
      go_wp2_with (first | (refine wpList_load_row rfl 35 _ rfl w18.heap.size rfl _ _ _ _ wh19 Tryd.underlying35 rfl infoWO' ?_) | (refine wpList_load_row rfl 35 _ rfl qa rfl _ _ _ _ wa19 Tryd.underlying35 rfl infoWO' ?_) | (go_at_call 12; fail))
      refine (eqOut_any ae att _ _ ac al _ hal' rh19 i19.ra).mono ?_
      rintro r w20 ⟨rfl, hb20⟩
      have i20 := i19.up hb20
      clear wh19 wa19 i19 rh19 hb20
      have hg := i20.wg
      go_wp2_with (first | (refine wpList_load_row rfl 35 _ rfl qg rfl _ _ _ _ hg Tryd.underlying35 rfl infoWO' ?_) | (go_at_call 16; fail))
      refine (HHE.out w20 i20.rg).mono ?_
      rintro r w21 ⟨rfl, hb21⟩
      have HB : Hid (Below w.heap.size w w21) := (i20.up hb21).below
      clear hg i20 hb21 HHE HV HX
      go_wp2
      go_ret
      exact ⟨rfl, HB.out⟩
end Go.Proofs.YtcgcjikgbbmjiaaDoor.wi
