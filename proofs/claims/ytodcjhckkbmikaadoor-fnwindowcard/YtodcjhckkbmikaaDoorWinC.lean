/-
  The law FnWindow, walked, whatever the two rows of bytes: it tells true. Condition: the four errors lie in their variables.
-/
import Derived.Test.YtodcjhckkbmikaaDoorDrawWin3
import Derived.Test.YtodcjhckkbmikaaDoorWinG
import Derived.Test.YtodcjhckkbmikaaDoorWinL
import Derived.Test.YtodcjhckkbmikaaDoorErrLaid
import Derived.Deep.RegionHeld3
namespace Go.Proofs.YtodcjhckkbmikaaDoor.wi
open Go.ChangeShapes Go.WideShapes Go.ChangeAt Go.RowKit
open Go.Proofs.YtodcjhckkbmikaaDoor.dr (Codes)
open Go.Proofs.YtodcjhckkbmikaaDoor.dn (drawTake_any codes_later own_slice row_lt)
open Classical
set_option linter.unusedVariables false
set_option linter.unusedSimpArgs false

/-- what is known: the drawn window -/
structure InC1 (w : World) (qw : Nat) (e t : Int) (v : Value) (s : List Int) (u : World) : Prop where
  below : Below w.heap.size w u
  win : u.heap[qw]? = some (.cells #[.int .i64 e, .int .i64 t, v] 25 (0, 0))
  row : u.ownsRow 0 2 1 v s.length (s.map (Value.int .i64))
theorem InC1.up {w u u' : World} {qw : Nat} {e t : Int} {v : Value} {s : List Int} (h : InC1 w qw e t v s u) (hb : Below u.heap.size u u') : InC1 w qw e t v s u' := ⟨h.below.trans (hb.mono h.below.size), (hb.block _ (heap_lt h.win)).trans h.win, row_up h.row hb⟩
/-- and the answer -/
structure InC2 (w : World) (qw : Nat) (e t : Int) (v : Value) (s : List Int) (qx : Nat) (e2 t2 : Int) (v2 : Value) (s2 : List Int) (c2 : Int) (u : World) : Prop where
  one : InC1 w qw e t v s u
  out : u.heap[qx]? = some (.cells #[.int .i64 e2, .int .i64 t2, v2, .int .i64 c2] 29 (0, 0))
  row2 : u.ownsRow 0 2 1 v2 s2.length (s2.map (Value.int .i64))
theorem InC2.up {w u u' : World} {qw : Nat} {e t : Int} {v : Value} {s : List Int} {qx : Nat} {e2 t2 : Int} {v2 : Value} {s2 : List Int} {c2 : Int} (h : InC2 w qw e t v s qx e2 t2 v2 s2 c2 u) (hb : Below u.heap.size u u') : InC2 w qw e t v s qx e2 t2 v2 s2 c2 u' := ⟨h.one.up hb, (hb.block _ (heap_lt h.out)).trans h.out, row_up h.row2 hb⟩
theorem InC2.drew {w u : World} {qw : Nat} {e t : Int} {v : Value} {s : List Int} {qx : Nat} {e2 t2 : Int} {v2 : Value} {s2 : List Int} {c2 : Int} (h : InC2 w qw e t v s qx e2 t2 v2 s2 c2 u) : InC2 w qw e t v s qx e2 t2 v2 s2 c2 u.drew := ⟨⟨h.one.below.drew, h.one.win, h.one.row⟩, h.out, h.row2⟩
theorem InC2.cells {w u : World} {qw : Nat} {e t : Int} {v : Value} {s : List Int} {qx : Nat} {e2 t2 : Int} {v2 : Value} {s2 : List Int} {c2 : Int} (h : InC2 w qw e t v s qx e2 t2 v2 s2 c2 u) : (u.cell? ⟨qw, 0, none⟩ = some (.int .i64 e) ∧ u.cell? ⟨qw, 1, none⟩ = some (.int .i64 t) ∧ u.cell? ⟨qw, 2, none⟩ = some v) ∧ (u.cell? ⟨qx, 0, none⟩ = some (.int .i64 e2) ∧ u.cell? ⟨qx, 1, none⟩ = some (.int .i64 t2) ∧ u.cell? ⟨qx, 2, none⟩ = some v2 ∧ u.cell? ⟨qx, 3, none⟩ = some (.int .i64 c2)) := by
  refine ⟨⟨?_, ?_, ?_⟩, ?_, ?_, ?_, ?_⟩ <;> simp [World.cell?, h.one.win, h.out]

/-- the code of an answer that lies in no block -/
theorem field_code (e t : Int) (v : Value) (c : Int) (u : World) : (Instr.field 29 (.agg #[.int .i64 e, .int .i64 t, v, .int .i64 c]) 1).run Tryd.prog u = .ok (.int .i64 c) u := by kernel_rfl

set_option maxRecDepth 20000 in
set_option maxHeartbeats 8000000 in
theorem winCore (a0 : Option Addr) (len0 cap0 : Nat) (a1 : Option Addr) (len1 cap1 : Nat) (w : World) (c0 : Codes w w.heap.size a0 len0) (c1 : Codes w w.heap.size a1 len1) (hg : el.Met w) :
    Calls Tryd.prog 3 #[.slice a0 len0 cap0, .slice a1 len1 cap1] w fun e w' => e = .returned (.bool true) ∧ Below w.heap.size w w' := by
  obtain ⟨b1, b2, b3, b4, hE⟩ := hg
  have HE : Hid (∀ u, Below w.heap.size w u → ei.Errs u b1 b2 b3 b4) := fun u hu => hE.up hu
  have HC1 : Hid (∀ u, Below w.heap.size w u → Codes u u.heap.size a1 len1) := fun u hu => codes_later c1 hu
  have l0 := c0.1
  have l1 := c1.1
  clear hE c1
  go_enter Tryd.func3, Tryd.ntmps3
  go_wp2_with (go_at_call 4; fail)
  refine (drawTake_any a0 len0 cap0 w c0).mono ?_
  rintro r w1 ⟨e, t, v, s, ep, c, rfl, hs, hrow, hb1⟩
  clear c0
  obtain ⟨p, np, cp, rfl⟩ := row_shape hrow
  have hsm : s.length ≤ maxLen := Nat.le_trans hs (by decide)
  have i2 : InC1 w w1.heap.size e t (.slice p np cp) s (w1.alloc (.cells #[.int .i64 e, .int .i64 t, .slice p np cp] 25)) := ⟨hb1.alloc hb1.size _, heap_alloc_new _ _, row_up (row_le hrow (Nat.zero_le _)) ((Below.refl _ _).alloc (Nat.le_refl _) _)⟩
  have hwin := i2.win
  go_wp2_with (first | (refine wpList_load_row rfl 25 _ rfl w1.heap.size rfl _ _ _ _ hwin Tryd.underlying25 rfl infoW ?_) | (go_at_call 5; fail))
  obtain ⟨qw, hqw⟩ : ∃ q, q = w1.heap.size := ⟨_, rfl⟩
  rw [← hqw] at i2 ⊢
  refine calls_w (InC1 w qw e t (.slice p np cp) s) i2 ?_
  clear i2 hqw hwin hb1 hrow
  intro u2 i2
  refine (takeI_any e t (.slice p np cp) s ep c u2 hsm (own_slice i2.row) (HE.out _ i2.below)).mono ?_
  rintro r w3 ⟨hb3, v2, rfl, hrow2⟩
  have i3 := i2.up hb3
  clear i2 hb3
  obtain ⟨p2, n2, cp2, rfl⟩ := row_shape hrow2
  have i4 : InC2 w qw e t (.slice p np cp) s w3.heap.size (takeA e t s ep c).1.1 (takeA e t s ep c).1.2.1 (.slice p2 n2 cp2) (takeA e t s ep c).1.2.2 (takeA e t s ep c).2 (w3.alloc (.cells #[.int .i64 (takeA e t s ep c).1.1, .int .i64 (takeA e t s ep c).1.2.1, .slice p2 n2 cp2, .int .i64 (takeA e t s ep c).2] 29)) :=
    ⟨i3.up ((Below.refl _ _).alloc (Nat.le_refl _) _), heap_alloc_new _ _, row_up (row_le hrow2 (Nat.zero_le _)) ((Below.refl _ _).alloc (Nat.le_refl _) _)⟩
  clear i3 hrow2
  have HA : Hid (∀ e2 t2 s2, takeA e t s ep c = ((e2, t2, s2), 0) → RightW e2 t2 s2 ∧ e ≤ e2 ∧ (e2 = e → t ≤ t2) ∧ Gone e2 t2 s2 ep c) := fun e2 t2 s2 h => take_right h
  obtain ⟨e2, t2, s2, c2, hA⟩ : ∃ e2 t2 s2 c2, takeA e t s ep c = ((e2, t2, s2), c2) := ⟨_, _, _, _, rfl⟩
  have HTK : Hid (takeA e t s ep c = ((e2, t2, s2), c2)) := hA
  rw [hA] at i4 ⊢
  simp only at i4 ⊢
  clear hA
  go_wp2_with (go_at_call 4; fail)
  obtain ⟨qx, hqx⟩ : ∃ q, q = w3.heap.size := ⟨_, rfl⟩
  rw [← hqx] at i4 ⊢
  refine calls_w (InC2 w qw e t (.slice p np cp) s qx e2 t2 (.slice p2 n2 cp2) s2 c2) i4 ?_
  clear i4 hqx
  intro u4 i4
  refine (drawTake_any a1 len1 cap1 u4 (HC1.out _ i4.one.below)).mono ?_
  rintro r w5 ⟨e', t', v', s', f, d, rfl, hs', hrow', hb5⟩
  have i5 := i4.up hb5
  obtain ⟨p', n', cp', rfl⟩ := row_shape hrow'
  clear i4 hb5 hrow' HC1
  go_wp2_with fail
  refine wp_w (InC2 w qw e t (.slice p np cp) s qx e2 t2 (.slice p2 n2 cp2) s2 c2) (i5.up ((Below.refl _ _).alloc (Nat.le_refl _) _)) ?_
  clear i5
  intro u5 i5
  have hs2 : s2.length ≤ maxLen := by
    have := dn.takeA_len e t s ep c
    rw [HTK.out] at this
    exact Nat.le_trans this (by decide)
  have HSM : Hid (∀ u, u.ownsRow 0 2 1 (.slice p np cp) s.length (s.map (Value.int .i64)) → Calls Tryd.prog 7 #[.agg #[.int .i64 e, .int .i64 t, .slice p np cp], .int .i64 ep, .int .i64 c] u fun r w' => Below u.heap.size u w' ∧ ∃ p3 n3 cp3, r = .returned (.agg #[.int .i64 e2, .int .i64 t2, .slice p3 n3 cp3, .int .i64 c2]) ∧ SliceIs w' (.slice p3 n3 cp3) s2) := fun u hu => by
    refine (takeM_any e t (.slice p np cp) s ep c u hsm (own_slice hu)).mono ?_
    rintro r w' ⟨hb, v', rfl, hr⟩
    rw [HTK.out] at hr ⊢
    obtain ⟨p3, n3, cp3, rfl⟩ := row_shape hr
    exact ⟨hb, _, _, _, rfl, own_slice hr⟩
  have HLW : Hid (∀ u (v3 : Value), SliceIs u (.slice p2 n2 cp2) s2 → SliceIs u v3 s2 → Calls Tryd.prog 6 #[.agg #[.int .i64 e2, .int .i64 t2, .slice p2 n2 cp2, .int .i64 c2], .agg #[.int .i64 e2, .int .i64 t2, v3, .int .i64 c2]] u fun r w' => Below u.heap.size u w' ∧ r = .returned (.bool true)) := fun u v3 h1 h2 => (lwWindow_any e2 t2 _ v3 c2 s2 u hs2 h1 h2).mono fun r w' h => h.symm
  obtain ⟨z, hz⟩ : ∃ z, z = decide (RightW e t s) := ⟨_, rfl⟩
  have HRI : Hid (∀ u, u.ownsRow 0 2 1 (.slice p np cp) s.length (s.map (Value.int .i64)) → Calls Tryd.prog 8 #[.agg #[.int .i64 e, .int .i64 t, .slice p np cp]] u fun r w' => Below u.heap.size u w' ∧ r = .returned (.bool z)) := fun u hu => by rw [hz]; exact (windowI_any e t _ s u hsm (own_slice hu)).mono fun r w' h => h.symm
  have HRM : Hid (∀ u, u.ownsRow 0 2 1 (.slice p np cp) s.length (s.map (Value.int .i64)) → Calls Tryd.prog 9 #[.agg #[.int .i64 e, .int .i64 t, .slice p np cp]] u fun r w' => Below u.heap.size u w' ∧ r = .returned (.bool z)) := fun u hu => by rw [hz]; exact (windowM_any e t _ s u hsm (own_slice hu)).mono fun r w' h => h.symm
  clear hz
  have qz : (z == z) = true := by simp
  have qz' : (z != z) = false := by simp
  by_cases hc : c2 = 0
  · have qc : (c2 == 0) = true := by simp [hc]
    obtain ⟨hR2, he2, ht2, hgo⟩ := HA.out e2 t2 s2 (by rw [HTK.out, hc])
    have HR2 : Hid (∀ u, u.ownsRow 0 2 1 (.slice p2 n2 cp2) s2.length (s2.map (Value.int .i64)) → Calls Tryd.prog 9 #[.agg #[.int .i64 e2, .int .i64 t2, .slice p2 n2 cp2]] u fun r w' => Below u.heap.size u w' ∧ r = .returned (.bool true)) := fun u hu => (windowM_any e2 t2 _ s2 u hs2 (own_slice hu)).mono fun r w' h => ⟨h.2, by rw [h.1, decide_eq_true hR2]⟩
    obtain ⟨e6, t6, s6, c6, hA6⟩ : ∃ e6 t6 s6 c6, takeA e2 t2 s2 ep c = ((e6, t6, s6), c6) := ⟨_, _, _, _, rfl⟩
    have hc6 : c6 ≠ 0 := by have := gone_not hgo; rw [hA6] at this; exact this
    have HT2 : Hid (∀ u, Below w.heap.size w u → u.ownsRow 0 2 1 (.slice p2 n2 cp2) s2.length (s2.map (Value.int .i64)) → Calls Tryd.prog 5 #[.agg #[.int .i64 e2, .int .i64 t2, .slice p2 n2 cp2], .int .i64 ep, .int .i64 c] u fun r w' => Below u.heap.size u w' ∧ ∃ p6 n6 cp6, r = .returned (.agg #[.int .i64 e6, .int .i64 t6, .slice p6 n6 cp6, .int .i64 c6])) := fun u hb hu => by
      refine (takeI_any e2 t2 (.slice p2 n2 cp2) s2 ep c u hs2 (own_slice hu) (HE.out _ hb)).mono ?_
      rintro r w' ⟨hb', v', rfl, hr⟩
      rw [hA6] at hr ⊢
      obtain ⟨p3, n3, cp3, rfl⟩ := row_shape hr
      exact ⟨hb', _, _, _, rfl⟩
    have q6 : (c6 == 0) = false := by simp [hc6]
    obtain ⟨e7, t7, s7, c7, hA7⟩ : ∃ e7 t7 s7 c7, takeA e2 t2 s2 f d = ((e7, t7, s7), c7) := ⟨_, _, _, _, rfl⟩
    have HT3 : Hid (∀ u, Below w.heap.size w u → u.ownsRow 0 2 1 (.slice p2 n2 cp2) s2.length (s2.map (Value.int .i64)) → Calls Tryd.prog 5 #[.agg #[.int .i64 e2, .int .i64 t2, .slice p2 n2 cp2], .int .i64 f, .int .i64 d] u fun r w' => Below u.heap.size u w' ∧ ∃ p7 n7 cp7, r = .returned (.agg #[.int .i64 e7, .int .i64 t7, .slice p7 n7 cp7, .int .i64 c7]) ∧ w'.ownsRow 0 2 1 (.slice p7 n7 cp7) s7.length (s7.map (Value.int .i64))) := fun u hb hu => by
      refine (takeI_any e2 t2 (.slice p2 n2 cp2) s2 f d u hs2 (own_slice hu) (HE.out _ hb)).mono ?_
      rintro r w' ⟨hb', v', rfl, hr⟩
      rw [hA7] at hr ⊢
      obtain ⟨p3, n3, cp3, rfl⟩ := row_shape hr
      exact ⟨hb', _, _, _, rfl, row_le hr (Nat.zero_le _)⟩
    have hs7 : s7.length ≤ maxLen := by
      have := dn.takeA_len e2 t2 s2 f d
      rw [hA7] at this
      exact Nat.le_trans this (by decide)
    obtain ⟨e8, t8, s8, c8, hA8⟩ : ∃ e8 t8 s8 c8, takeA e7 t7 s7 ep c = ((e8, t8, s8), c8) := ⟨_, _, _, _, rfl⟩
    have HC8 : Hid (c7 = 0 → c8 ≠ 0) := fun h7 => by
      have h9 := gone_not (gone_keep (by rw [hA7, h7]) hgo)
      rw [hA8] at h9
      exact h9
    have HT4 : Hid (∀ u (p7 : Option Addr) (n7 cp7 : Nat), Below w.heap.size w u → u.ownsRow 0 2 1 (.slice p7 n7 cp7) s7.length (s7.map (Value.int .i64)) → Calls Tryd.prog 5 #[.agg #[.int .i64 e7, .int .i64 t7, .slice p7 n7 cp7], .int .i64 ep, .int .i64 c] u fun r w' => Below u.heap.size u w' ∧ ∃ p8 n8 cp8, r = .returned (.agg #[.int .i64 e8, .int .i64 t8, .slice p8 n8 cp8, .int .i64 c8])) := fun u p7 n7 cp7 hb hu => by
      refine (takeI_any e7 t7 (.slice p7 n7 cp7) s7 ep c u hs7 (own_slice hu) (HE.out _ hb)).mono ?_
      rintro r w' ⟨hb', v', rfl, hr⟩
      rw [hA8] at hr ⊢
      obtain ⟨p3, n3, cp3, rfl⟩ := row_shape hr
      exact ⟨hb', _, _, _, rfl⟩
    have d1 : decide (e2 < e) = false := decide_eq_false (by omega)
    have HT9 : Hid (e2 = e → t ≤ t2) := ht2
    have HC0 : Hid (c2 = 0) := hc
    clear hA6 hA7 hA8 hgo HA HTK HE hR2 hc6 hc he2 ht2
    obtain ⟨⟨x0, x1, x2⟩, ⟨y0, y1, y2, y3⟩⟩ := i5.cells
    replace i5 := i5.drew
    refine wp_region_noPanic ?_
    refine wp_region_held_drew (S := fun u => (u.cell? ⟨qw, 0, none⟩ = some (.int .i64 e) ∧ u.cell? ⟨qw, 1, none⟩ = some (.int .i64 t) ∧ u.cell? ⟨qw, 2, none⟩ = some (.slice p np cp)) ∧ (u.cell? ⟨qx, 0, none⟩ = some (.int .i64 e2) ∧ u.cell? ⟨qx, 1, none⟩ = some (.int .i64 t2) ∧ u.cell? ⟨qx, 2, none⟩ = some (.slice p2 n2 cp2) ∧ u.cell? ⟨qx, 3, none⟩ = some (.int .i64 c2))) (by kernel_rfl) ⟨⟨x0, x1, x2⟩, ⟨y0, y1, y2, y3⟩⟩ (fun hHeld => ?_)
    clear x0 x1 x2 y0 y1 y2 y3
    refine wpAnyH_take (i := 0) (oi := { dst := some 37, op := Op.load 29 (Operand.tmp 8), type := 29, pos := "laws.go:175", after := #[], guard := none }) (v := ?_) rfl (by kernel_rfl) (by kernel_rfl) (by kernel_rfl) (fun _ _ _ h => h) (Or.inl ⟨by rfl, ?_⟩) hHeld ?_
    rotate_left
    · rintro w ⟨⟨z0, z1, z2⟩, ⟨y0, y1, y2, y3⟩⟩; go_simp; (try with_reducible rfl)
    try simp only [Act.put, List.setIfInBounds_toArray, List.set_cons_zero, List.set_cons_succ]
    refine wpAnyH_take (i := 1) (oi := { dst := some 38, op := Op.load 25 (Operand.tmp 5), type := 25, pos := "laws.go:175", after := #[], guard := none }) (v := ?_) rfl (by kernel_rfl) (by kernel_rfl) (by kernel_rfl) (fun _ _ _ h => h) (Or.inl ⟨by rfl, ?_⟩) hHeld ?_
    rotate_left
    · rintro w ⟨⟨z0, z1, z2⟩, ⟨y0, y1, y2, y3⟩⟩; go_simp; (try with_reducible rfl)
    try simp only [Act.put, List.setIfInBounds_toArray, List.set_cons_zero, List.set_cons_succ]
    refine wpAnyH_take (i := 2) (oi := { dst := some 39, op := Op.move (Operand.tmp 6), type := 2, pos := "laws.go:175", after := #[], guard := none }) (v := ?_) rfl (by kernel_rfl) (by kernel_rfl) (by kernel_rfl) (fun _ _ _ h => h) (Or.inl ⟨by rfl, ?_⟩) hHeld ?_
    rotate_left
    · rintro w ⟨⟨z0, z1, z2⟩, ⟨y0, y1, y2, y3⟩⟩; go_simp; (try with_reducible rfl)
    try simp only [Act.put, List.setIfInBounds_toArray, List.set_cons_zero, List.set_cons_succ]
    refine wpAnyH_take (i := 3) (oi := { dst := some 40, op := Op.move (Operand.tmp 7), type := 2, pos := "laws.go:175", after := #[], guard := none }) (v := ?_) rfl (by kernel_rfl) (by kernel_rfl) (by kernel_rfl) (fun _ _ _ h => h) (Or.inl ⟨by rfl, ?_⟩) hHeld ?_
    rotate_left
    · rintro w ⟨⟨z0, z1, z2⟩, ⟨y0, y1, y2, y3⟩⟩; go_simp; (try with_reducible rfl)
    try simp only [Act.put, List.setIfInBounds_toArray, List.set_cons_zero, List.set_cons_succ]
    refine wpAnyH_ready (rs := [4]) (by kernel_rfl) (by simp) ?_
    refine AllReadyH.cons rfl (fun K hK => ?_) AllReadyH.nil
    go_simp
    go_at_call 7
    refine (HSM.out _ i5.one.row).mono ?_
    rintro r w18 ⟨hb18, p3, n3, cp3, rfl, hv3⟩
    replace i5 := i5.up hb18
    go_wp2_with fail
    refine hK.out _ _ i5.cells (fun hHeld => ?_)
    clear hb18
    clear hK K
    try simp only [Act.put, List.setIfInBounds_toArray, List.set_cons_zero, List.set_cons_succ]
    refine wpAnyH_ready (rs := [5]) (by kernel_rfl) (by simp) ?_
    refine AllReadyH.cons rfl (fun K hK => ?_) AllReadyH.nil
    go_simp
    go_at_call 6
    refine (HLW.out _ _ (own_slice i5.row2) hv3).mono ?_
    rintro r w19 ⟨hb19, rfl⟩
    replace i5 := i5.up hb19
    go_wp2_with fail
    refine hK.out _ _ i5.cells (fun hHeld => ?_)
    clear hb19
    clear hv3
    clear hK K
    try simp only [Act.put, List.setIfInBounds_toArray, List.set_cons_zero, List.set_cons_succ]
    refine wpAnyH_take (i := 6) (oi := { dst := some 43, op := Op.unOp UnOp.not 4 (Operand.tmp 42), type := 4, pos := "laws.go:175", after := #[{ on := 5, ground := Ground.data }], guard := none }) (v := .bool false) rfl (by kernel_rfl) (by kernel_rfl) (by kernel_rfl) (fun _ _ _ h => h) (Or.inl ⟨by rfl, ?_⟩) hHeld ?_
    · rintro w ⟨⟨z0, z1, z2⟩, ⟨y0, y1, y2, y3⟩⟩; go_simp; (try with_reducible rfl)
    try simp only [Act.put, List.setIfInBounds_toArray, List.set_cons_zero, List.set_cons_succ]
    refine wpAnyH_take (i := 7) (oi := { dst := some 44, op := Op.move (Operand.tmp 43), type := 4, pos := "laws.go:175", after := #[{ on := 6, ground := Ground.data }, { on := 5, ground := Ground.chain }], guard := none }) (v := .bool false) rfl (by kernel_rfl) (by kernel_rfl) (by kernel_rfl) (fun _ _ _ h => h) (Or.inl ⟨by rfl, ?_⟩) hHeld ?_
    · rintro w ⟨⟨z0, z1, z2⟩, ⟨y0, y1, y2, y3⟩⟩; go_simp; (try with_reducible rfl)
    try simp only [Act.put, List.setIfInBounds_toArray, List.set_cons_zero, List.set_cons_succ]
    refine wpAnyH_take (i := 8) (oi := { dst := some 45, op := Op.load 25 (Operand.tmp 5), type := 25, pos := "laws.go:175", after := #[{ on := 7, ground := Ground.guard }], guard := some (7, false) }) (v := ?_) rfl (by kernel_rfl) (by kernel_rfl) (by kernel_rfl) (fun _ _ _ h => h) (Or.inl ⟨by rfl, ?_⟩) hHeld ?_
    rotate_left
    · rintro w ⟨⟨z0, z1, z2⟩, ⟨y0, y1, y2, y3⟩⟩; go_simp; (try with_reducible rfl)
    try simp only [Act.put, List.setIfInBounds_toArray, List.set_cons_zero, List.set_cons_succ]
    refine wpAnyH_take (i := 10) (oi := { dst := some 47, op := Op.load 25 (Operand.tmp 5), type := 25, pos := "laws.go:175", after := #[{ on := 7, ground := Ground.guard }], guard := some (7, false) }) (v := ?_) rfl (by kernel_rfl) (by kernel_rfl) (by kernel_rfl) (fun _ _ _ h => h) (Or.inl ⟨by rfl, ?_⟩) hHeld ?_
    rotate_left
    · rintro w ⟨⟨z0, z1, z2⟩, ⟨y0, y1, y2, y3⟩⟩; go_simp; (try with_reducible rfl)
    try simp only [Act.put, List.setIfInBounds_toArray, List.set_cons_zero, List.set_cons_succ]
    refine wpAnyH_ready (rs := [9]) (by kernel_rfl) (by simp) ?_
    refine AllReadyH.cons rfl (fun K hK => ?_) AllReadyH.nil
    go_simp
    go_at_call 8
    refine (HRI.out _ i5.one.row).mono ?_
    rintro r w20 ⟨hb20, rfl⟩
    replace i5 := i5.up hb20
    go_wp2_with fail
    refine hK.out _ _ i5.cells (fun hHeld => ?_)
    clear hb20
    clear hK K
    try simp only [Act.put, List.setIfInBounds_toArray, List.set_cons_zero, List.set_cons_succ]
    refine wpAnyH_ready (rs := [11]) (by kernel_rfl) (by simp) ?_
    refine AllReadyH.cons rfl (fun K hK => ?_) AllReadyH.nil
    go_simp
    go_at_call 9
    refine (HRM.out _ i5.one.row).mono ?_
    rintro r w21 ⟨hb21, rfl⟩
    replace i5 := i5.up hb21
    go_wp2_with fail
    refine hK.out _ _ i5.cells (fun hHeld => ?_)
    clear hb21
    clear hK K
    try simp only [Act.put, List.setIfInBounds_toArray, List.set_cons_zero, List.set_cons_succ]
    refine wpAnyH_take (i := 12) (oi := { dst := some 49, op := Op.binOp BinOp.neq 4 (Operand.tmp 46) (Operand.tmp 48) 4, type := 4, pos := "laws.go:175", after := #[{ on := 9, ground := Ground.data }, { on := 11, ground := Ground.data }, { on := 7, ground := Ground.guard }], guard := some (7, false) }) (v := .bool false) rfl (by kernel_rfl) (by kernel_rfl) (by kernel_rfl) (fun _ _ _ h => h) (Or.inl ⟨by rfl, ?_⟩) hHeld ?_
    · rintro w ⟨⟨z0, z1, z2⟩, ⟨y0, y1, y2, y3⟩⟩; go_simp; (try with_reducible rfl)
    try simp only [Act.put, List.setIfInBounds_toArray, List.set_cons_zero, List.set_cons_succ]
    refine wpAnyH_take (i := 13) (oi := { dst := some 50, op := Op.pick (Operand.tmp 44) (Operand.const (Value.bool true)) (Operand.tmp 49), type := 4, pos := "laws.go:175", after := #[{ on := 7, ground := Ground.data }, { on := 12, ground := Ground.data }], guard := none }) (v := .bool false) rfl (by kernel_rfl) (by kernel_rfl) (by kernel_rfl) (fun _ _ _ h => h) (Or.inl ⟨by rfl, ?_⟩) hHeld ?_
    · rintro w ⟨⟨z0, z1, z2⟩, ⟨y0, y1, y2, y3⟩⟩; go_simp; (try with_reducible rfl)
    try simp only [Act.put, List.setIfInBounds_toArray, List.set_cons_zero, List.set_cons_succ]
    refine wpAnyH_take (i := 14) (oi := { dst := some 51, op := Op.move (Operand.tmp 50), type := 4, pos := "laws.go:175", after := #[{ on := 13, ground := Ground.data }, { on := 11, ground := Ground.chain }], guard := none }) (v := .bool false) rfl (by kernel_rfl) (by kernel_rfl) (by kernel_rfl) (fun _ _ _ h => h) (Or.inl ⟨by rfl, ?_⟩) hHeld ?_
    · rintro w ⟨⟨z0, z1, z2⟩, ⟨y0, y1, y2, y3⟩⟩; go_simp; (try with_reducible rfl)
    try simp only [Act.put, List.setIfInBounds_toArray, List.set_cons_zero, List.set_cons_succ]
    refine wpAnyH_take (i := 15) (oi := { dst := some 52, op := Op.fieldAddr 29 (Operand.tmp 8) 1, type := 0, pos := "laws.go:175", after := #[{ on := 14, ground := Ground.guard }], guard := some (14, false) }) (v := ?_) rfl (by kernel_rfl) (by kernel_rfl) (by kernel_rfl) (fun _ _ _ h => h) (Or.inl ⟨by rfl, ?_⟩) hHeld ?_
    rotate_left
    · rintro w ⟨⟨z0, z1, z2⟩, ⟨y0, y1, y2, y3⟩⟩; go_simp; (try with_reducible rfl)
    try simp only [Act.put, List.setIfInBounds_toArray, List.set_cons_zero, List.set_cons_succ]
    refine wpAnyH_take (i := 16) (oi := { dst := some 53, op := Op.load 2 (Operand.tmp 52), type := 2, pos := "laws.go:175", after := #[{ on := 15, ground := Ground.data }, { on := 14, ground := Ground.guard }], guard := some (14, false) }) (v := ?_) rfl (by kernel_rfl) (by kernel_rfl) (by kernel_rfl) (fun _ _ _ h => h) (Or.inl ⟨by rfl, ?_⟩) hHeld ?_
    rotate_left
    · rintro w ⟨⟨z0, z1, z2⟩, ⟨y0, y1, y2, y3⟩⟩; go_simp; (try with_reducible rfl)
    try simp only [Act.put, List.setIfInBounds_toArray, List.set_cons_zero, List.set_cons_succ]
    refine wpAnyH_take (i := 17) (oi := { dst := some 54, op := Op.binOp BinOp.neq 2 (Operand.tmp 53) (Operand.const (Value.int IntKind.i64 0)) 2, type := 4, pos := "laws.go:175", after := #[{ on := 16, ground := Ground.data }, { on := 14, ground := Ground.guard }], guard := some (14, false) }) (v := .bool false) rfl (by kernel_rfl) (by kernel_rfl) (by kernel_rfl) (fun _ _ _ h => h) (Or.inl ⟨by rfl, ?_⟩) hHeld ?_
    · rintro w ⟨⟨z0, z1, z2⟩, ⟨y0, y1, y2, y3⟩⟩; go_simp; (try with_reducible rfl); try exact HC0.out
    try simp only [Act.put, List.setIfInBounds_toArray, List.set_cons_zero, List.set_cons_succ]
    refine wpAnyH_take (i := 18) (oi := { dst := some 55, op := Op.pick (Operand.tmp 51) (Operand.const (Value.bool true)) (Operand.tmp 54), type := 4, pos := "laws.go:175", after := #[{ on := 14, ground := Ground.data }, { on := 17, ground := Ground.data }], guard := none }) (v := .bool false) rfl (by kernel_rfl) (by kernel_rfl) (by kernel_rfl) (fun _ _ _ h => h) (Or.inl ⟨by rfl, ?_⟩) hHeld ?_
    · rintro w ⟨⟨z0, z1, z2⟩, ⟨y0, y1, y2, y3⟩⟩; go_simp; (try with_reducible rfl)
    try simp only [Act.put, List.setIfInBounds_toArray, List.set_cons_zero, List.set_cons_succ]
    refine wpAnyH_done (by kernel_rfl) ?_ _
    refine NoPanic.normal ?_
    clear hHeld
    clear HSM HLW HRI HRM HC0
    obtain ⟨⟨x0, x1, x2⟩, ⟨y0, y1, y2, y3⟩⟩ := i5.cells
    by_cases hee : e2 = e
    · have q2 : (e2 == e) = true := by simp [hee]
      have d2 : decide (t2 < t) = false := decide_eq_false (by have := HT9.out hee; omega)
      clear hee HT9
      go_wp2_with (go_at_call 9; fail)
      clear x0 x1 x2 y0 y1 y2 y3
      refine (HR2.out _ i5.row2).mono ?_
      rintro r w22 ⟨hbk, rfl⟩
      replace i5 := i5.up hbk
      clear hbk
      obtain ⟨⟨x0, x1, x2⟩, ⟨y0, y1, y2, y3⟩⟩ := i5.cells
      go_wp2_with (go_at_call 5; fail)
      clear x0 x1 x2 y0 y1 y2 y3
      refine (HT2.out _ i5.one.below i5.row2).mono ?_
      rintro r w23 ⟨hbk, p6, n6, cp6, rfl⟩
      replace i5 := i5.up hbk
      clear hbk
      have hfl := fun u => field_code e6 t6 (.slice p6 n6 cp6) c6 u
      clear HR2 HT2
      obtain ⟨_, y0, y1, y2, y3⟩ := i5.cells
      go_wp2_with (go_at_call 5; fail)
      clear y0 y1 y2 y3 hfl
      refine (HT3.out w23 i5.one.below i5.row2).mono ?_
      rintro r w40 ⟨hb40, p7, n7, cp7, rfl, hrow7⟩
      replace i5 := i5.up hb40
      clear hb40 HT3
      have i6 : InC2 w qw e t (.slice p np cp) s w40.heap.size e7 t7 (.slice p7 n7 cp7) s7 c7 (w40.alloc (.cells #[.int .i64 e7, .int .i64 t7, .slice p7 n7 cp7, .int .i64 c7] 29)) := ⟨i5.one.up ((Below.refl _ _).alloc (Nat.le_refl _) _), heap_alloc_new _ _, row_up hrow7 ((Below.refl _ _).alloc (Nat.le_refl _) _)⟩
      clear i5 hrow7
      by_cases h7 : c7 = 0
      · have h8 := HC8.out h7
        subst h7
        have q8 : (c8 == 0) = false := by simp [h8]
        have q8' : (c8 != 0) = true := by simp [h8]
        clear HC8
        go_wp2_with (go_at_call 5; fail)
        refine (HT4.out _ p7 n7 cp7 i6.one.below i6.row2).mono ?_
        rintro r w41 ⟨hb41, p8, n8, cp8, rfl⟩
        have HB : Hid (Below w.heap.size w w41) := (i6.up hb41).one.below
        clear i6 hb41 HT4
        have hfl := fun u => field_code e8 t8 (.slice p8 n8 cp8) c8 u
        go_wp2
        go_ret
        exact ⟨rfl, HB.out⟩
      · have q7 : (c7 == 0) = false := by simp [h7]
        have q7' : (c7 != 0) = true := by simp [h7]
        have HB : Hid (Below w.heap.size w (w40.alloc (.cells #[.int .i64 e7, .int .i64 t7, .slice p7 n7 cp7, .int .i64 c7] 29))) := i6.one.below
        clear i6 HC8 HT4
        go_wp2_with (go_at_call 5; fail)
        go_ret
        exact ⟨rfl, HB.out⟩
    · have q2 : (e2 == e) = false := by simp [hee]
      clear hee HT9
      go_wp2_with (go_at_call 9; fail)
      clear x0 x1 x2 y0 y1 y2 y3
      refine (HR2.out _ i5.row2).mono ?_
      rintro r w24 ⟨hbk, rfl⟩
      replace i5 := i5.up hbk
      clear hbk
      obtain ⟨⟨x0, x1, x2⟩, ⟨y0, y1, y2, y3⟩⟩ := i5.cells
      go_wp2_with (go_at_call 5; fail)
      clear x0 x1 x2 y0 y1 y2 y3
      refine (HT2.out _ i5.one.below i5.row2).mono ?_
      rintro r w25 ⟨hbk, p6, n6, cp6, rfl⟩
      replace i5 := i5.up hbk
      clear hbk
      have hfl := fun u => field_code e6 t6 (.slice p6 n6 cp6) c6 u
      clear HR2 HT2
      obtain ⟨_, y0, y1, y2, y3⟩ := i5.cells
      go_wp2_with (go_at_call 5; fail)
      clear y0 y1 y2 y3 hfl
      refine (HT3.out w25 i5.one.below i5.row2).mono ?_
      rintro r w40 ⟨hb40, p7, n7, cp7, rfl, hrow7⟩
      replace i5 := i5.up hb40
      clear hb40 HT3
      have i6 : InC2 w qw e t (.slice p np cp) s w40.heap.size e7 t7 (.slice p7 n7 cp7) s7 c7 (w40.alloc (.cells #[.int .i64 e7, .int .i64 t7, .slice p7 n7 cp7, .int .i64 c7] 29)) := ⟨i5.one.up ((Below.refl _ _).alloc (Nat.le_refl _) _), heap_alloc_new _ _, row_up hrow7 ((Below.refl _ _).alloc (Nat.le_refl _) _)⟩
      clear i5 hrow7
      by_cases h7 : c7 = 0
      · have h8 := HC8.out h7
        subst h7
        have q8 : (c8 == 0) = false := by simp [h8]
        have q8' : (c8 != 0) = true := by simp [h8]
        clear HC8
        go_wp2_with (go_at_call 5; fail)
        refine (HT4.out _ p7 n7 cp7 i6.one.below i6.row2).mono ?_
        rintro r w41 ⟨hb41, p8, n8, cp8, rfl⟩
        have HB : Hid (Below w.heap.size w w41) := (i6.up hb41).one.below
        clear i6 hb41 HT4
        have hfl := fun u => field_code e8 t8 (.slice p8 n8 cp8) c8 u
        go_wp2
        go_ret
        exact ⟨rfl, HB.out⟩
      · have q7 : (c7 == 0) = false := by simp [h7]
        have q7' : (c7 != 0) = true := by simp [h7]
        have HB : Hid (Below w.heap.size w (w40.alloc (.cells #[.int .i64 e7, .int .i64 t7, .slice p7 n7 cp7, .int .i64 c7] 29))) := i6.one.below
        clear i6 HC8 HT4
        go_wp2_with (go_at_call 5; fail)
        go_ret
        exact ⟨rfl, HB.out⟩
  · have qc : (c2 == 0) = false := by simp [hc]
    obtain ⟨⟨x0, x1, x2⟩, ⟨y0, y1, y2, y3⟩⟩ := i5.cells
    replace i5 := i5.drew
    refine wp_region_noPanic ?_
    refine wp_region_held_drew (S := fun u => (u.cell? ⟨qw, 0, none⟩ = some (.int .i64 e) ∧ u.cell? ⟨qw, 1, none⟩ = some (.int .i64 t) ∧ u.cell? ⟨qw, 2, none⟩ = some (.slice p np cp)) ∧ (u.cell? ⟨qx, 0, none⟩ = some (.int .i64 e2) ∧ u.cell? ⟨qx, 1, none⟩ = some (.int .i64 t2) ∧ u.cell? ⟨qx, 2, none⟩ = some (.slice p2 n2 cp2) ∧ u.cell? ⟨qx, 3, none⟩ = some (.int .i64 c2))) (by kernel_rfl) ⟨⟨x0, x1, x2⟩, ⟨y0, y1, y2, y3⟩⟩ (fun hHeld => ?_)
    clear x0 x1 x2 y0 y1 y2 y3
    refine wpAnyH_take (i := 0) (oi := { dst := some 37, op := Op.load 29 (Operand.tmp 8), type := 29, pos := "laws.go:175", after := #[], guard := none }) (v := ?_) rfl (by kernel_rfl) (by kernel_rfl) (by kernel_rfl) (fun _ _ _ h => h) (Or.inl ⟨by rfl, ?_⟩) hHeld ?_
    rotate_left
    · rintro w ⟨⟨z0, z1, z2⟩, ⟨y0, y1, y2, y3⟩⟩; go_simp; (try with_reducible rfl)
    try simp only [Act.put, List.setIfInBounds_toArray, List.set_cons_zero, List.set_cons_succ]
    refine wpAnyH_take (i := 1) (oi := { dst := some 38, op := Op.load 25 (Operand.tmp 5), type := 25, pos := "laws.go:175", after := #[], guard := none }) (v := ?_) rfl (by kernel_rfl) (by kernel_rfl) (by kernel_rfl) (fun _ _ _ h => h) (Or.inl ⟨by rfl, ?_⟩) hHeld ?_
    rotate_left
    · rintro w ⟨⟨z0, z1, z2⟩, ⟨y0, y1, y2, y3⟩⟩; go_simp; (try with_reducible rfl)
    try simp only [Act.put, List.setIfInBounds_toArray, List.set_cons_zero, List.set_cons_succ]
    refine wpAnyH_take (i := 2) (oi := { dst := some 39, op := Op.move (Operand.tmp 6), type := 2, pos := "laws.go:175", after := #[], guard := none }) (v := ?_) rfl (by kernel_rfl) (by kernel_rfl) (by kernel_rfl) (fun _ _ _ h => h) (Or.inl ⟨by rfl, ?_⟩) hHeld ?_
    rotate_left
    · rintro w ⟨⟨z0, z1, z2⟩, ⟨y0, y1, y2, y3⟩⟩; go_simp; (try with_reducible rfl)
    try simp only [Act.put, List.setIfInBounds_toArray, List.set_cons_zero, List.set_cons_succ]
    refine wpAnyH_take (i := 3) (oi := { dst := some 40, op := Op.move (Operand.tmp 7), type := 2, pos := "laws.go:175", after := #[], guard := none }) (v := ?_) rfl (by kernel_rfl) (by kernel_rfl) (by kernel_rfl) (fun _ _ _ h => h) (Or.inl ⟨by rfl, ?_⟩) hHeld ?_
    rotate_left
    · rintro w ⟨⟨z0, z1, z2⟩, ⟨y0, y1, y2, y3⟩⟩; go_simp; (try with_reducible rfl)
    try simp only [Act.put, List.setIfInBounds_toArray, List.set_cons_zero, List.set_cons_succ]
    refine wpAnyH_ready (rs := [4]) (by kernel_rfl) (by simp) ?_
    refine AllReadyH.cons rfl (fun K hK => ?_) AllReadyH.nil
    go_simp
    go_at_call 7
    refine (HSM.out _ i5.one.row).mono ?_
    rintro r w10 ⟨hb10, p3, n3, cp3, rfl, hv3⟩
    replace i5 := i5.up hb10
    go_wp2_with fail
    refine hK.out _ _ i5.cells (fun hHeld => ?_)
    clear hb10
    clear hK K
    try simp only [Act.put, List.setIfInBounds_toArray, List.set_cons_zero, List.set_cons_succ]
    refine wpAnyH_ready (rs := [5]) (by kernel_rfl) (by simp) ?_
    refine AllReadyH.cons rfl (fun K hK => ?_) AllReadyH.nil
    go_simp
    go_at_call 6
    refine (HLW.out _ _ (own_slice i5.row2) hv3).mono ?_
    rintro r w11 ⟨hb11, rfl⟩
    replace i5 := i5.up hb11
    go_wp2_with fail
    refine hK.out _ _ i5.cells (fun hHeld => ?_)
    clear hb11
    clear hv3
    clear hK K
    try simp only [Act.put, List.setIfInBounds_toArray, List.set_cons_zero, List.set_cons_succ]
    refine wpAnyH_take (i := 6) (oi := { dst := some 43, op := Op.unOp UnOp.not 4 (Operand.tmp 42), type := 4, pos := "laws.go:175", after := #[{ on := 5, ground := Ground.data }], guard := none }) (v := .bool false) rfl (by kernel_rfl) (by kernel_rfl) (by kernel_rfl) (fun _ _ _ h => h) (Or.inl ⟨by rfl, ?_⟩) hHeld ?_
    · rintro w ⟨⟨z0, z1, z2⟩, ⟨y0, y1, y2, y3⟩⟩; go_simp; (try with_reducible rfl)
    try simp only [Act.put, List.setIfInBounds_toArray, List.set_cons_zero, List.set_cons_succ]
    refine wpAnyH_take (i := 7) (oi := { dst := some 44, op := Op.move (Operand.tmp 43), type := 4, pos := "laws.go:175", after := #[{ on := 6, ground := Ground.data }, { on := 5, ground := Ground.chain }], guard := none }) (v := .bool false) rfl (by kernel_rfl) (by kernel_rfl) (by kernel_rfl) (fun _ _ _ h => h) (Or.inl ⟨by rfl, ?_⟩) hHeld ?_
    · rintro w ⟨⟨z0, z1, z2⟩, ⟨y0, y1, y2, y3⟩⟩; go_simp; (try with_reducible rfl)
    try simp only [Act.put, List.setIfInBounds_toArray, List.set_cons_zero, List.set_cons_succ]
    refine wpAnyH_take (i := 8) (oi := { dst := some 45, op := Op.load 25 (Operand.tmp 5), type := 25, pos := "laws.go:175", after := #[{ on := 7, ground := Ground.guard }], guard := some (7, false) }) (v := ?_) rfl (by kernel_rfl) (by kernel_rfl) (by kernel_rfl) (fun _ _ _ h => h) (Or.inl ⟨by rfl, ?_⟩) hHeld ?_
    rotate_left
    · rintro w ⟨⟨z0, z1, z2⟩, ⟨y0, y1, y2, y3⟩⟩; go_simp; (try with_reducible rfl)
    try simp only [Act.put, List.setIfInBounds_toArray, List.set_cons_zero, List.set_cons_succ]
    refine wpAnyH_take (i := 10) (oi := { dst := some 47, op := Op.load 25 (Operand.tmp 5), type := 25, pos := "laws.go:175", after := #[{ on := 7, ground := Ground.guard }], guard := some (7, false) }) (v := ?_) rfl (by kernel_rfl) (by kernel_rfl) (by kernel_rfl) (fun _ _ _ h => h) (Or.inl ⟨by rfl, ?_⟩) hHeld ?_
    rotate_left
    · rintro w ⟨⟨z0, z1, z2⟩, ⟨y0, y1, y2, y3⟩⟩; go_simp; (try with_reducible rfl)
    try simp only [Act.put, List.setIfInBounds_toArray, List.set_cons_zero, List.set_cons_succ]
    refine wpAnyH_ready (rs := [9]) (by kernel_rfl) (by simp) ?_
    refine AllReadyH.cons rfl (fun K hK => ?_) AllReadyH.nil
    go_simp
    go_at_call 8
    refine (HRI.out _ i5.one.row).mono ?_
    rintro r w12 ⟨hb12, rfl⟩
    replace i5 := i5.up hb12
    go_wp2_with fail
    refine hK.out _ _ i5.cells (fun hHeld => ?_)
    clear hb12
    clear hK K
    try simp only [Act.put, List.setIfInBounds_toArray, List.set_cons_zero, List.set_cons_succ]
    refine wpAnyH_ready (rs := [11]) (by kernel_rfl) (by simp) ?_
    refine AllReadyH.cons rfl (fun K hK => ?_) AllReadyH.nil
    go_simp
    go_at_call 9
    refine (HRM.out _ i5.one.row).mono ?_
    rintro r w13 ⟨hb13, rfl⟩
    replace i5 := i5.up hb13
    go_wp2_with fail
    refine hK.out _ _ i5.cells (fun hHeld => ?_)
    clear hb13
    clear hK K
    try simp only [Act.put, List.setIfInBounds_toArray, List.set_cons_zero, List.set_cons_succ]
    refine wpAnyH_take (i := 12) (oi := { dst := some 49, op := Op.binOp BinOp.neq 4 (Operand.tmp 46) (Operand.tmp 48) 4, type := 4, pos := "laws.go:175", after := #[{ on := 9, ground := Ground.data }, { on := 11, ground := Ground.data }, { on := 7, ground := Ground.guard }], guard := some (7, false) }) (v := .bool false) rfl (by kernel_rfl) (by kernel_rfl) (by kernel_rfl) (fun _ _ _ h => h) (Or.inl ⟨by rfl, ?_⟩) hHeld ?_
    · rintro w ⟨⟨z0, z1, z2⟩, ⟨y0, y1, y2, y3⟩⟩; go_simp; (try with_reducible rfl)
    try simp only [Act.put, List.setIfInBounds_toArray, List.set_cons_zero, List.set_cons_succ]
    refine wpAnyH_take (i := 13) (oi := { dst := some 50, op := Op.pick (Operand.tmp 44) (Operand.const (Value.bool true)) (Operand.tmp 49), type := 4, pos := "laws.go:175", after := #[{ on := 7, ground := Ground.data }, { on := 12, ground := Ground.data }], guard := none }) (v := .bool false) rfl (by kernel_rfl) (by kernel_rfl) (by kernel_rfl) (fun _ _ _ h => h) (Or.inl ⟨by rfl, ?_⟩) hHeld ?_
    · rintro w ⟨⟨z0, z1, z2⟩, ⟨y0, y1, y2, y3⟩⟩; go_simp; (try with_reducible rfl)
    try simp only [Act.put, List.setIfInBounds_toArray, List.set_cons_zero, List.set_cons_succ]
    refine wpAnyH_take (i := 14) (oi := { dst := some 51, op := Op.move (Operand.tmp 50), type := 4, pos := "laws.go:175", after := #[{ on := 13, ground := Ground.data }, { on := 11, ground := Ground.chain }], guard := none }) (v := .bool false) rfl (by kernel_rfl) (by kernel_rfl) (by kernel_rfl) (fun _ _ _ h => h) (Or.inl ⟨by rfl, ?_⟩) hHeld ?_
    · rintro w ⟨⟨z0, z1, z2⟩, ⟨y0, y1, y2, y3⟩⟩; go_simp; (try with_reducible rfl)
    try simp only [Act.put, List.setIfInBounds_toArray, List.set_cons_zero, List.set_cons_succ]
    refine wpAnyH_take (i := 15) (oi := { dst := some 52, op := Op.fieldAddr 29 (Operand.tmp 8) 1, type := 0, pos := "laws.go:175", after := #[{ on := 14, ground := Ground.guard }], guard := some (14, false) }) (v := ?_) rfl (by kernel_rfl) (by kernel_rfl) (by kernel_rfl) (fun _ _ _ h => h) (Or.inl ⟨by rfl, ?_⟩) hHeld ?_
    rotate_left
    · rintro w ⟨⟨z0, z1, z2⟩, ⟨y0, y1, y2, y3⟩⟩; go_simp; (try with_reducible rfl)
    try simp only [Act.put, List.setIfInBounds_toArray, List.set_cons_zero, List.set_cons_succ]
    refine wpAnyH_take (i := 16) (oi := { dst := some 53, op := Op.load 2 (Operand.tmp 52), type := 2, pos := "laws.go:175", after := #[{ on := 15, ground := Ground.data }, { on := 14, ground := Ground.guard }], guard := some (14, false) }) (v := ?_) rfl (by kernel_rfl) (by kernel_rfl) (by kernel_rfl) (fun _ _ _ h => h) (Or.inl ⟨by rfl, ?_⟩) hHeld ?_
    rotate_left
    · rintro w ⟨⟨z0, z1, z2⟩, ⟨y0, y1, y2, y3⟩⟩; go_simp; (try with_reducible rfl)
    try simp only [Act.put, List.setIfInBounds_toArray, List.set_cons_zero, List.set_cons_succ]
    refine wpAnyH_take (i := 17) (oi := { dst := some 54, op := Op.binOp BinOp.neq 2 (Operand.tmp 53) (Operand.const (Value.int IntKind.i64 0)) 2, type := 4, pos := "laws.go:175", after := #[{ on := 16, ground := Ground.data }, { on := 14, ground := Ground.guard }], guard := some (14, false) }) (v := .bool true) rfl (by kernel_rfl) (by kernel_rfl) (by kernel_rfl) (fun _ _ _ h => h) (Or.inl ⟨by rfl, ?_⟩) hHeld ?_
    · rintro w ⟨⟨z0, z1, z2⟩, ⟨y0, y1, y2, y3⟩⟩; go_simp; (try with_reducible rfl)
    try simp only [Act.put, List.setIfInBounds_toArray, List.set_cons_zero, List.set_cons_succ]
    refine wpAnyH_take (i := 18) (oi := { dst := some 55, op := Op.pick (Operand.tmp 51) (Operand.const (Value.bool true)) (Operand.tmp 54), type := 4, pos := "laws.go:175", after := #[{ on := 14, ground := Ground.data }, { on := 17, ground := Ground.data }], guard := none }) (v := .bool true) rfl (by kernel_rfl) (by kernel_rfl) (by kernel_rfl) (fun _ _ _ h => h) (Or.inl ⟨by rfl, ?_⟩) hHeld ?_
    · rintro w ⟨⟨z0, z1, z2⟩, ⟨y0, y1, y2, y3⟩⟩; go_simp; (try with_reducible rfl)
    try simp only [Act.put, List.setIfInBounds_toArray, List.set_cons_zero, List.set_cons_succ]
    refine wpAnyH_done (by kernel_rfl) ?_ _
    refine NoPanic.normal ?_
    clear hHeld
    go_wp2_with fail
    obtain ⟨⟨x0, x1, x2⟩, ⟨y0, y1, y2, y3⟩⟩ := i5.cells
    replace i5 := i5.drew
    refine wp_region_noPanic ?_
    refine wp_region_held_drew (S := fun u => (u.cell? ⟨qw, 0, none⟩ = some (.int .i64 e) ∧ u.cell? ⟨qw, 1, none⟩ = some (.int .i64 t) ∧ u.cell? ⟨qw, 2, none⟩ = some (.slice p np cp)) ∧ (u.cell? ⟨qx, 0, none⟩ = some (.int .i64 e2) ∧ u.cell? ⟨qx, 1, none⟩ = some (.int .i64 t2) ∧ u.cell? ⟨qx, 2, none⟩ = some (.slice p2 n2 cp2) ∧ u.cell? ⟨qx, 3, none⟩ = some (.int .i64 c2))) (by kernel_rfl) ⟨⟨x0, x1, x2⟩, ⟨y0, y1, y2, y3⟩⟩ (fun hHeld => ?_)
    clear x0 x1 x2 y0 y1 y2 y3
    refine wpAnyH_take (i := 0) (oi := { dst := some 56, op := Op.load 29 (Operand.tmp 8), type := 29, pos := "laws.go:176", after := #[], guard := none }) (v := ?_) rfl (by kernel_rfl) (by kernel_rfl) (by kernel_rfl) (fun _ _ _ h => h) (Or.inl ⟨by rfl, ?_⟩) hHeld ?_
    rotate_left
    · rintro w ⟨⟨z0, z1, z2⟩, ⟨y0, y1, y2, y3⟩⟩; go_simp; (try with_reducible rfl)
    try simp only [Act.put, List.setIfInBounds_toArray, List.set_cons_zero, List.set_cons_succ]
    refine wpAnyH_take (i := 1) (oi := { dst := some 57, op := Op.load 25 (Operand.tmp 5), type := 25, pos := "laws.go:176", after := #[], guard := none }) (v := ?_) rfl (by kernel_rfl) (by kernel_rfl) (by kernel_rfl) (fun _ _ _ h => h) (Or.inl ⟨by rfl, ?_⟩) hHeld ?_
    rotate_left
    · rintro w ⟨⟨z0, z1, z2⟩, ⟨y0, y1, y2, y3⟩⟩; go_simp; (try with_reducible rfl)
    try simp only [Act.put, List.setIfInBounds_toArray, List.set_cons_zero, List.set_cons_succ]
    refine wpAnyH_take (i := 2) (oi := { dst := some 58, op := Op.move (Operand.tmp 6), type := 2, pos := "laws.go:176", after := #[], guard := none }) (v := ?_) rfl (by kernel_rfl) (by kernel_rfl) (by kernel_rfl) (fun _ _ _ h => h) (Or.inl ⟨by rfl, ?_⟩) hHeld ?_
    rotate_left
    · rintro w ⟨⟨z0, z1, z2⟩, ⟨y0, y1, y2, y3⟩⟩; go_simp; (try with_reducible rfl)
    try simp only [Act.put, List.setIfInBounds_toArray, List.set_cons_zero, List.set_cons_succ]
    refine wpAnyH_take (i := 3) (oi := { dst := some 59, op := Op.move (Operand.tmp 7), type := 2, pos := "laws.go:176", after := #[], guard := none }) (v := ?_) rfl (by kernel_rfl) (by kernel_rfl) (by kernel_rfl) (fun _ _ _ h => h) (Or.inl ⟨by rfl, ?_⟩) hHeld ?_
    rotate_left
    · rintro w ⟨⟨z0, z1, z2⟩, ⟨y0, y1, y2, y3⟩⟩; go_simp; (try with_reducible rfl)
    try simp only [Act.put, List.setIfInBounds_toArray, List.set_cons_zero, List.set_cons_succ]
    refine wpAnyH_ready (rs := [4]) (by kernel_rfl) (by simp) ?_
    refine AllReadyH.cons rfl (fun K hK => ?_) AllReadyH.nil
    go_simp
    go_at_call 7
    refine (HSM.out _ i5.one.row).mono ?_
    rintro r w14 ⟨hb14, p3, n3, cp3, rfl, hv3⟩
    replace i5 := i5.up hb14
    go_wp2_with fail
    refine hK.out _ _ i5.cells (fun hHeld => ?_)
    clear hb14
    clear hK K
    try simp only [Act.put, List.setIfInBounds_toArray, List.set_cons_zero, List.set_cons_succ]
    refine wpAnyH_ready (rs := [5]) (by kernel_rfl) (by simp) ?_
    refine AllReadyH.cons rfl (fun K hK => ?_) AllReadyH.nil
    go_simp
    go_at_call 6
    refine (HLW.out _ _ (own_slice i5.row2) hv3).mono ?_
    rintro r w15 ⟨hb15, rfl⟩
    replace i5 := i5.up hb15
    go_wp2_with fail
    refine hK.out _ _ i5.cells (fun hHeld => ?_)
    clear hb15
    clear hv3
    clear hK K
    try simp only [Act.put, List.setIfInBounds_toArray, List.set_cons_zero, List.set_cons_succ]
    refine wpAnyH_take (i := 6) (oi := { dst := some 62, op := Op.move (Operand.tmp 61), type := 4, pos := "laws.go:176", after := #[{ on := 5, ground := Ground.data }, { on := 5, ground := Ground.chain }], guard := none }) (v := .bool true) rfl (by kernel_rfl) (by kernel_rfl) (by kernel_rfl) (fun _ _ _ h => h) (Or.inl ⟨by rfl, ?_⟩) hHeld ?_
    · rintro w ⟨⟨z0, z1, z2⟩, ⟨y0, y1, y2, y3⟩⟩; go_simp; (try with_reducible rfl)
    try simp only [Act.put, List.setIfInBounds_toArray, List.set_cons_zero, List.set_cons_succ]
    refine wpAnyH_take (i := 7) (oi := { dst := some 63, op := Op.load 25 (Operand.tmp 5), type := 25, pos := "laws.go:176", after := #[{ on := 6, ground := Ground.guard }], guard := some (6, true) }) (v := ?_) rfl (by kernel_rfl) (by kernel_rfl) (by kernel_rfl) (fun _ _ _ h => h) (Or.inl ⟨by rfl, ?_⟩) hHeld ?_
    rotate_left
    · rintro w ⟨⟨z0, z1, z2⟩, ⟨y0, y1, y2, y3⟩⟩; go_simp; (try with_reducible rfl)
    try simp only [Act.put, List.setIfInBounds_toArray, List.set_cons_zero, List.set_cons_succ]
    refine wpAnyH_take (i := 9) (oi := { dst := some 65, op := Op.load 25 (Operand.tmp 5), type := 25, pos := "laws.go:176", after := #[{ on := 6, ground := Ground.guard }], guard := some (6, true) }) (v := ?_) rfl (by kernel_rfl) (by kernel_rfl) (by kernel_rfl) (fun _ _ _ h => h) (Or.inl ⟨by rfl, ?_⟩) hHeld ?_
    rotate_left
    · rintro w ⟨⟨z0, z1, z2⟩, ⟨y0, y1, y2, y3⟩⟩; go_simp; (try with_reducible rfl)
    try simp only [Act.put, List.setIfInBounds_toArray, List.set_cons_zero, List.set_cons_succ]
    refine wpAnyH_ready (rs := [8]) (by kernel_rfl) (by simp) ?_
    refine AllReadyH.cons rfl (fun K hK => ?_) AllReadyH.nil
    go_simp
    go_at_call 8
    refine (HRI.out _ i5.one.row).mono ?_
    rintro r w16 ⟨hb16, rfl⟩
    replace i5 := i5.up hb16
    go_wp2_with fail
    refine hK.out _ _ i5.cells (fun hHeld => ?_)
    clear hb16
    clear hK K
    try simp only [Act.put, List.setIfInBounds_toArray, List.set_cons_zero, List.set_cons_succ]
    refine wpAnyH_ready (rs := [10]) (by kernel_rfl) (by simp) ?_
    refine AllReadyH.cons rfl (fun K hK => ?_) AllReadyH.nil
    go_simp
    go_at_call 9
    refine (HRM.out _ i5.one.row).mono ?_
    rintro r w17 ⟨hb17, rfl⟩
    replace i5 := i5.up hb17
    go_wp2_with fail
    refine hK.out _ _ i5.cells (fun hHeld => ?_)
    clear hb17
    clear hK K
    try simp only [Act.put, List.setIfInBounds_toArray, List.set_cons_zero, List.set_cons_succ]
    refine wpAnyH_take (i := 11) (oi := { dst := some 67, op := Op.binOp BinOp.eql 4 (Operand.tmp 64) (Operand.tmp 66) 4, type := 4, pos := "laws.go:176", after := #[{ on := 8, ground := Ground.data }, { on := 10, ground := Ground.data }, { on := 6, ground := Ground.guard }], guard := some (6, true) }) (v := .bool true) rfl (by kernel_rfl) (by kernel_rfl) (by kernel_rfl) (fun _ _ _ h => h) (Or.inl ⟨by rfl, ?_⟩) hHeld ?_
    · rintro w ⟨⟨z0, z1, z2⟩, ⟨y0, y1, y2, y3⟩⟩; go_simp; (try with_reducible rfl)
    try simp only [Act.put, List.setIfInBounds_toArray, List.set_cons_zero, List.set_cons_succ]
    refine wpAnyH_take (i := 12) (oi := { dst := some 68, op := Op.pick (Operand.tmp 62) (Operand.tmp 67) (Operand.const (Value.bool false)), type := 4, pos := "laws.go:176", after := #[{ on := 6, ground := Ground.data }, { on := 11, ground := Ground.data }], guard := none }) (v := .bool true) rfl (by kernel_rfl) (by kernel_rfl) (by kernel_rfl) (fun _ _ _ h => h) (Or.inl ⟨by rfl, ?_⟩) hHeld ?_
    · rintro w ⟨⟨z0, z1, z2⟩, ⟨y0, y1, y2, y3⟩⟩; go_simp; (try with_reducible rfl)
    try simp only [Act.put, List.setIfInBounds_toArray, List.set_cons_zero, List.set_cons_succ]
    refine wpAnyH_take (i := 13) (oi := { dst := some 4, op := Op.assign (Operand.tmp 68), type := 4, pos := "laws.go:176", after := #[{ on := 12, ground := Ground.data }, { on := 10, ground := Ground.chain }, { on := 0, ground := Ground.phase }, { on := 1, ground := Ground.phase }, { on := 2, ground := Ground.phase }, { on := 3, ground := Ground.phase }, { on := 4, ground := Ground.phase }, { on := 5, ground := Ground.phase }, { on := 6, ground := Ground.phase }, { on := 7, ground := Ground.phase }, { on := 8, ground := Ground.phase }, { on := 9, ground := Ground.phase }, { on := 10, ground := Ground.phase }, { on := 11, ground := Ground.phase }, { on := 12, ground := Ground.phase }], guard := none }) (v := ?_) rfl (by kernel_rfl) (by kernel_rfl) (by kernel_rfl) (fun _ _ _ h => h) (Or.inl ⟨by rfl, ?_⟩) hHeld ?_
    rotate_left
    · rintro w ⟨⟨z0, z1, z2⟩, ⟨y0, y1, y2, y3⟩⟩; go_simp; (try with_reducible rfl)
    try simp only [Act.put, List.setIfInBounds_toArray, List.set_cons_zero, List.set_cons_succ]
    refine wpAnyH_done (by kernel_rfl) ?_ _
    refine NoPanic.normal ?_
    clear hHeld
    have HB : Hid (Below w.heap.size w w17) := i5.one.below
    clear i5
    go_wp2
    go_ret
    exact ⟨rfl, HB.out⟩
end Go.Proofs.YtodcjhckkbmikaaDoor.wi
