/-
  The draws of WindowTake: a window, an epoch and a count, whatever the bytes; no old block turns. No condition.
-/
import Derived.Test.YtodcjhckkbmikaaDoorDrawWin2
import Derived.Deep.RegionHeld3
namespace Go.Proofs.YtodcjhckkbmikaaDoor.dn
open Go.ChangeShapes Go.WideShapes Go.ChangeAt Go.RowKit
open Go.Proofs.YtodcjhckkbmikaaDoor.dr
open Go.Proofs.YtodcjhckkbmikaaDoor.wi (heap_lt wp_w calls_w infoW infoWO takeM_any takeA OutIs SliceIs row_up row_le row_shape win_cells)
set_option linter.unusedVariables false
set_option linter.unusedSimpArgs false

theorem results_ctt {fn : Func} {p k l : Tmp} (h : fn.results = #[.cell p 25, .tmp k, .tmp l]) (tmps : Array Value) (u : World) (q : Nat) (cs : Array Value) (x y : Value) (hp : tmps.getD p undef = .pointer (some ⟨q, 0, none⟩)) (hk : tmps.getD k undef = x) (hl : tmps.getD l undef = y) (hg : u.heap[q]? = some (.cells cs 25 (0, 0))) (hcs : cs.size = 3) :
    (results fn tmps).run Tryd.prog u = .ok (.tuple #[.agg cs, x, y]) u := by
  have e : (results fn tmps).run Tryd.prog u = ((asAddr (tmps.getD p undef)).run Tryd.prog u).andThen fun a w₁ => ((loadVar 25 a).run Tryd.prog w₁).andThen fun v w₂ => .ok (.tuple #[v, tmps.getD k undef, tmps.getD l undef]) w₂ := by
    simp only [results, h]
    simp [Sem.run_bind, Result.andThen]
  rw [e, hp, hk, hl]
  simp [asAddr, Result.andThen, run_loadVar_row u q _ 25 cs (0, 0) _ hg Tryd.underlying25 rfl (by rw [infoW, hcs])]

/-- a source at work, an answer's row ahead of it, a window's behind it -/
structure InDt (w W : World) (a : Option Addr) (len cap Q : Nat) (e t : Int) (v : Value) (s : List Int) (u : World) : Prop where
  at_ : At W a len cap u
  below : Below w.heap.size w u
  res : u.heap[w.heap.size]? = some (.cells #[.int .i64 0, .int .i64 0, .slice none 0 0] 25 (0, 0))
  win : u.heap[Q]? = some (.cells #[.int .i64 e, .int .i64 t, v] 25 (0, 0))
  row : u.ownsRow (W.heap.size + 1) 2 1 v s.length (s.map (Value.int .i64))
  lt0 : w.heap.size < W.heap.size
  lt : W.heap.size < Q
theorem InDt.next {w W u u' : World} {a : Option Addr} {len cap Q : Nat} {e t : Int} {v : Value} {s : List Int} (h : InDt w W a len cap Q e t v s u) (hA : At W a len cap u') (hg : u.grownBy u' (some W.heap.size)) : InDt w W a len cap Q e t v s u' := by
  have h1 := h.lt
  have h0 := h.lt0
  refine ⟨hA, h.below.grown hg h.below.size (fun k hk => by cases hk; omega), (hg.block _ (row_lt h.res) (by simp; omega)).trans h.res, (hg.block _ (row_lt h.win) (by simp; omega)).trans h.win, h.row.kept hg (.inr fun he => ?_), h.lt0, h.lt⟩
  have := (World.ownsRow.lt h.row _ he).1
  omega
theorem InDt.up {w W u u' : World} {a : Option Addr} {len cap Q : Nat} {e t : Int} {v : Value} {s : List Int} (h : InDt w W a len cap Q e t v s u) (hb : Below u.heap.size u u') : InDt w W a len cap Q e t v s u' :=
  ⟨At.up h.at_ hb, h.below.trans (hb.mono h.below.size), (hb.block _ (row_lt h.res)).trans h.res, (hb.block _ (row_lt h.win)).trans h.win, row_up h.row hb, h.lt0, h.lt⟩
theorem InDt.drew {w W u : World} {a : Option Addr} {len cap Q : Nat} {e t : Int} {v : Value} {s : List Int} (h : InDt w W a len cap Q e t v s u) : InDt w W a len cap Q e t v s u.drew := ⟨At.drew h.at_, h.below.drew, h.res, h.win, h.row, h.lt0, h.lt⟩
theorem InDt.cells {w W u : World} {a : Option Addr} {len cap Q : Nat} {e t : Int} {v : Value} {s : List Int} (h : InDt w W a len cap Q e t v s u) : (u.cell? ⟨Q, 0, none⟩ = some (.int .i64 e) ∧ u.cell? ⟨Q, 1, none⟩ = some (.int .i64 t) ∧ u.cell? ⟨Q, 2, none⟩ = some v) ∧ (u.cell? ⟨w.heap.size, 0, none⟩ = some (.int .i64 0) ∧ u.cell? ⟨w.heap.size, 1, none⟩ = some (.int .i64 0) ∧ u.cell? ⟨w.heap.size, 2, none⟩ = some (.slice none 0 0)) ∧ (u.frozen? ⟨w.heap.size, 0, none⟩ = false ∧ u.frozen? ⟨w.heap.size, 1, none⟩ = false ∧ u.frozen? ⟨w.heap.size, 2, none⟩ = false) := by
  refine ⟨⟨?_, ?_, ?_⟩, ⟨?_, ?_, ?_⟩, frozen_of_row _ _ _ _ _ h.res, frozen_of_row _ _ _ _ _ h.res, frozen_of_row _ _ _ _ _ h.res⟩ <;> simp [World.cell?, h.win, h.res]

/-- the same behind the store -/
structure InDs (w W : World) (a : Option Addr) (len cap Q : Nat) (e t : Int) (v : Value) (s : List Int) (u : World) : Prop where
  below : Below w.heap.size w u
  res : u.heap[w.heap.size]? = some (.cells #[.int .i64 e, .int .i64 t, v] 25 (0, 0))
  win : u.heap[Q]? = some (.cells #[.int .i64 e, .int .i64 t, v] 25 (0, 0))
  row : u.ownsRow (W.heap.size + 1) 2 1 v s.length (s.map (Value.int .i64))
  lt0 : w.heap.size < W.heap.size
  lt : W.heap.size < Q
theorem InDs.up {w W u u' : World} {a : Option Addr} {len cap Q : Nat} {e t : Int} {v : Value} {s : List Int} (h : InDs w W a len cap Q e t v s u) (hb : Below u.heap.size u u') : InDs w W a len cap Q e t v s u' :=
  ⟨h.below.trans (hb.mono h.below.size), (hb.block _ (row_lt h.res)).trans h.res, (hb.block _ (row_lt h.win)).trans h.win, row_up h.row hb, h.lt0, h.lt⟩
theorem InDs.cells' {w W u : World} {a : Option Addr} {len cap Q : Nat} {e t : Int} {v : Value} {s : List Int} (h : InDs w W a len cap Q e t v s u) : u.cell? ⟨Q, 0, none⟩ = some (.int .i64 e) ∧ u.cell? ⟨Q, 1, none⟩ = some (.int .i64 t) ∧ u.cell? ⟨Q, 2, none⟩ = some v := by
  refine ⟨?_, ?_, ?_⟩ <;> simp [World.cell?, h.win]
theorem InDt.put {w W u : World} {a : Option Addr} {len cap Q : Nat} {e t : Int} {v : Value} {s : List Int} (h : InDt w W a len cap Q e t v s u) : InDs w W a len cap Q e t v s (((u.setCell ⟨w.heap.size, 0, none⟩ (.int .i64 e)).setCell ⟨w.heap.size, 1, none⟩ (.int .i64 t)).setCell ⟨w.heap.size, 2, none⟩ v) := by
  have h1 := h.lt
  have h0 := h.lt0
  refine ⟨((h.below.setCell (Nat.le_refl _) _).setCell (Nat.le_refl _) _).setCell (Nat.le_refl _) _, ?_, (grown3.block _ (row_lt h.win) (by simp; omega)).trans h.win, h.row.kept grown3 (.inr (own_apart h.row int_not_win h.res)), h.lt0, h.lt⟩
  have k1 := heap_setCell_same u w.heap.size 0 _ _ (.int .i64 e) h.res
  have k2 := heap_setCell_same _ w.heap.size 1 _ _ (.int .i64 t) k1
  have k3 := heap_setCell_same _ w.heap.size 2 _ _ v k2
  exact k3
/-- a list of three -/
def List3 (L : Nat) (u : World) : Prop := ∀ m, m < 3 → ∃ x : Int, u.cell? ⟨L, m, none⟩ = some (.int .i64 x)
theorem list3_new (u : World) (x y z : Int) : List3 u.heap.size (u.alloc (.cells #[.int .i64 x, .int .i64 y, .int .i64 z] 2)) := fun m hm => three_cell u x y z m hm
theorem List3.next {L p : Nat} {u u' : World} (h : List3 L u) (hg : u.grownBy u' (some p)) (hne : L ≠ p) : List3 L u' := fun m hm => by
  obtain ⟨x, hx⟩ := h m hm
  exact ⟨x, hg.cell hx (by simpa using hne)⟩
theorem List3.set3 {L q : Nat} {u : World} {x y z : Value} (h : List3 L u) (hne : L ≠ q) : List3 L (((u.setCell ⟨q, 0, none⟩ x).setCell ⟨q, 1, none⟩ y).setCell ⟨q, 2, none⟩ z) := h.next grown3 hne

set_option maxRecDepth 20000 in
set_option maxHeartbeats 8000000 in
theorem drawTake_any (a : Option Addr) (len cap : Nat) (w : World) (hC : Codes w w.heap.size a len) :
    Calls Tryd.prog 4 #[.slice a len cap] w fun r w' => ∃ (e t : Int) (v : Value) (s : List Int) (ep c : Int), r = .returned (.tuple #[.agg #[.int .i64 e, .int .i64 t, v], .int .i64 ep, .int .i64 c]) ∧ s.length ≤ 1000001 ∧ w'.ownsRow w.heap.size 2 1 v s.length (s.map (Value.int .i64)) ∧ Below w.heap.size w w' := by
  have i0 := ahead_start (.cells #[.int .i64 0, .int .i64 0, .slice none 0 0] 25) hC
  clear hC
  go_enter Tryd.func4, Tryd.ntmps4
  go_wp2_with fail
  generalize w.alloc (.cells #[.int .i64 0, .int .i64 0, .slice none 0 0] 25) = W at i0 ⊢
  refine (source_at a len cap _ i0.codes).mono ?_
  rintro r w1 ⟨rfl, hA1⟩
  go_wp2_with (go_at_call 11; fail)
  refine (window_at hA1).mono ?_
  rintro r w2 ⟨e, t, v, s, rfl, hs, hrow, hA2⟩
  clear hA1
  obtain ⟨p, np, cp, rfl⟩ := row_shape hrow
  obtain ⟨hB2, hres2⟩ := i0.at_ hA2
  have hlt0 : w.heap.size < W.heap.size := row_lt i0.row
  have i3 : InDt w W a len cap w2.heap.size e t (.slice p np cp) s (w2.alloc (.cells #[.int .i64 e, .int .i64 t, .slice p np cp] 25)) := by
    have hb : Below w2.heap.size w2 (w2.alloc (.cells #[.int .i64 e, .int .i64 t, .slice p np cp] 25)) := (Below.refl _ _).alloc (Nat.le_refl _) _
    exact ⟨At.up hA2 hb, hB2.trans (hb.mono hB2.size), (hb.block _ (row_lt hres2)).trans hres2, heap_alloc_new _ _, row_up hrow hb, hlt0, hA2.1.lt⟩
  clear hA2 hB2 hres2 i0 hlt0 hrow
  go_wp2_with (go_at_call 12; fail)
  obtain ⟨Q, hQ⟩ : ∃ Q, Q = w2.heap.size := ⟨_, rfl⟩
  rw [← hQ] at i3 ⊢
  refine calls_w (InDt w W a len cap Q e t (.slice p np cp) s) i3 ?_
  clear i3 hQ
  intro u3 i3
  refine (one_g i3.at_ 5 (by omega) (by omega)).mono ?_
  rintro r w4 ⟨vb, rfl, hA, hg⟩
  replace i3 := i3.next hA hg
  clear hA hg
  cases vb
  · skip
    go_wp2_with (go_at_call 12; fail)
    refine (one_g i3.at_ 15 (by omega) (by omega)).mono ?_
    rintro r w6 ⟨vc, rfl, hA, hg⟩
    replace i3 := i3.next hA hg
    clear hA hg
    cases vc
    · go_wp2_with fail
      obtain ⟨⟨x0, x1, x2⟩, _⟩ := i3.cells
      replace i3 := i3.drew
      refine wp_region_noPanic ?_
      refine wp_region_held_drew (S := fun u => u.cell? ⟨Q, 0, none⟩ = some (.int .i64 e) ∧ u.cell? ⟨Q, 1, none⟩ = some (.int .i64 t) ∧ u.cell? ⟨Q, 2, none⟩ = some (.slice p np cp)) (by kernel_rfl) ⟨x0, x1, x2⟩ (fun hHeld => ?_)
      clear x0 x1 x2
      generalize w6.drew = ur at i3 hHeld ⊢
      refine wpAnyH_take (i := 0) (oi := { dst := some 27, op := Op.load 25 (Operand.tmp 6), type := 25, pos := "l04_gram.go:175", after := #[], guard := none }) (v := ?_) rfl (by kernel_rfl) (by kernel_rfl) (by kernel_rfl) (fun _ _ _ h => h) (Or.inl ⟨by rfl, ?_⟩) hHeld ?_
      rotate_left
      · rintro w ⟨z0, z1, z2⟩; go_simp; try with_reducible rfl
      try simp only [Act.put, List.setIfInBounds_toArray, List.set_cons_zero, List.set_cons_succ]
      refine wpAnyH_take (i := 1) (oi := { dst := some 28, op := Op.move (Operand.tmp 7), type := 2, pos := "l04_gram.go:175", after := #[{ on := 10, ground := Ground.gcOnly Departure.lateStores }], guard := none }) (v := ?_) rfl (by kernel_rfl) (by kernel_rfl) (by kernel_rfl) (fun _ _ _ h => h) (Or.inl ⟨by rfl, ?_⟩) hHeld ?_
      rotate_left
      · rintro w ⟨z0, z1, z2⟩; go_simp; try with_reducible rfl
      try simp only [Act.put, List.setIfInBounds_toArray, List.set_cons_zero, List.set_cons_succ]
      refine wpAnyH_take (i := 2) (oi := { dst := some 29, op := Op.fieldAddr 25 (Operand.tmp 6) 1, type := 0, pos := "l04_gram.go:175", after := #[], guard := none }) (v := ?_) rfl (by kernel_rfl) (by kernel_rfl) (by kernel_rfl) (fun _ _ _ h => h) (Or.inl ⟨by rfl, ?_⟩) hHeld ?_
      rotate_left
      · rintro w ⟨z0, z1, z2⟩; go_simp; try with_reducible rfl
      try simp only [Act.put, List.setIfInBounds_toArray, List.set_cons_zero, List.set_cons_succ]
      refine wpAnyH_take (i := 3) (oi := { dst := some 30, op := Op.load 2 (Operand.tmp 29), type := 2, pos := "l04_gram.go:175", after := #[{ on := 2, ground := Ground.data }], guard := none }) (v := ?_) rfl (by kernel_rfl) (by kernel_rfl) (by kernel_rfl) (fun _ _ _ h => h) (Or.inl ⟨by rfl, ?_⟩) hHeld ?_
      rotate_left
      · rintro w ⟨z0, z1, z2⟩; go_simp; try with_reducible rfl
      try simp only [Act.put, List.setIfInBounds_toArray, List.set_cons_zero, List.set_cons_succ]
      refine wpAnyH_take (i := 7) (oi := { dst := some 34, op := Op.move (Operand.tmp 5), type := 34, pos := "l04_gram.go:175", after := #[], guard := none }) (v := ?_) rfl (by kernel_rfl) (by kernel_rfl) (by kernel_rfl) (fun _ _ _ h => h) (Or.inl ⟨by rfl, ?_⟩) hHeld ?_
      rotate_left
      · rintro w ⟨z0, z1, z2⟩; go_simp; try with_reducible rfl
      try simp only [Act.put, List.setIfInBounds_toArray, List.set_cons_zero, List.set_cons_succ]
      refine wpAnyH_ready (rs := [4]) (by kernel_rfl) (by simp) ?_
      refine AllReadyH.cons rfl (fun K hK => ?_) AllReadyH.nil
      go_simp
      go_at_call 15
      refine (wi.minM_any _ _ _).mono ?_
      rintro r w' ⟨rfl, hw'⟩
      obtain rfl := hw'.symm
      go_wp2_with fail
      refine hK.out _ _ hHeld (fun hHeld => ?_)
      clear hK K
      try simp only [Act.put, List.setIfInBounds_toArray, List.set_cons_zero, List.set_cons_succ]
      refine wpAnyH_take (i := 5) (oi := { dst := some 32, op := Op.binOp BinOp.sub 2 (Operand.tmp 31) (Operand.const (Value.int IntKind.i64 20)) 2, type := 2, pos := "l04_gram.go:175", after := #[{ on := 4, ground := Ground.data }], guard := none }) (v := ?_) rfl (by kernel_rfl) (by kernel_rfl) (by kernel_rfl) (fun _ _ _ h => h) (Or.inl ⟨by rfl, ?_⟩) hHeld ?_
      rotate_left
      · rintro w ⟨z0, z1, z2⟩; go_simp; try with_reducible rfl
      try simp only [Act.put, List.setIfInBounds_toArray, List.set_cons_zero, List.set_cons_succ]
      refine wpAnyH_ready (rs := [6]) (by kernel_rfl) (by simp) ?_
      refine AllReadyH.cons rfl (fun K hK => ?_) AllReadyH.nil
      go_simp
      go_at_call 14
      refine (wi.maxM_max _ _ _).mono ?_
      rintro r w' ⟨rfl, hw'⟩
      obtain rfl := hw'.symm
      go_wp2_with fail
      refine hK.out _ _ hHeld (fun hHeld => ?_)
      clear hK K
      try simp only [Act.put, List.setIfInBounds_toArray, List.set_cons_zero, List.set_cons_succ]
      refine wpAnyH_ready (rs := [8]) (by kernel_rfl) (by simp) ?_
      refine AllReadyH.cons rfl (fun K hK => ?_) AllReadyH.nil
      go_simp
      go_at_call 13
      refine (n_g i3.at_ 26 (by omega) (by omega)).mono ?_
      rintro r wn1 ⟨m, rfl, hm, hA, hg⟩
      replace i3 := i3.next hA hg
      go_wp2_with fail
      refine hK.out _ _ i3.cells.1 (fun hHeld => ?_)
      clear hA hg
      have j0 : (0 : Int) ≤ (m : Int) := by omega
      have j1 : (m : Int) < 3 ∨ 3 ≤ (m : Int) := by omega
      clear j1
      clear hK K
      try simp only [Act.put, List.setIfInBounds_toArray, List.set_cons_zero, List.set_cons_succ]
      refine wpAnyH_take (i := 9) (oi := { dst := some 36, op := Op.binOp BinOp.add 2 (Operand.tmp 33) (Operand.tmp 35) 2, type := 2, pos := "l04_gram.go:175", after := #[{ on := 6, ground := Ground.data }, { on := 8, ground := Ground.data }, { on := 11, ground := Ground.gcOnly Departure.lateStores }], guard := none }) (v := ?_) rfl (by kernel_rfl) (by kernel_rfl) (by kernel_rfl) (fun _ _ _ h => h) (Or.inl ⟨by rfl, ?_⟩) hHeld ?_
      rotate_left
      · rintro w ⟨z0, z1, z2⟩; go_simp; try with_reducible rfl
      try simp only [Act.put, List.setIfInBounds_toArray, List.set_cons_zero, List.set_cons_succ]
      refine wpAnyH_ready (rs := [10]) (by kernel_rfl) (by simp) ?_
      refine AllReadyH.cons rfl (fun K hK => ?_) AllReadyH.nil
      obtain ⟨⟨x0, x1, x2⟩, ⟨r0, r1, r2⟩, f0, f1, f2⟩ := i3.cells
      have nq : ¬ w.heap.size = Q := by have := i3.lt; have := i3.lt0; omega
      have nq' : ¬ Q = w.heap.size := by have := i3.lt; have := i3.lt0; omega
      go_simp
      replace i3 := i3.put
      refine hK.out _ _ i3.cells' (fun hHeld => ?_)
      clear x0 x1 x2 r0 r1 r2 f0 f1 f2 nq nq'
      generalize ((wn1.setCell ⟨w.heap.size, 0, none⟩ (.int .i64 e)).setCell ⟨w.heap.size, 1, none⟩ (.int .i64 t)).setCell ⟨w.heap.size, 2, none⟩ (.slice p np cp) = us2 at i3 hHeld ⊢
      clear hK K
      try simp only [Act.put, List.setIfInBounds_toArray, List.set_cons_zero, List.set_cons_succ]
      refine wpAnyH_take (i := 11) (oi := { dst := some 3, op := Op.assign (Operand.tmp 28), type := 2, pos := "l04_gram.go:175", after := #[{ on := 1, ground := Ground.data }, { on := 10, ground := Ground.chain }, { on := 0, ground := Ground.phase }, { on := 1, ground := Ground.phase }, { on := 2, ground := Ground.textOnly Departure.lateStores }, { on := 3, ground := Ground.textOnly Departure.lateStores }, { on := 4, ground := Ground.textOnly Departure.lateStoresUnsure }, { on := 5, ground := Ground.textOnly Departure.lateStores }, { on := 6, ground := Ground.textOnly Departure.lateStoresUnsure }, { on := 7, ground := Ground.textOnly Departure.lateStores }, { on := 8, ground := Ground.textOnly Departure.lateStoresUnsure }, { on := 9, ground := Ground.textOnly Departure.lateStores }, { on := 10, ground := Ground.phase }], guard := none }) (v := ?_) rfl (by kernel_rfl) (by kernel_rfl) (by kernel_rfl) (fun _ _ _ h => h) (Or.inl ⟨by rfl, ?_⟩) hHeld ?_
      rotate_left
      · rintro w ⟨z0, z1, z2⟩; go_simp; try with_reducible rfl
      try simp only [Act.put, List.setIfInBounds_toArray, List.set_cons_zero, List.set_cons_succ]
      refine wpAnyH_take (i := 12) (oi := { dst := some 4, op := Op.assign (Operand.tmp 36), type := 2, pos := "l04_gram.go:175", after := #[{ on := 9, ground := Ground.data }, { on := 11, ground := Ground.chain }, { on := 0, ground := Ground.phase }, { on := 1, ground := Ground.phase }, { on := 2, ground := Ground.phase }, { on := 3, ground := Ground.phase }, { on := 4, ground := Ground.phase }, { on := 5, ground := Ground.phase }, { on := 6, ground := Ground.phase }, { on := 7, ground := Ground.phase }, { on := 8, ground := Ground.phase }, { on := 9, ground := Ground.phase }, { on := 10, ground := Ground.phase }, { on := 11, ground := Ground.phase }], guard := none }) (v := ?_) rfl (by kernel_rfl) (by kernel_rfl) (by kernel_rfl) (fun _ _ _ h => h) (Or.inl ⟨by rfl, ?_⟩) hHeld ?_
      rotate_left
      · rintro w ⟨z0, z1, z2⟩; go_simp; try with_reducible rfl
      try simp only [Act.put, List.setIfInBounds_toArray, List.set_cons_zero, List.set_cons_succ]
      refine wpAnyH_done (by kernel_rfl) ?_ _
      refine NoPanic.normal ?_
      have hres := i3.res
      have HB : Hid (Below w.heap.size w us2) := i3.below
      have HO : Hid ((us2).ownsRow w.heap.size 2 1 (.slice p np cp) s.length (s.map (Value.int .i64))) := row_le i3.row (by have := i3.lt0; omega)
      clear i3 hHeld
      go_wp2
      exact bodyPost_ret (results_ctt Tryd.results4 _ _ w.heap.size _ _ _ rfl rfl rfl hres rfl) rfl ⟨_, _, _, s, _, _, rfl, hs, HO.out, HB.out⟩
    · go_wp2_with fail
      obtain ⟨⟨x0, x1, x2⟩, _⟩ := i3.cells
      replace i3 := i3.drew
      refine wp_region_noPanic ?_
      refine wp_region_held_drew (S := fun u => u.cell? ⟨Q, 0, none⟩ = some (.int .i64 e) ∧ u.cell? ⟨Q, 1, none⟩ = some (.int .i64 t) ∧ u.cell? ⟨Q, 2, none⟩ = some (.slice p np cp)) (by kernel_rfl) ⟨x0, x1, x2⟩ (fun hHeld => ?_)
      clear x0 x1 x2
      generalize w6.drew = ur at i3 hHeld ⊢
      refine wpAnyH_take (i := 0) (oi := { dst := some 20, op := Op.load 25 (Operand.tmp 6), type := 25, pos := "l04_gram.go:173", after := #[], guard := none }) (v := ?_) rfl (by kernel_rfl) (by kernel_rfl) (by kernel_rfl) (fun _ _ _ h => h) (Or.inl ⟨by rfl, ?_⟩) hHeld ?_
      rotate_left
      · rintro w ⟨z0, z1, z2⟩; go_simp; try with_reducible rfl
      try simp only [Act.put, List.setIfInBounds_toArray, List.set_cons_zero, List.set_cons_succ]
      refine wpAnyH_take (i := 1) (oi := { dst := some 21, op := Op.move (Operand.tmp 7), type := 2, pos := "l04_gram.go:173", after := #[{ on := 7, ground := Ground.gcOnly Departure.lateStores }], guard := none }) (v := ?_) rfl (by kernel_rfl) (by kernel_rfl) (by kernel_rfl) (fun _ _ _ h => h) (Or.inl ⟨by rfl, ?_⟩) hHeld ?_
      rotate_left
      · rintro w ⟨z0, z1, z2⟩; go_simp; try with_reducible rfl
      try simp only [Act.put, List.setIfInBounds_toArray, List.set_cons_zero, List.set_cons_succ]
      refine wpAnyH_take (i := 3) (oi := { dst := some 23, op := Op.move (Operand.tmp 5), type := 34, pos := "l04_gram.go:173", after := #[], guard := none }) (v := ?_) rfl (by kernel_rfl) (by kernel_rfl) (by kernel_rfl) (fun _ _ _ h => h) (Or.inl ⟨by rfl, ?_⟩) hHeld ?_
      rotate_left
      · rintro w ⟨z0, z1, z2⟩; go_simp; try with_reducible rfl
      try simp only [Act.put, List.setIfInBounds_toArray, List.set_cons_zero, List.set_cons_succ]
      refine wpAnyH_ready (rs := [2, 4]) (by kernel_rfl) (by simp) ?_
      refine AllReadyH.cons rfl (fun K hK => ?_) (AllReadyH.cons rfl (fun K hK => ?_) AllReadyH.nil)
      · skip
        go_simp
        have hLQ : Q < ur.heap.size := row_lt i3.win
        have hL := list3_new ur (-1) 2000 2001
        replace i3 := i3.up ((Below.refl ur.heap.size ur).alloc (Nat.le_refl _) (.cells #[.int .i64 (-1), .int .i64 2000, .int .i64 2001] 2))
        refine hK.out _ _ i3.cells.1 (fun hHeld => ?_)
        obtain ⟨L, hLL⟩ : ∃ L, L = ur.heap.size := ⟨_, rfl⟩
        rw [← hLL] at hL hLQ
        rw [← hLL]
        generalize ur.alloc (.cells #[.int .i64 (-1), .int .i64 2000, .int .i64 2001] 2) = ub1 at i3 hHeld hL ⊢
        clear hLL
        clear hK K
        try simp only [Act.put, List.setIfInBounds_toArray, List.set_cons_zero, List.set_cons_succ]
        refine wpAnyH_ready (rs := [4]) (by kernel_rfl) (by simp) ?_
        refine AllReadyH.cons rfl (fun K hK => ?_) AllReadyH.nil
        go_simp
        go_at_call 13
        refine (n_g i3.at_ 3 (by omega) (by omega)).mono ?_
        rintro r wn2 ⟨m, rfl, hm, hA, hg⟩
        replace hL := hL.next hg (by have := hLQ; have := i3.lt; omega)
        replace i3 := i3.next hA hg
        go_wp2_with fail
        refine hK.out _ _ i3.cells.1 (fun hHeld => ?_)
        clear hA hg
        have j0 : (0 : Int) ≤ (m : Int) := by omega
        have j1 : (m : Int) < 3 ∨ 3 ≤ (m : Int) := by omega
        replace j1 : (m : Int) < 3 := by omega
        have e0 : IntKind.i64.wrap (m : Int) = (m : Int) := by rw [IntKind.wrap_i64]; omega
        clear hK K
        try simp only [Act.put, List.setIfInBounds_toArray, List.set_cons_zero, List.set_cons_succ]
        refine wpAnyH_take (i := 5) (oi := { dst := some 25, op := Op.indexAddr 23 (Operand.tmp 22) (Operand.tmp 24), type := 0, pos := "l04_gram.go:173", after := #[{ on := 2, ground := Ground.data }, { on := 4, ground := Ground.data }, { on := 8, ground := Ground.gcOnly Departure.lateStores }], guard := none }) (v := ?_) rfl (by kernel_rfl) (by kernel_rfl) (by kernel_rfl) (fun _ _ _ h => h) (Or.inl ⟨by rfl, ?_⟩) hHeld ?_
        rotate_left
        · rintro w ⟨z0, z1, z2⟩; go_simp; try with_reducible rfl
        try simp only [Act.put, List.setIfInBounds_toArray, List.set_cons_zero, List.set_cons_succ]
        refine wpAnyH_ready (rs := [6, 7]) (by kernel_rfl) (by simp) ?_
        refine AllReadyH.cons rfl (fun K hK => ?_) (AllReadyH.cons rfl (fun K hK => ?_) AllReadyH.nil)
        · skip
          obtain ⟨x, hx⟩ := hL m hm
          go_simp
          refine hK.out _ _ hHeld (fun hHeld => ?_)
          clear hx
          clear hK K
          try simp only [Act.put, List.setIfInBounds_toArray, List.set_cons_zero, List.set_cons_succ]
          refine wpAnyH_ready (rs := [7]) (by kernel_rfl) (by simp) ?_
          refine AllReadyH.cons rfl (fun K hK => ?_) AllReadyH.nil
          obtain ⟨⟨x0, x1, x2⟩, ⟨r0, r1, r2⟩, f0, f1, f2⟩ := i3.cells
          have nq : ¬ w.heap.size = Q := by have := i3.lt; have := i3.lt0; omega
          have nq' : ¬ Q = w.heap.size := by have := i3.lt; have := i3.lt0; omega
          go_simp
          replace hL := hL.set3 (x := .int .i64 e) (y := .int .i64 t) (z := .slice p np cp) (q := w.heap.size) (by have := hLQ; have := i3.lt; have := i3.lt0; omega)
          replace i3 := i3.put
          refine hK.out _ _ i3.cells' (fun hHeld => ?_)
          clear x0 x1 x2 r0 r1 r2 f0 f1 f2 nq nq'
          generalize ((wn2.setCell ⟨w.heap.size, 0, none⟩ (.int .i64 e)).setCell ⟨w.heap.size, 1, none⟩ (.int .i64 t)).setCell ⟨w.heap.size, 2, none⟩ (.slice p np cp) = us3 at i3 hHeld hL ⊢
          clear hK K
          try simp only [Act.put, List.setIfInBounds_toArray, List.set_cons_zero, List.set_cons_succ]
          refine wpAnyH_take (i := 8) (oi := { dst := some 3, op := Op.assign (Operand.tmp 21), type := 2, pos := "l04_gram.go:173", after := #[{ on := 1, ground := Ground.data }, { on := 7, ground := Ground.chain }, { on := 0, ground := Ground.phase }, { on := 1, ground := Ground.phase }, { on := 2, ground := Ground.textOnly Departure.lateStores }, { on := 3, ground := Ground.textOnly Departure.lateStores }, { on := 4, ground := Ground.textOnly Departure.lateStoresUnsure }, { on := 5, ground := Ground.textOnly Departure.lateStores }, { on := 6, ground := Ground.textOnly Departure.lateStores }, { on := 7, ground := Ground.phase }], guard := none }) (v := ?_) rfl (by kernel_rfl) (by kernel_rfl) (by kernel_rfl) (fun _ _ _ h => h) (Or.inl ⟨by rfl, ?_⟩) hHeld ?_
          rotate_left
          · rintro w ⟨z0, z1, z2⟩; go_simp; try with_reducible rfl
          try simp only [Act.put, List.setIfInBounds_toArray, List.set_cons_zero, List.set_cons_succ]
          refine wpAnyH_take (i := 9) (oi := { dst := some 4, op := Op.assign (Operand.tmp 26), type := 2, pos := "l04_gram.go:173", after := #[{ on := 6, ground := Ground.data }, { on := 8, ground := Ground.chain }, { on := 0, ground := Ground.phase }, { on := 1, ground := Ground.phase }, { on := 2, ground := Ground.phase }, { on := 3, ground := Ground.phase }, { on := 4, ground := Ground.phase }, { on := 5, ground := Ground.phase }, { on := 6, ground := Ground.phase }, { on := 7, ground := Ground.phase }, { on := 8, ground := Ground.phase }], guard := none }) (v := ?_) rfl (by kernel_rfl) (by kernel_rfl) (by kernel_rfl) (fun _ _ _ h => h) (Or.inl ⟨by rfl, ?_⟩) hHeld ?_
          rotate_left
          · rintro w ⟨z0, z1, z2⟩; go_simp; try with_reducible rfl
          try simp only [Act.put, List.setIfInBounds_toArray, List.set_cons_zero, List.set_cons_succ]
          refine wpAnyH_done (by kernel_rfl) ?_ _
          refine NoPanic.normal ?_
          have hres := i3.res
          have HB : Hid (Below w.heap.size w us3) := i3.below
          have HO : Hid ((us3).ownsRow w.heap.size 2 1 (.slice p np cp) s.length (s.map (Value.int .i64))) := row_le i3.row (by have := i3.lt0; omega)
          clear i3 hHeld hL
          go_wp2
          exact bodyPost_ret (results_ctt Tryd.results4 _ _ w.heap.size _ _ _ rfl rfl rfl hres rfl) rfl ⟨_, _, _, s, _, _, rfl, hs, HO.out, HB.out⟩
        · skip
          obtain ⟨⟨x0, x1, x2⟩, ⟨r0, r1, r2⟩, f0, f1, f2⟩ := i3.cells
          have nq : ¬ w.heap.size = Q := by have := i3.lt; have := i3.lt0; omega
          have nq' : ¬ Q = w.heap.size := by have := i3.lt; have := i3.lt0; omega
          go_simp
          replace hL := hL.set3 (x := .int .i64 e) (y := .int .i64 t) (z := .slice p np cp) (q := w.heap.size) (by have := hLQ; have := i3.lt; have := i3.lt0; omega)
          replace i3 := i3.put
          refine hK.out _ _ i3.cells' (fun hHeld => ?_)
          clear x0 x1 x2 r0 r1 r2 f0 f1 f2 nq nq'
          generalize ((wn2.setCell ⟨w.heap.size, 0, none⟩ (.int .i64 e)).setCell ⟨w.heap.size, 1, none⟩ (.int .i64 t)).setCell ⟨w.heap.size, 2, none⟩ (.slice p np cp) = us4 at i3 hHeld hL ⊢
          clear hK K
          try simp only [Act.put, List.setIfInBounds_toArray, List.set_cons_zero, List.set_cons_succ]
          refine wpAnyH_take (i := 8) (oi := { dst := some 3, op := Op.assign (Operand.tmp 21), type := 2, pos := "l04_gram.go:173", after := #[{ on := 1, ground := Ground.data }, { on := 7, ground := Ground.chain }, { on := 0, ground := Ground.phase }, { on := 1, ground := Ground.phase }, { on := 2, ground := Ground.textOnly Departure.lateStores }, { on := 3, ground := Ground.textOnly Departure.lateStores }, { on := 4, ground := Ground.textOnly Departure.lateStoresUnsure }, { on := 5, ground := Ground.textOnly Departure.lateStores }, { on := 6, ground := Ground.textOnly Departure.lateStores }, { on := 7, ground := Ground.phase }], guard := none }) (v := ?_) rfl (by kernel_rfl) (by kernel_rfl) (by kernel_rfl) (fun _ _ _ h => h) (Or.inl ⟨by rfl, ?_⟩) hHeld ?_
          rotate_left
          · rintro w ⟨z0, z1, z2⟩; go_simp; try with_reducible rfl
          try simp only [Act.put, List.setIfInBounds_toArray, List.set_cons_zero, List.set_cons_succ]
          refine wpAnyH_ready (rs := [6]) (by kernel_rfl) (by simp) ?_
          refine AllReadyH.cons rfl (fun K hK => ?_) AllReadyH.nil
          obtain ⟨x, hx⟩ := hL m hm
          go_simp
          refine hK.out _ _ hHeld (fun hHeld => ?_)
          clear hx
          clear hK K
          try simp only [Act.put, List.setIfInBounds_toArray, List.set_cons_zero, List.set_cons_succ]
          refine wpAnyH_take (i := 9) (oi := { dst := some 4, op := Op.assign (Operand.tmp 26), type := 2, pos := "l04_gram.go:173", after := #[{ on := 6, ground := Ground.data }, { on := 8, ground := Ground.chain }, { on := 0, ground := Ground.phase }, { on := 1, ground := Ground.phase }, { on := 2, ground := Ground.phase }, { on := 3, ground := Ground.phase }, { on := 4, ground := Ground.phase }, { on := 5, ground := Ground.phase }, { on := 6, ground := Ground.phase }, { on := 7, ground := Ground.phase }, { on := 8, ground := Ground.phase }], guard := none }) (v := ?_) rfl (by kernel_rfl) (by kernel_rfl) (by kernel_rfl) (fun _ _ _ h => h) (Or.inl ⟨by rfl, ?_⟩) hHeld ?_
          rotate_left
          · rintro w ⟨z0, z1, z2⟩; go_simp; try with_reducible rfl
          try simp only [Act.put, List.setIfInBounds_toArray, List.set_cons_zero, List.set_cons_succ]
          refine wpAnyH_done (by kernel_rfl) ?_ _
          refine NoPanic.normal ?_
          have hres := i3.res
          have HB : Hid (Below w.heap.size w us4) := i3.below
          have HO : Hid ((us4).ownsRow w.heap.size 2 1 (.slice p np cp) s.length (s.map (Value.int .i64))) := row_le i3.row (by have := i3.lt0; omega)
          clear i3 hHeld hL
          go_wp2
          exact bodyPost_ret (results_ctt Tryd.results4 _ _ w.heap.size _ _ _ rfl rfl rfl hres rfl) rfl ⟨_, _, _, s, _, _, rfl, hs, HO.out, HB.out⟩
      · skip
        go_simp
        go_at_call 13
        refine (n_g i3.at_ 3 (by omega) (by omega)).mono ?_
        rintro r wn5 ⟨m, rfl, hm, hA, hg⟩
        replace i3 := i3.next hA hg
        go_wp2_with fail
        refine hK.out _ _ i3.cells.1 (fun hHeld => ?_)
        clear hA hg
        have j0 : (0 : Int) ≤ (m : Int) := by omega
        have j1 : (m : Int) < 3 ∨ 3 ≤ (m : Int) := by omega
        replace j1 : (m : Int) < 3 := by omega
        have e0 : IntKind.i64.wrap (m : Int) = (m : Int) := by rw [IntKind.wrap_i64]; omega
        clear hK K
        try simp only [Act.put, List.setIfInBounds_toArray, List.set_cons_zero, List.set_cons_succ]
        refine wpAnyH_ready (rs := [2, 7]) (by kernel_rfl) (by simp) ?_
        refine AllReadyH.cons rfl (fun K hK => ?_) (AllReadyH.cons rfl (fun K hK => ?_) AllReadyH.nil)
        · skip
          go_simp
          have hLQ : Q < wn5.heap.size := row_lt i3.win
          have hL := list3_new wn5 (-1) 2000 2001
          replace i3 := i3.up ((Below.refl wn5.heap.size wn5).alloc (Nat.le_refl _) (.cells #[.int .i64 (-1), .int .i64 2000, .int .i64 2001] 2))
          refine hK.out _ _ i3.cells.1 (fun hHeld => ?_)
          obtain ⟨L, hLL⟩ : ∃ L, L = wn5.heap.size := ⟨_, rfl⟩
          rw [← hLL] at hL hLQ
          rw [← hLL]
          generalize wn5.alloc (.cells #[.int .i64 (-1), .int .i64 2000, .int .i64 2001] 2) = ub6 at i3 hHeld hL ⊢
          clear hLL
          clear hK K
          try simp only [Act.put, List.setIfInBounds_toArray, List.set_cons_zero, List.set_cons_succ]
          refine wpAnyH_take (i := 5) (oi := { dst := some 25, op := Op.indexAddr 23 (Operand.tmp 22) (Operand.tmp 24), type := 0, pos := "l04_gram.go:173", after := #[{ on := 2, ground := Ground.data }, { on := 4, ground := Ground.data }, { on := 8, ground := Ground.gcOnly Departure.lateStores }], guard := none }) (v := ?_) rfl (by kernel_rfl) (by kernel_rfl) (by kernel_rfl) (fun _ _ _ h => h) (Or.inl ⟨by rfl, ?_⟩) hHeld ?_
          rotate_left
          · rintro w ⟨z0, z1, z2⟩; go_simp; try with_reducible rfl
          try simp only [Act.put, List.setIfInBounds_toArray, List.set_cons_zero, List.set_cons_succ]
          refine wpAnyH_ready (rs := [6, 7]) (by kernel_rfl) (by simp) ?_
          refine AllReadyH.cons rfl (fun K hK => ?_) (AllReadyH.cons rfl (fun K hK => ?_) AllReadyH.nil)
          · skip
            obtain ⟨x, hx⟩ := hL m hm
            go_simp
            refine hK.out _ _ hHeld (fun hHeld => ?_)
            clear hx
            clear hK K
            try simp only [Act.put, List.setIfInBounds_toArray, List.set_cons_zero, List.set_cons_succ]
            refine wpAnyH_ready (rs := [7]) (by kernel_rfl) (by simp) ?_
            refine AllReadyH.cons rfl (fun K hK => ?_) AllReadyH.nil
            obtain ⟨⟨x0, x1, x2⟩, ⟨r0, r1, r2⟩, f0, f1, f2⟩ := i3.cells
            have nq : ¬ w.heap.size = Q := by have := i3.lt; have := i3.lt0; omega
            have nq' : ¬ Q = w.heap.size := by have := i3.lt; have := i3.lt0; omega
            go_simp
            replace hL := hL.set3 (x := .int .i64 e) (y := .int .i64 t) (z := .slice p np cp) (q := w.heap.size) (by have := hLQ; have := i3.lt; have := i3.lt0; omega)
            replace i3 := i3.put
            refine hK.out _ _ i3.cells' (fun hHeld => ?_)
            clear x0 x1 x2 r0 r1 r2 f0 f1 f2 nq nq'
            generalize ((ub6.setCell ⟨w.heap.size, 0, none⟩ (.int .i64 e)).setCell ⟨w.heap.size, 1, none⟩ (.int .i64 t)).setCell ⟨w.heap.size, 2, none⟩ (.slice p np cp) = us7 at i3 hHeld hL ⊢
            clear hK K
            try simp only [Act.put, List.setIfInBounds_toArray, List.set_cons_zero, List.set_cons_succ]
            refine wpAnyH_take (i := 8) (oi := { dst := some 3, op := Op.assign (Operand.tmp 21), type := 2, pos := "l04_gram.go:173", after := #[{ on := 1, ground := Ground.data }, { on := 7, ground := Ground.chain }, { on := 0, ground := Ground.phase }, { on := 1, ground := Ground.phase }, { on := 2, ground := Ground.textOnly Departure.lateStores }, { on := 3, ground := Ground.textOnly Departure.lateStores }, { on := 4, ground := Ground.textOnly Departure.lateStoresUnsure }, { on := 5, ground := Ground.textOnly Departure.lateStores }, { on := 6, ground := Ground.textOnly Departure.lateStores }, { on := 7, ground := Ground.phase }], guard := none }) (v := ?_) rfl (by kernel_rfl) (by kernel_rfl) (by kernel_rfl) (fun _ _ _ h => h) (Or.inl ⟨by rfl, ?_⟩) hHeld ?_
            rotate_left
            · rintro w ⟨z0, z1, z2⟩; go_simp; try with_reducible rfl
            try simp only [Act.put, List.setIfInBounds_toArray, List.set_cons_zero, List.set_cons_succ]
            refine wpAnyH_take (i := 9) (oi := { dst := some 4, op := Op.assign (Operand.tmp 26), type := 2, pos := "l04_gram.go:173", after := #[{ on := 6, ground := Ground.data }, { on := 8, ground := Ground.chain }, { on := 0, ground := Ground.phase }, { on := 1, ground := Ground.phase }, { on := 2, ground := Ground.phase }, { on := 3, ground := Ground.phase }, { on := 4, ground := Ground.phase }, { on := 5, ground := Ground.phase }, { on := 6, ground := Ground.phase }, { on := 7, ground := Ground.phase }, { on := 8, ground := Ground.phase }], guard := none }) (v := ?_) rfl (by kernel_rfl) (by kernel_rfl) (by kernel_rfl) (fun _ _ _ h => h) (Or.inl ⟨by rfl, ?_⟩) hHeld ?_
            rotate_left
            · rintro w ⟨z0, z1, z2⟩; go_simp; try with_reducible rfl
            try simp only [Act.put, List.setIfInBounds_toArray, List.set_cons_zero, List.set_cons_succ]
            refine wpAnyH_done (by kernel_rfl) ?_ _
            refine NoPanic.normal ?_
            have hres := i3.res
            have HB : Hid (Below w.heap.size w us7) := i3.below
            have HO : Hid ((us7).ownsRow w.heap.size 2 1 (.slice p np cp) s.length (s.map (Value.int .i64))) := row_le i3.row (by have := i3.lt0; omega)
            clear i3 hHeld hL
            go_wp2
            exact bodyPost_ret (results_ctt Tryd.results4 _ _ w.heap.size _ _ _ rfl rfl rfl hres rfl) rfl ⟨_, _, _, s, _, _, rfl, hs, HO.out, HB.out⟩
          · skip
            obtain ⟨⟨x0, x1, x2⟩, ⟨r0, r1, r2⟩, f0, f1, f2⟩ := i3.cells
            have nq : ¬ w.heap.size = Q := by have := i3.lt; have := i3.lt0; omega
            have nq' : ¬ Q = w.heap.size := by have := i3.lt; have := i3.lt0; omega
            go_simp
            replace hL := hL.set3 (x := .int .i64 e) (y := .int .i64 t) (z := .slice p np cp) (q := w.heap.size) (by have := hLQ; have := i3.lt; have := i3.lt0; omega)
            replace i3 := i3.put
            refine hK.out _ _ i3.cells' (fun hHeld => ?_)
            clear x0 x1 x2 r0 r1 r2 f0 f1 f2 nq nq'
            generalize ((ub6.setCell ⟨w.heap.size, 0, none⟩ (.int .i64 e)).setCell ⟨w.heap.size, 1, none⟩ (.int .i64 t)).setCell ⟨w.heap.size, 2, none⟩ (.slice p np cp) = us8 at i3 hHeld hL ⊢
            clear hK K
            try simp only [Act.put, List.setIfInBounds_toArray, List.set_cons_zero, List.set_cons_succ]
            refine wpAnyH_take (i := 8) (oi := { dst := some 3, op := Op.assign (Operand.tmp 21), type := 2, pos := "l04_gram.go:173", after := #[{ on := 1, ground := Ground.data }, { on := 7, ground := Ground.chain }, { on := 0, ground := Ground.phase }, { on := 1, ground := Ground.phase }, { on := 2, ground := Ground.textOnly Departure.lateStores }, { on := 3, ground := Ground.textOnly Departure.lateStores }, { on := 4, ground := Ground.textOnly Departure.lateStoresUnsure }, { on := 5, ground := Ground.textOnly Departure.lateStores }, { on := 6, ground := Ground.textOnly Departure.lateStores }, { on := 7, ground := Ground.phase }], guard := none }) (v := ?_) rfl (by kernel_rfl) (by kernel_rfl) (by kernel_rfl) (fun _ _ _ h => h) (Or.inl ⟨by rfl, ?_⟩) hHeld ?_
            rotate_left
            · rintro w ⟨z0, z1, z2⟩; go_simp; try with_reducible rfl
            try simp only [Act.put, List.setIfInBounds_toArray, List.set_cons_zero, List.set_cons_succ]
            refine wpAnyH_ready (rs := [6]) (by kernel_rfl) (by simp) ?_
            refine AllReadyH.cons rfl (fun K hK => ?_) AllReadyH.nil
            obtain ⟨x, hx⟩ := hL m hm
            go_simp
            refine hK.out _ _ hHeld (fun hHeld => ?_)
            clear hx
            clear hK K
            try simp only [Act.put, List.setIfInBounds_toArray, List.set_cons_zero, List.set_cons_succ]
            refine wpAnyH_take (i := 9) (oi := { dst := some 4, op := Op.assign (Operand.tmp 26), type := 2, pos := "l04_gram.go:173", after := #[{ on := 6, ground := Ground.data }, { on := 8, ground := Ground.chain }, { on := 0, ground := Ground.phase }, { on := 1, ground := Ground.phase }, { on := 2, ground := Ground.phase }, { on := 3, ground := Ground.phase }, { on := 4, ground := Ground.phase }, { on := 5, ground := Ground.phase }, { on := 6, ground := Ground.phase }, { on := 7, ground := Ground.phase }, { on := 8, ground := Ground.phase }], guard := none }) (v := ?_) rfl (by kernel_rfl) (by kernel_rfl) (by kernel_rfl) (fun _ _ _ h => h) (Or.inl ⟨by rfl, ?_⟩) hHeld ?_
            rotate_left
            · rintro w ⟨z0, z1, z2⟩; go_simp; try with_reducible rfl
            try simp only [Act.put, List.setIfInBounds_toArray, List.set_cons_zero, List.set_cons_succ]
            refine wpAnyH_done (by kernel_rfl) ?_ _
            refine NoPanic.normal ?_
            have hres := i3.res
            have HB : Hid (Below w.heap.size w us8) := i3.below
            have HO : Hid ((us8).ownsRow w.heap.size 2 1 (.slice p np cp) s.length (s.map (Value.int .i64))) := row_le i3.row (by have := i3.lt0; omega)
            clear i3 hHeld hL
            go_wp2
            exact bodyPost_ret (results_ctt Tryd.results4 _ _ w.heap.size _ _ _ rfl rfl rfl hres rfl) rfl ⟨_, _, _, s, _, _, rfl, hs, HO.out, HB.out⟩
        · skip
          obtain ⟨⟨x0, x1, x2⟩, ⟨r0, r1, r2⟩, f0, f1, f2⟩ := i3.cells
          have nq : ¬ w.heap.size = Q := by have := i3.lt; have := i3.lt0; omega
          have nq' : ¬ Q = w.heap.size := by have := i3.lt; have := i3.lt0; omega
          go_simp
          replace i3 := i3.put
          refine hK.out _ _ i3.cells' (fun hHeld => ?_)
          clear x0 x1 x2 r0 r1 r2 f0 f1 f2 nq nq'
          generalize ((wn5.setCell ⟨w.heap.size, 0, none⟩ (.int .i64 e)).setCell ⟨w.heap.size, 1, none⟩ (.int .i64 t)).setCell ⟨w.heap.size, 2, none⟩ (.slice p np cp) = us9 at i3 hHeld ⊢
          clear hK K
          try simp only [Act.put, List.setIfInBounds_toArray, List.set_cons_zero, List.set_cons_succ]
          refine wpAnyH_take (i := 8) (oi := { dst := some 3, op := Op.assign (Operand.tmp 21), type := 2, pos := "l04_gram.go:173", after := #[{ on := 1, ground := Ground.data }, { on := 7, ground := Ground.chain }, { on := 0, ground := Ground.phase }, { on := 1, ground := Ground.phase }, { on := 2, ground := Ground.textOnly Departure.lateStores }, { on := 3, ground := Ground.textOnly Departure.lateStores }, { on := 4, ground := Ground.textOnly Departure.lateStoresUnsure }, { on := 5, ground := Ground.textOnly Departure.lateStores }, { on := 6, ground := Ground.textOnly Departure.lateStores }, { on := 7, ground := Ground.phase }], guard := none }) (v := ?_) rfl (by kernel_rfl) (by kernel_rfl) (by kernel_rfl) (fun _ _ _ h => h) (Or.inl ⟨by rfl, ?_⟩) hHeld ?_
          rotate_left
          · rintro w ⟨z0, z1, z2⟩; go_simp; try with_reducible rfl
          try simp only [Act.put, List.setIfInBounds_toArray, List.set_cons_zero, List.set_cons_succ]
          refine wpAnyH_ready (rs := [2]) (by kernel_rfl) (by simp) ?_
          refine AllReadyH.cons rfl (fun K hK => ?_) AllReadyH.nil
          go_simp
          have hLQ : Q < us9.heap.size := row_lt i3.win
          have hL := list3_new us9 (-1) 2000 2001
          replace i3 := i3.up ((Below.refl us9.heap.size us9).alloc (Nat.le_refl _) (.cells #[.int .i64 (-1), .int .i64 2000, .int .i64 2001] 2))
          refine hK.out _ _ i3.cells' (fun hHeld => ?_)
          obtain ⟨L, hLL⟩ : ∃ L, L = us9.heap.size := ⟨_, rfl⟩
          rw [← hLL] at hL hLQ
          rw [← hLL]
          generalize us9.alloc (.cells #[.int .i64 (-1), .int .i64 2000, .int .i64 2001] 2) = ub10 at i3 hHeld hL ⊢
          clear hLL
          clear hK K
          try simp only [Act.put, List.setIfInBounds_toArray, List.set_cons_zero, List.set_cons_succ]
          refine wpAnyH_take (i := 5) (oi := { dst := some 25, op := Op.indexAddr 23 (Operand.tmp 22) (Operand.tmp 24), type := 0, pos := "l04_gram.go:173", after := #[{ on := 2, ground := Ground.data }, { on := 4, ground := Ground.data }, { on := 8, ground := Ground.gcOnly Departure.lateStores }], guard := none }) (v := ?_) rfl (by kernel_rfl) (by kernel_rfl) (by kernel_rfl) (fun _ _ _ h => h) (Or.inl ⟨by rfl, ?_⟩) hHeld ?_
          rotate_left
          · rintro w ⟨z0, z1, z2⟩; go_simp; try with_reducible rfl
          try simp only [Act.put, List.setIfInBounds_toArray, List.set_cons_zero, List.set_cons_succ]
          refine wpAnyH_ready (rs := [6]) (by kernel_rfl) (by simp) ?_
          refine AllReadyH.cons rfl (fun K hK => ?_) AllReadyH.nil
          obtain ⟨x, hx⟩ := hL m hm
          go_simp
          refine hK.out _ _ hHeld (fun hHeld => ?_)
          clear hx
          clear hK K
          try simp only [Act.put, List.setIfInBounds_toArray, List.set_cons_zero, List.set_cons_succ]
          refine wpAnyH_take (i := 9) (oi := { dst := some 4, op := Op.assign (Operand.tmp 26), type := 2, pos := "l04_gram.go:173", after := #[{ on := 6, ground := Ground.data }, { on := 8, ground := Ground.chain }, { on := 0, ground := Ground.phase }, { on := 1, ground := Ground.phase }, { on := 2, ground := Ground.phase }, { on := 3, ground := Ground.phase }, { on := 4, ground := Ground.phase }, { on := 5, ground := Ground.phase }, { on := 6, ground := Ground.phase }, { on := 7, ground := Ground.phase }, { on := 8, ground := Ground.phase }], guard := none }) (v := ?_) rfl (by kernel_rfl) (by kernel_rfl) (by kernel_rfl) (fun _ _ _ h => h) (Or.inl ⟨by rfl, ?_⟩) hHeld ?_
          rotate_left
          · rintro w ⟨z0, z1, z2⟩; go_simp; try with_reducible rfl
          try simp only [Act.put, List.setIfInBounds_toArray, List.set_cons_zero, List.set_cons_succ]
          refine wpAnyH_done (by kernel_rfl) ?_ _
          refine NoPanic.normal ?_
          have hres := i3.res
          have HB : Hid (Below w.heap.size w ub10) := i3.below
          have HO : Hid ((ub10).ownsRow w.heap.size 2 1 (.slice p np cp) s.length (s.map (Value.int .i64))) := row_le i3.row (by have := i3.lt0; omega)
          clear i3 hHeld hL
          go_wp2
          exact bodyPost_ret (results_ctt Tryd.results4 _ _ w.heap.size _ _ _ rfl rfl rfl hres rfl) rfl ⟨_, _, _, s, _, _, rfl, hs, HO.out, HB.out⟩
  · go_wp2_with (go_at_call 13; fail)
    refine (n_g i3.at_ 4 (by omega) (by omega)).mono ?_
    rintro r w5 ⟨j, rfl, hj, hA, hg⟩
    replace i3 := i3.next hA hg
    clear hA hg
    go_wp2_with (go_at_call 12; fail)
    refine (one_g i3.at_ 15 (by omega) (by omega)).mono ?_
    rintro r w6 ⟨vc, rfl, hA, hg⟩
    replace i3 := i3.next hA hg
    clear hA hg
    cases vc
    · go_wp2_with fail
      obtain ⟨⟨x0, x1, x2⟩, _⟩ := i3.cells
      replace i3 := i3.drew
      refine wp_region_noPanic ?_
      refine wp_region_held_drew (S := fun u => u.cell? ⟨Q, 0, none⟩ = some (.int .i64 e) ∧ u.cell? ⟨Q, 1, none⟩ = some (.int .i64 t) ∧ u.cell? ⟨Q, 2, none⟩ = some (.slice p np cp)) (by kernel_rfl) ⟨x0, x1, x2⟩ (fun hHeld => ?_)
      clear x0 x1 x2
      generalize w6.drew = ur at i3 hHeld ⊢
      refine wpAnyH_take (i := 0) (oi := { dst := some 27, op := Op.load 25 (Operand.tmp 6), type := 25, pos := "l04_gram.go:175", after := #[], guard := none }) (v := ?_) rfl (by kernel_rfl) (by kernel_rfl) (by kernel_rfl) (fun _ _ _ h => h) (Or.inl ⟨by rfl, ?_⟩) hHeld ?_
      rotate_left
      · rintro w ⟨z0, z1, z2⟩; go_simp; try with_reducible rfl
      try simp only [Act.put, List.setIfInBounds_toArray, List.set_cons_zero, List.set_cons_succ]
      refine wpAnyH_take (i := 1) (oi := { dst := some 28, op := Op.move (Operand.tmp 7), type := 2, pos := "l04_gram.go:175", after := #[{ on := 10, ground := Ground.gcOnly Departure.lateStores }], guard := none }) (v := ?_) rfl (by kernel_rfl) (by kernel_rfl) (by kernel_rfl) (fun _ _ _ h => h) (Or.inl ⟨by rfl, ?_⟩) hHeld ?_
      rotate_left
      · rintro w ⟨z0, z1, z2⟩; go_simp; try with_reducible rfl
      try simp only [Act.put, List.setIfInBounds_toArray, List.set_cons_zero, List.set_cons_succ]
      refine wpAnyH_take (i := 2) (oi := { dst := some 29, op := Op.fieldAddr 25 (Operand.tmp 6) 1, type := 0, pos := "l04_gram.go:175", after := #[], guard := none }) (v := ?_) rfl (by kernel_rfl) (by kernel_rfl) (by kernel_rfl) (fun _ _ _ h => h) (Or.inl ⟨by rfl, ?_⟩) hHeld ?_
      rotate_left
      · rintro w ⟨z0, z1, z2⟩; go_simp; try with_reducible rfl
      try simp only [Act.put, List.setIfInBounds_toArray, List.set_cons_zero, List.set_cons_succ]
      refine wpAnyH_take (i := 3) (oi := { dst := some 30, op := Op.load 2 (Operand.tmp 29), type := 2, pos := "l04_gram.go:175", after := #[{ on := 2, ground := Ground.data }], guard := none }) (v := ?_) rfl (by kernel_rfl) (by kernel_rfl) (by kernel_rfl) (fun _ _ _ h => h) (Or.inl ⟨by rfl, ?_⟩) hHeld ?_
      rotate_left
      · rintro w ⟨z0, z1, z2⟩; go_simp; try with_reducible rfl
      try simp only [Act.put, List.setIfInBounds_toArray, List.set_cons_zero, List.set_cons_succ]
      refine wpAnyH_take (i := 7) (oi := { dst := some 34, op := Op.move (Operand.tmp 5), type := 34, pos := "l04_gram.go:175", after := #[], guard := none }) (v := ?_) rfl (by kernel_rfl) (by kernel_rfl) (by kernel_rfl) (fun _ _ _ h => h) (Or.inl ⟨by rfl, ?_⟩) hHeld ?_
      rotate_left
      · rintro w ⟨z0, z1, z2⟩; go_simp; try with_reducible rfl
      try simp only [Act.put, List.setIfInBounds_toArray, List.set_cons_zero, List.set_cons_succ]
      refine wpAnyH_ready (rs := [4]) (by kernel_rfl) (by simp) ?_
      refine AllReadyH.cons rfl (fun K hK => ?_) AllReadyH.nil
      go_simp
      go_at_call 15
      refine (wi.minM_any _ _ _).mono ?_
      rintro r w' ⟨rfl, hw'⟩
      obtain rfl := hw'.symm
      go_wp2_with fail
      refine hK.out _ _ hHeld (fun hHeld => ?_)
      clear hK K
      try simp only [Act.put, List.setIfInBounds_toArray, List.set_cons_zero, List.set_cons_succ]
      refine wpAnyH_take (i := 5) (oi := { dst := some 32, op := Op.binOp BinOp.sub 2 (Operand.tmp 31) (Operand.const (Value.int IntKind.i64 20)) 2, type := 2, pos := "l04_gram.go:175", after := #[{ on := 4, ground := Ground.data }], guard := none }) (v := ?_) rfl (by kernel_rfl) (by kernel_rfl) (by kernel_rfl) (fun _ _ _ h => h) (Or.inl ⟨by rfl, ?_⟩) hHeld ?_
      rotate_left
      · rintro w ⟨z0, z1, z2⟩; go_simp; try with_reducible rfl
      try simp only [Act.put, List.setIfInBounds_toArray, List.set_cons_zero, List.set_cons_succ]
      refine wpAnyH_ready (rs := [6]) (by kernel_rfl) (by simp) ?_
      refine AllReadyH.cons rfl (fun K hK => ?_) AllReadyH.nil
      go_simp
      go_at_call 14
      refine (wi.maxM_max _ _ _).mono ?_
      rintro r w' ⟨rfl, hw'⟩
      obtain rfl := hw'.symm
      go_wp2_with fail
      refine hK.out _ _ hHeld (fun hHeld => ?_)
      clear hK K
      try simp only [Act.put, List.setIfInBounds_toArray, List.set_cons_zero, List.set_cons_succ]
      refine wpAnyH_ready (rs := [8]) (by kernel_rfl) (by simp) ?_
      refine AllReadyH.cons rfl (fun K hK => ?_) AllReadyH.nil
      go_simp
      go_at_call 13
      refine (n_g i3.at_ 26 (by omega) (by omega)).mono ?_
      rintro r wn1 ⟨m, rfl, hm, hA, hg⟩
      replace i3 := i3.next hA hg
      go_wp2_with fail
      refine hK.out _ _ i3.cells.1 (fun hHeld => ?_)
      clear hA hg
      have j0 : (0 : Int) ≤ (m : Int) := by omega
      have j1 : (m : Int) < 3 ∨ 3 ≤ (m : Int) := by omega
      clear j1
      clear hK K
      try simp only [Act.put, List.setIfInBounds_toArray, List.set_cons_zero, List.set_cons_succ]
      refine wpAnyH_take (i := 9) (oi := { dst := some 36, op := Op.binOp BinOp.add 2 (Operand.tmp 33) (Operand.tmp 35) 2, type := 2, pos := "l04_gram.go:175", after := #[{ on := 6, ground := Ground.data }, { on := 8, ground := Ground.data }, { on := 11, ground := Ground.gcOnly Departure.lateStores }], guard := none }) (v := ?_) rfl (by kernel_rfl) (by kernel_rfl) (by kernel_rfl) (fun _ _ _ h => h) (Or.inl ⟨by rfl, ?_⟩) hHeld ?_
      rotate_left
      · rintro w ⟨z0, z1, z2⟩; go_simp; try with_reducible rfl
      try simp only [Act.put, List.setIfInBounds_toArray, List.set_cons_zero, List.set_cons_succ]
      refine wpAnyH_ready (rs := [10]) (by kernel_rfl) (by simp) ?_
      refine AllReadyH.cons rfl (fun K hK => ?_) AllReadyH.nil
      obtain ⟨⟨x0, x1, x2⟩, ⟨r0, r1, r2⟩, f0, f1, f2⟩ := i3.cells
      have nq : ¬ w.heap.size = Q := by have := i3.lt; have := i3.lt0; omega
      have nq' : ¬ Q = w.heap.size := by have := i3.lt; have := i3.lt0; omega
      go_simp
      replace i3 := i3.put
      refine hK.out _ _ i3.cells' (fun hHeld => ?_)
      clear x0 x1 x2 r0 r1 r2 f0 f1 f2 nq nq'
      generalize ((wn1.setCell ⟨w.heap.size, 0, none⟩ (.int .i64 e)).setCell ⟨w.heap.size, 1, none⟩ (.int .i64 t)).setCell ⟨w.heap.size, 2, none⟩ (.slice p np cp) = us2 at i3 hHeld ⊢
      clear hK K
      try simp only [Act.put, List.setIfInBounds_toArray, List.set_cons_zero, List.set_cons_succ]
      refine wpAnyH_take (i := 11) (oi := { dst := some 3, op := Op.assign (Operand.tmp 28), type := 2, pos := "l04_gram.go:175", after := #[{ on := 1, ground := Ground.data }, { on := 10, ground := Ground.chain }, { on := 0, ground := Ground.phase }, { on := 1, ground := Ground.phase }, { on := 2, ground := Ground.textOnly Departure.lateStores }, { on := 3, ground := Ground.textOnly Departure.lateStores }, { on := 4, ground := Ground.textOnly Departure.lateStoresUnsure }, { on := 5, ground := Ground.textOnly Departure.lateStores }, { on := 6, ground := Ground.textOnly Departure.lateStoresUnsure }, { on := 7, ground := Ground.textOnly Departure.lateStores }, { on := 8, ground := Ground.textOnly Departure.lateStoresUnsure }, { on := 9, ground := Ground.textOnly Departure.lateStores }, { on := 10, ground := Ground.phase }], guard := none }) (v := ?_) rfl (by kernel_rfl) (by kernel_rfl) (by kernel_rfl) (fun _ _ _ h => h) (Or.inl ⟨by rfl, ?_⟩) hHeld ?_
      rotate_left
      · rintro w ⟨z0, z1, z2⟩; go_simp; try with_reducible rfl
      try simp only [Act.put, List.setIfInBounds_toArray, List.set_cons_zero, List.set_cons_succ]
      refine wpAnyH_take (i := 12) (oi := { dst := some 4, op := Op.assign (Operand.tmp 36), type := 2, pos := "l04_gram.go:175", after := #[{ on := 9, ground := Ground.data }, { on := 11, ground := Ground.chain }, { on := 0, ground := Ground.phase }, { on := 1, ground := Ground.phase }, { on := 2, ground := Ground.phase }, { on := 3, ground := Ground.phase }, { on := 4, ground := Ground.phase }, { on := 5, ground := Ground.phase }, { on := 6, ground := Ground.phase }, { on := 7, ground := Ground.phase }, { on := 8, ground := Ground.phase }, { on := 9, ground := Ground.phase }, { on := 10, ground := Ground.phase }, { on := 11, ground := Ground.phase }], guard := none }) (v := ?_) rfl (by kernel_rfl) (by kernel_rfl) (by kernel_rfl) (fun _ _ _ h => h) (Or.inl ⟨by rfl, ?_⟩) hHeld ?_
      rotate_left
      · rintro w ⟨z0, z1, z2⟩; go_simp; try with_reducible rfl
      try simp only [Act.put, List.setIfInBounds_toArray, List.set_cons_zero, List.set_cons_succ]
      refine wpAnyH_done (by kernel_rfl) ?_ _
      refine NoPanic.normal ?_
      have hres := i3.res
      have HB : Hid (Below w.heap.size w us2) := i3.below
      have HO : Hid ((us2).ownsRow w.heap.size 2 1 (.slice p np cp) s.length (s.map (Value.int .i64))) := row_le i3.row (by have := i3.lt0; omega)
      clear i3 hHeld
      go_wp2
      exact bodyPost_ret (results_ctt Tryd.results4 _ _ w.heap.size _ _ _ rfl rfl rfl hres rfl) rfl ⟨_, _, _, s, _, _, rfl, hs, HO.out, HB.out⟩
    · go_wp2_with fail
      obtain ⟨⟨x0, x1, x2⟩, _⟩ := i3.cells
      replace i3 := i3.drew
      refine wp_region_noPanic ?_
      refine wp_region_held_drew (S := fun u => u.cell? ⟨Q, 0, none⟩ = some (.int .i64 e) ∧ u.cell? ⟨Q, 1, none⟩ = some (.int .i64 t) ∧ u.cell? ⟨Q, 2, none⟩ = some (.slice p np cp)) (by kernel_rfl) ⟨x0, x1, x2⟩ (fun hHeld => ?_)
      clear x0 x1 x2
      generalize w6.drew = ur at i3 hHeld ⊢
      refine wpAnyH_take (i := 0) (oi := { dst := some 20, op := Op.load 25 (Operand.tmp 6), type := 25, pos := "l04_gram.go:173", after := #[], guard := none }) (v := ?_) rfl (by kernel_rfl) (by kernel_rfl) (by kernel_rfl) (fun _ _ _ h => h) (Or.inl ⟨by rfl, ?_⟩) hHeld ?_
      rotate_left
      · rintro w ⟨z0, z1, z2⟩; go_simp; try with_reducible rfl
      try simp only [Act.put, List.setIfInBounds_toArray, List.set_cons_zero, List.set_cons_succ]
      refine wpAnyH_take (i := 1) (oi := { dst := some 21, op := Op.move (Operand.tmp 7), type := 2, pos := "l04_gram.go:173", after := #[{ on := 7, ground := Ground.gcOnly Departure.lateStores }], guard := none }) (v := ?_) rfl (by kernel_rfl) (by kernel_rfl) (by kernel_rfl) (fun _ _ _ h => h) (Or.inl ⟨by rfl, ?_⟩) hHeld ?_
      rotate_left
      · rintro w ⟨z0, z1, z2⟩; go_simp; try with_reducible rfl
      try simp only [Act.put, List.setIfInBounds_toArray, List.set_cons_zero, List.set_cons_succ]
      refine wpAnyH_take (i := 3) (oi := { dst := some 23, op := Op.move (Operand.tmp 5), type := 34, pos := "l04_gram.go:173", after := #[], guard := none }) (v := ?_) rfl (by kernel_rfl) (by kernel_rfl) (by kernel_rfl) (fun _ _ _ h => h) (Or.inl ⟨by rfl, ?_⟩) hHeld ?_
      rotate_left
      · rintro w ⟨z0, z1, z2⟩; go_simp; try with_reducible rfl
      try simp only [Act.put, List.setIfInBounds_toArray, List.set_cons_zero, List.set_cons_succ]
      refine wpAnyH_ready (rs := [2, 4]) (by kernel_rfl) (by simp) ?_
      refine AllReadyH.cons rfl (fun K hK => ?_) (AllReadyH.cons rfl (fun K hK => ?_) AllReadyH.nil)
      · skip
        go_simp
        have hLQ : Q < ur.heap.size := row_lt i3.win
        have hL := list3_new ur (-1) 2000 2001
        replace i3 := i3.up ((Below.refl ur.heap.size ur).alloc (Nat.le_refl _) (.cells #[.int .i64 (-1), .int .i64 2000, .int .i64 2001] 2))
        refine hK.out _ _ i3.cells.1 (fun hHeld => ?_)
        obtain ⟨L, hLL⟩ : ∃ L, L = ur.heap.size := ⟨_, rfl⟩
        rw [← hLL] at hL hLQ
        rw [← hLL]
        generalize ur.alloc (.cells #[.int .i64 (-1), .int .i64 2000, .int .i64 2001] 2) = ub1 at i3 hHeld hL ⊢
        clear hLL
        clear hK K
        try simp only [Act.put, List.setIfInBounds_toArray, List.set_cons_zero, List.set_cons_succ]
        refine wpAnyH_ready (rs := [4]) (by kernel_rfl) (by simp) ?_
        refine AllReadyH.cons rfl (fun K hK => ?_) AllReadyH.nil
        go_simp
        go_at_call 13
        refine (n_g i3.at_ 3 (by omega) (by omega)).mono ?_
        rintro r wn2 ⟨m, rfl, hm, hA, hg⟩
        replace hL := hL.next hg (by have := hLQ; have := i3.lt; omega)
        replace i3 := i3.next hA hg
        go_wp2_with fail
        refine hK.out _ _ i3.cells.1 (fun hHeld => ?_)
        clear hA hg
        have j0 : (0 : Int) ≤ (m : Int) := by omega
        have j1 : (m : Int) < 3 ∨ 3 ≤ (m : Int) := by omega
        replace j1 : (m : Int) < 3 := by omega
        have e0 : IntKind.i64.wrap (m : Int) = (m : Int) := by rw [IntKind.wrap_i64]; omega
        clear hK K
        try simp only [Act.put, List.setIfInBounds_toArray, List.set_cons_zero, List.set_cons_succ]
        refine wpAnyH_take (i := 5) (oi := { dst := some 25, op := Op.indexAddr 23 (Operand.tmp 22) (Operand.tmp 24), type := 0, pos := "l04_gram.go:173", after := #[{ on := 2, ground := Ground.data }, { on := 4, ground := Ground.data }, { on := 8, ground := Ground.gcOnly Departure.lateStores }], guard := none }) (v := ?_) rfl (by kernel_rfl) (by kernel_rfl) (by kernel_rfl) (fun _ _ _ h => h) (Or.inl ⟨by rfl, ?_⟩) hHeld ?_
        rotate_left
        · rintro w ⟨z0, z1, z2⟩; go_simp; try with_reducible rfl
        try simp only [Act.put, List.setIfInBounds_toArray, List.set_cons_zero, List.set_cons_succ]
        refine wpAnyH_ready (rs := [6, 7]) (by kernel_rfl) (by simp) ?_
        refine AllReadyH.cons rfl (fun K hK => ?_) (AllReadyH.cons rfl (fun K hK => ?_) AllReadyH.nil)
        · skip
          obtain ⟨x, hx⟩ := hL m hm
          go_simp
          refine hK.out _ _ hHeld (fun hHeld => ?_)
          clear hx
          clear hK K
          try simp only [Act.put, List.setIfInBounds_toArray, List.set_cons_zero, List.set_cons_succ]
          refine wpAnyH_ready (rs := [7]) (by kernel_rfl) (by simp) ?_
          refine AllReadyH.cons rfl (fun K hK => ?_) AllReadyH.nil
          obtain ⟨⟨x0, x1, x2⟩, ⟨r0, r1, r2⟩, f0, f1, f2⟩ := i3.cells
          have nq : ¬ w.heap.size = Q := by have := i3.lt; have := i3.lt0; omega
          have nq' : ¬ Q = w.heap.size := by have := i3.lt; have := i3.lt0; omega
          go_simp
          replace hL := hL.set3 (x := .int .i64 e) (y := .int .i64 t) (z := .slice p np cp) (q := w.heap.size) (by have := hLQ; have := i3.lt; have := i3.lt0; omega)
          replace i3 := i3.put
          refine hK.out _ _ i3.cells' (fun hHeld => ?_)
          clear x0 x1 x2 r0 r1 r2 f0 f1 f2 nq nq'
          generalize ((wn2.setCell ⟨w.heap.size, 0, none⟩ (.int .i64 e)).setCell ⟨w.heap.size, 1, none⟩ (.int .i64 t)).setCell ⟨w.heap.size, 2, none⟩ (.slice p np cp) = us3 at i3 hHeld hL ⊢
          clear hK K
          try simp only [Act.put, List.setIfInBounds_toArray, List.set_cons_zero, List.set_cons_succ]
          refine wpAnyH_take (i := 8) (oi := { dst := some 3, op := Op.assign (Operand.tmp 21), type := 2, pos := "l04_gram.go:173", after := #[{ on := 1, ground := Ground.data }, { on := 7, ground := Ground.chain }, { on := 0, ground := Ground.phase }, { on := 1, ground := Ground.phase }, { on := 2, ground := Ground.textOnly Departure.lateStores }, { on := 3, ground := Ground.textOnly Departure.lateStores }, { on := 4, ground := Ground.textOnly Departure.lateStoresUnsure }, { on := 5, ground := Ground.textOnly Departure.lateStores }, { on := 6, ground := Ground.textOnly Departure.lateStores }, { on := 7, ground := Ground.phase }], guard := none }) (v := ?_) rfl (by kernel_rfl) (by kernel_rfl) (by kernel_rfl) (fun _ _ _ h => h) (Or.inl ⟨by rfl, ?_⟩) hHeld ?_
          rotate_left
          · rintro w ⟨z0, z1, z2⟩; go_simp; try with_reducible rfl
          try simp only [Act.put, List.setIfInBounds_toArray, List.set_cons_zero, List.set_cons_succ]
          refine wpAnyH_take (i := 9) (oi := { dst := some 4, op := Op.assign (Operand.tmp 26), type := 2, pos := "l04_gram.go:173", after := #[{ on := 6, ground := Ground.data }, { on := 8, ground := Ground.chain }, { on := 0, ground := Ground.phase }, { on := 1, ground := Ground.phase }, { on := 2, ground := Ground.phase }, { on := 3, ground := Ground.phase }, { on := 4, ground := Ground.phase }, { on := 5, ground := Ground.phase }, { on := 6, ground := Ground.phase }, { on := 7, ground := Ground.phase }, { on := 8, ground := Ground.phase }], guard := none }) (v := ?_) rfl (by kernel_rfl) (by kernel_rfl) (by kernel_rfl) (fun _ _ _ h => h) (Or.inl ⟨by rfl, ?_⟩) hHeld ?_
          rotate_left
          · rintro w ⟨z0, z1, z2⟩; go_simp; try with_reducible rfl
          try simp only [Act.put, List.setIfInBounds_toArray, List.set_cons_zero, List.set_cons_succ]
          refine wpAnyH_done (by kernel_rfl) ?_ _
          refine NoPanic.normal ?_
          have hres := i3.res
          have HB : Hid (Below w.heap.size w us3) := i3.below
          have HO : Hid ((us3).ownsRow w.heap.size 2 1 (.slice p np cp) s.length (s.map (Value.int .i64))) := row_le i3.row (by have := i3.lt0; omega)
          clear i3 hHeld hL
          go_wp2
          exact bodyPost_ret (results_ctt Tryd.results4 _ _ w.heap.size _ _ _ rfl rfl rfl hres rfl) rfl ⟨_, _, _, s, _, _, rfl, hs, HO.out, HB.out⟩
        · skip
          obtain ⟨⟨x0, x1, x2⟩, ⟨r0, r1, r2⟩, f0, f1, f2⟩ := i3.cells
          have nq : ¬ w.heap.size = Q := by have := i3.lt; have := i3.lt0; omega
          have nq' : ¬ Q = w.heap.size := by have := i3.lt; have := i3.lt0; omega
          go_simp
          replace hL := hL.set3 (x := .int .i64 e) (y := .int .i64 t) (z := .slice p np cp) (q := w.heap.size) (by have := hLQ; have := i3.lt; have := i3.lt0; omega)
          replace i3 := i3.put
          refine hK.out _ _ i3.cells' (fun hHeld => ?_)
          clear x0 x1 x2 r0 r1 r2 f0 f1 f2 nq nq'
          generalize ((wn2.setCell ⟨w.heap.size, 0, none⟩ (.int .i64 e)).setCell ⟨w.heap.size, 1, none⟩ (.int .i64 t)).setCell ⟨w.heap.size, 2, none⟩ (.slice p np cp) = us4 at i3 hHeld hL ⊢
          clear hK K
          try simp only [Act.put, List.setIfInBounds_toArray, List.set_cons_zero, List.set_cons_succ]
          refine wpAnyH_take (i := 8) (oi := { dst := some 3, op := Op.assign (Operand.tmp 21), type := 2, pos := "l04_gram.go:173", after := #[{ on := 1, ground := Ground.data }, { on := 7, ground := Ground.chain }, { on := 0, ground := Ground.phase }, { on := 1, ground := Ground.phase }, { on := 2, ground := Ground.textOnly Departure.lateStores }, { on := 3, ground := Ground.textOnly Departure.lateStores }, { on := 4, ground := Ground.textOnly Departure.lateStoresUnsure }, { on := 5, ground := Ground.textOnly Departure.lateStores }, { on := 6, ground := Ground.textOnly Departure.lateStores }, { on := 7, ground := Ground.phase }], guard := none }) (v := ?_) rfl (by kernel_rfl) (by kernel_rfl) (by kernel_rfl) (fun _ _ _ h => h) (Or.inl ⟨by rfl, ?_⟩) hHeld ?_
          rotate_left
          · rintro w ⟨z0, z1, z2⟩; go_simp; try with_reducible rfl
          try simp only [Act.put, List.setIfInBounds_toArray, List.set_cons_zero, List.set_cons_succ]
          refine wpAnyH_ready (rs := [6]) (by kernel_rfl) (by simp) ?_
          refine AllReadyH.cons rfl (fun K hK => ?_) AllReadyH.nil
          obtain ⟨x, hx⟩ := hL m hm
          go_simp
          refine hK.out _ _ hHeld (fun hHeld => ?_)
          clear hx
          clear hK K
          try simp only [Act.put, List.setIfInBounds_toArray, List.set_cons_zero, List.set_cons_succ]
          refine wpAnyH_take (i := 9) (oi := { dst := some 4, op := Op.assign (Operand.tmp 26), type := 2, pos := "l04_gram.go:173", after := #[{ on := 6, ground := Ground.data }, { on := 8, ground := Ground.chain }, { on := 0, ground := Ground.phase }, { on := 1, ground := Ground.phase }, { on := 2, ground := Ground.phase }, { on := 3, ground := Ground.phase }, { on := 4, ground := Ground.phase }, { on := 5, ground := Ground.phase }, { on := 6, ground := Ground.phase }, { on := 7, ground := Ground.phase }, { on := 8, ground := Ground.phase }], guard := none }) (v := ?_) rfl (by kernel_rfl) (by kernel_rfl) (by kernel_rfl) (fun _ _ _ h => h) (Or.inl ⟨by rfl, ?_⟩) hHeld ?_
          rotate_left
          · rintro w ⟨z0, z1, z2⟩; go_simp; try with_reducible rfl
          try simp only [Act.put, List.setIfInBounds_toArray, List.set_cons_zero, List.set_cons_succ]
          refine wpAnyH_done (by kernel_rfl) ?_ _
          refine NoPanic.normal ?_
          have hres := i3.res
          have HB : Hid (Below w.heap.size w us4) := i3.below
          have HO : Hid ((us4).ownsRow w.heap.size 2 1 (.slice p np cp) s.length (s.map (Value.int .i64))) := row_le i3.row (by have := i3.lt0; omega)
          clear i3 hHeld hL
          go_wp2
          exact bodyPost_ret (results_ctt Tryd.results4 _ _ w.heap.size _ _ _ rfl rfl rfl hres rfl) rfl ⟨_, _, _, s, _, _, rfl, hs, HO.out, HB.out⟩
      · skip
        go_simp
        go_at_call 13
        refine (n_g i3.at_ 3 (by omega) (by omega)).mono ?_
        rintro r wn5 ⟨m, rfl, hm, hA, hg⟩
        replace i3 := i3.next hA hg
        go_wp2_with fail
        refine hK.out _ _ i3.cells.1 (fun hHeld => ?_)
        clear hA hg
        have j0 : (0 : Int) ≤ (m : Int) := by omega
        have j1 : (m : Int) < 3 ∨ 3 ≤ (m : Int) := by omega
        replace j1 : (m : Int) < 3 := by omega
        have e0 : IntKind.i64.wrap (m : Int) = (m : Int) := by rw [IntKind.wrap_i64]; omega
        clear hK K
        try simp only [Act.put, List.setIfInBounds_toArray, List.set_cons_zero, List.set_cons_succ]
        refine wpAnyH_ready (rs := [2, 7]) (by kernel_rfl) (by simp) ?_
        refine AllReadyH.cons rfl (fun K hK => ?_) (AllReadyH.cons rfl (fun K hK => ?_) AllReadyH.nil)
        · skip
          go_simp
          have hLQ : Q < wn5.heap.size := row_lt i3.win
          have hL := list3_new wn5 (-1) 2000 2001
          replace i3 := i3.up ((Below.refl wn5.heap.size wn5).alloc (Nat.le_refl _) (.cells #[.int .i64 (-1), .int .i64 2000, .int .i64 2001] 2))
          refine hK.out _ _ i3.cells.1 (fun hHeld => ?_)
          obtain ⟨L, hLL⟩ : ∃ L, L = wn5.heap.size := ⟨_, rfl⟩
          rw [← hLL] at hL hLQ
          rw [← hLL]
          generalize wn5.alloc (.cells #[.int .i64 (-1), .int .i64 2000, .int .i64 2001] 2) = ub6 at i3 hHeld hL ⊢
          clear hLL
          clear hK K
          try simp only [Act.put, List.setIfInBounds_toArray, List.set_cons_zero, List.set_cons_succ]
          refine wpAnyH_take (i := 5) (oi := { dst := some 25, op := Op.indexAddr 23 (Operand.tmp 22) (Operand.tmp 24), type := 0, pos := "l04_gram.go:173", after := #[{ on := 2, ground := Ground.data }, { on := 4, ground := Ground.data }, { on := 8, ground := Ground.gcOnly Departure.lateStores }], guard := none }) (v := ?_) rfl (by kernel_rfl) (by kernel_rfl) (by kernel_rfl) (fun _ _ _ h => h) (Or.inl ⟨by rfl, ?_⟩) hHeld ?_
          rotate_left
          · rintro w ⟨z0, z1, z2⟩; go_simp; try with_reducible rfl
          try simp only [Act.put, List.setIfInBounds_toArray, List.set_cons_zero, List.set_cons_succ]
          refine wpAnyH_ready (rs := [6, 7]) (by kernel_rfl) (by simp) ?_
          refine AllReadyH.cons rfl (fun K hK => ?_) (AllReadyH.cons rfl (fun K hK => ?_) AllReadyH.nil)
          · skip
            obtain ⟨x, hx⟩ := hL m hm
            go_simp
            refine hK.out _ _ hHeld (fun hHeld => ?_)
            clear hx
            clear hK K
            try simp only [Act.put, List.setIfInBounds_toArray, List.set_cons_zero, List.set_cons_succ]
            refine wpAnyH_ready (rs := [7]) (by kernel_rfl) (by simp) ?_
            refine AllReadyH.cons rfl (fun K hK => ?_) AllReadyH.nil
            obtain ⟨⟨x0, x1, x2⟩, ⟨r0, r1, r2⟩, f0, f1, f2⟩ := i3.cells
            have nq : ¬ w.heap.size = Q := by have := i3.lt; have := i3.lt0; omega
            have nq' : ¬ Q = w.heap.size := by have := i3.lt; have := i3.lt0; omega
            go_simp
            replace hL := hL.set3 (x := .int .i64 e) (y := .int .i64 t) (z := .slice p np cp) (q := w.heap.size) (by have := hLQ; have := i3.lt; have := i3.lt0; omega)
            replace i3 := i3.put
            refine hK.out _ _ i3.cells' (fun hHeld => ?_)
            clear x0 x1 x2 r0 r1 r2 f0 f1 f2 nq nq'
            generalize ((ub6.setCell ⟨w.heap.size, 0, none⟩ (.int .i64 e)).setCell ⟨w.heap.size, 1, none⟩ (.int .i64 t)).setCell ⟨w.heap.size, 2, none⟩ (.slice p np cp) = us7 at i3 hHeld hL ⊢
            clear hK K
            try simp only [Act.put, List.setIfInBounds_toArray, List.set_cons_zero, List.set_cons_succ]
            refine wpAnyH_take (i := 8) (oi := { dst := some 3, op := Op.assign (Operand.tmp 21), type := 2, pos := "l04_gram.go:173", after := #[{ on := 1, ground := Ground.data }, { on := 7, ground := Ground.chain }, { on := 0, ground := Ground.phase }, { on := 1, ground := Ground.phase }, { on := 2, ground := Ground.textOnly Departure.lateStores }, { on := 3, ground := Ground.textOnly Departure.lateStores }, { on := 4, ground := Ground.textOnly Departure.lateStoresUnsure }, { on := 5, ground := Ground.textOnly Departure.lateStores }, { on := 6, ground := Ground.textOnly Departure.lateStores }, { on := 7, ground := Ground.phase }], guard := none }) (v := ?_) rfl (by kernel_rfl) (by kernel_rfl) (by kernel_rfl) (fun _ _ _ h => h) (Or.inl ⟨by rfl, ?_⟩) hHeld ?_
            rotate_left
            · rintro w ⟨z0, z1, z2⟩; go_simp; try with_reducible rfl
            try simp only [Act.put, List.setIfInBounds_toArray, List.set_cons_zero, List.set_cons_succ]
            refine wpAnyH_take (i := 9) (oi := { dst := some 4, op := Op.assign (Operand.tmp 26), type := 2, pos := "l04_gram.go:173", after := #[{ on := 6, ground := Ground.data }, { on := 8, ground := Ground.chain }, { on := 0, ground := Ground.phase }, { on := 1, ground := Ground.phase }, { on := 2, ground := Ground.phase }, { on := 3, ground := Ground.phase }, { on := 4, ground := Ground.phase }, { on := 5, ground := Ground.phase }, { on := 6, ground := Ground.phase }, { on := 7, ground := Ground.phase }, { on := 8, ground := Ground.phase }], guard := none }) (v := ?_) rfl (by kernel_rfl) (by kernel_rfl) (by kernel_rfl) (fun _ _ _ h => h) (Or.inl ⟨by rfl, ?_⟩) hHeld ?_
            rotate_left
            · rintro w ⟨z0, z1, z2⟩; go_simp; try with_reducible rfl
            try simp only [Act.put, List.setIfInBounds_toArray, List.set_cons_zero, List.set_cons_succ]
            refine wpAnyH_done (by kernel_rfl) ?_ _
            refine NoPanic.normal ?_
            have hres := i3.res
            have HB : Hid (Below w.heap.size w us7) := i3.below
            have HO : Hid ((us7).ownsRow w.heap.size 2 1 (.slice p np cp) s.length (s.map (Value.int .i64))) := row_le i3.row (by have := i3.lt0; omega)
            clear i3 hHeld hL
            go_wp2
            exact bodyPost_ret (results_ctt Tryd.results4 _ _ w.heap.size _ _ _ rfl rfl rfl hres rfl) rfl ⟨_, _, _, s, _, _, rfl, hs, HO.out, HB.out⟩
          · skip
            obtain ⟨⟨x0, x1, x2⟩, ⟨r0, r1, r2⟩, f0, f1, f2⟩ := i3.cells
            have nq : ¬ w.heap.size = Q := by have := i3.lt; have := i3.lt0; omega
            have nq' : ¬ Q = w.heap.size := by have := i3.lt; have := i3.lt0; omega
            go_simp
            replace hL := hL.set3 (x := .int .i64 e) (y := .int .i64 t) (z := .slice p np cp) (q := w.heap.size) (by have := hLQ; have := i3.lt; have := i3.lt0; omega)
            replace i3 := i3.put
            refine hK.out _ _ i3.cells' (fun hHeld => ?_)
            clear x0 x1 x2 r0 r1 r2 f0 f1 f2 nq nq'
            generalize ((ub6.setCell ⟨w.heap.size, 0, none⟩ (.int .i64 e)).setCell ⟨w.heap.size, 1, none⟩ (.int .i64 t)).setCell ⟨w.heap.size, 2, none⟩ (.slice p np cp) = us8 at i3 hHeld hL ⊢
            clear hK K
            try simp only [Act.put, List.setIfInBounds_toArray, List.set_cons_zero, List.set_cons_succ]
            refine wpAnyH_take (i := 8) (oi := { dst := some 3, op := Op.assign (Operand.tmp 21), type := 2, pos := "l04_gram.go:173", after := #[{ on := 1, ground := Ground.data }, { on := 7, ground := Ground.chain }, { on := 0, ground := Ground.phase }, { on := 1, ground := Ground.phase }, { on := 2, ground := Ground.textOnly Departure.lateStores }, { on := 3, ground := Ground.textOnly Departure.lateStores }, { on := 4, ground := Ground.textOnly Departure.lateStoresUnsure }, { on := 5, ground := Ground.textOnly Departure.lateStores }, { on := 6, ground := Ground.textOnly Departure.lateStores }, { on := 7, ground := Ground.phase }], guard := none }) (v := ?_) rfl (by kernel_rfl) (by kernel_rfl) (by kernel_rfl) (fun _ _ _ h => h) (Or.inl ⟨by rfl, ?_⟩) hHeld ?_
            rotate_left
            · rintro w ⟨z0, z1, z2⟩; go_simp; try with_reducible rfl
            try simp only [Act.put, List.setIfInBounds_toArray, List.set_cons_zero, List.set_cons_succ]
            refine wpAnyH_ready (rs := [6]) (by kernel_rfl) (by simp) ?_
            refine AllReadyH.cons rfl (fun K hK => ?_) AllReadyH.nil
            obtain ⟨x, hx⟩ := hL m hm
            go_simp
            refine hK.out _ _ hHeld (fun hHeld => ?_)
            clear hx
            clear hK K
            try simp only [Act.put, List.setIfInBounds_toArray, List.set_cons_zero, List.set_cons_succ]
            refine wpAnyH_take (i := 9) (oi := { dst := some 4, op := Op.assign (Operand.tmp 26), type := 2, pos := "l04_gram.go:173", after := #[{ on := 6, ground := Ground.data }, { on := 8, ground := Ground.chain }, { on := 0, ground := Ground.phase }, { on := 1, ground := Ground.phase }, { on := 2, ground := Ground.phase }, { on := 3, ground := Ground.phase }, { on := 4, ground := Ground.phase }, { on := 5, ground := Ground.phase }, { on := 6, ground := Ground.phase }, { on := 7, ground := Ground.phase }, { on := 8, ground := Ground.phase }], guard := none }) (v := ?_) rfl (by kernel_rfl) (by kernel_rfl) (by kernel_rfl) (fun _ _ _ h => h) (Or.inl ⟨by rfl, ?_⟩) hHeld ?_
            rotate_left
            · rintro w ⟨z0, z1, z2⟩; go_simp; try with_reducible rfl
            try simp only [Act.put, List.setIfInBounds_toArray, List.set_cons_zero, List.set_cons_succ]
            refine wpAnyH_done (by kernel_rfl) ?_ _
            refine NoPanic.normal ?_
            have hres := i3.res
            have HB : Hid (Below w.heap.size w us8) := i3.below
            have HO : Hid ((us8).ownsRow w.heap.size 2 1 (.slice p np cp) s.length (s.map (Value.int .i64))) := row_le i3.row (by have := i3.lt0; omega)
            clear i3 hHeld hL
            go_wp2
            exact bodyPost_ret (results_ctt Tryd.results4 _ _ w.heap.size _ _ _ rfl rfl rfl hres rfl) rfl ⟨_, _, _, s, _, _, rfl, hs, HO.out, HB.out⟩
        · skip
          obtain ⟨⟨x0, x1, x2⟩, ⟨r0, r1, r2⟩, f0, f1, f2⟩ := i3.cells
          have nq : ¬ w.heap.size = Q := by have := i3.lt; have := i3.lt0; omega
          have nq' : ¬ Q = w.heap.size := by have := i3.lt; have := i3.lt0; omega
          go_simp
          replace i3 := i3.put
          refine hK.out _ _ i3.cells' (fun hHeld => ?_)
          clear x0 x1 x2 r0 r1 r2 f0 f1 f2 nq nq'
          generalize ((wn5.setCell ⟨w.heap.size, 0, none⟩ (.int .i64 e)).setCell ⟨w.heap.size, 1, none⟩ (.int .i64 t)).setCell ⟨w.heap.size, 2, none⟩ (.slice p np cp) = us9 at i3 hHeld ⊢
          clear hK K
          try simp only [Act.put, List.setIfInBounds_toArray, List.set_cons_zero, List.set_cons_succ]
          refine wpAnyH_take (i := 8) (oi := { dst := some 3, op := Op.assign (Operand.tmp 21), type := 2, pos := "l04_gram.go:173", after := #[{ on := 1, ground := Ground.data }, { on := 7, ground := Ground.chain }, { on := 0, ground := Ground.phase }, { on := 1, ground := Ground.phase }, { on := 2, ground := Ground.textOnly Departure.lateStores }, { on := 3, ground := Ground.textOnly Departure.lateStores }, { on := 4, ground := Ground.textOnly Departure.lateStoresUnsure }, { on := 5, ground := Ground.textOnly Departure.lateStores }, { on := 6, ground := Ground.textOnly Departure.lateStores }, { on := 7, ground := Ground.phase }], guard := none }) (v := ?_) rfl (by kernel_rfl) (by kernel_rfl) (by kernel_rfl) (fun _ _ _ h => h) (Or.inl ⟨by rfl, ?_⟩) hHeld ?_
          rotate_left
          · rintro w ⟨z0, z1, z2⟩; go_simp; try with_reducible rfl
          try simp only [Act.put, List.setIfInBounds_toArray, List.set_cons_zero, List.set_cons_succ]
          refine wpAnyH_ready (rs := [2]) (by kernel_rfl) (by simp) ?_
          refine AllReadyH.cons rfl (fun K hK => ?_) AllReadyH.nil
          go_simp
          have hLQ : Q < us9.heap.size := row_lt i3.win
          have hL := list3_new us9 (-1) 2000 2001
          replace i3 := i3.up ((Below.refl us9.heap.size us9).alloc (Nat.le_refl _) (.cells #[.int .i64 (-1), .int .i64 2000, .int .i64 2001] 2))
          refine hK.out _ _ i3.cells' (fun hHeld => ?_)
          obtain ⟨L, hLL⟩ : ∃ L, L = us9.heap.size := ⟨_, rfl⟩
          rw [← hLL] at hL hLQ
          rw [← hLL]
          generalize us9.alloc (.cells #[.int .i64 (-1), .int .i64 2000, .int .i64 2001] 2) = ub10 at i3 hHeld hL ⊢
          clear hLL
          clear hK K
          try simp only [Act.put, List.setIfInBounds_toArray, List.set_cons_zero, List.set_cons_succ]
          refine wpAnyH_take (i := 5) (oi := { dst := some 25, op := Op.indexAddr 23 (Operand.tmp 22) (Operand.tmp 24), type := 0, pos := "l04_gram.go:173", after := #[{ on := 2, ground := Ground.data }, { on := 4, ground := Ground.data }, { on := 8, ground := Ground.gcOnly Departure.lateStores }], guard := none }) (v := ?_) rfl (by kernel_rfl) (by kernel_rfl) (by kernel_rfl) (fun _ _ _ h => h) (Or.inl ⟨by rfl, ?_⟩) hHeld ?_
          rotate_left
          · rintro w ⟨z0, z1, z2⟩; go_simp; try with_reducible rfl
          try simp only [Act.put, List.setIfInBounds_toArray, List.set_cons_zero, List.set_cons_succ]
          refine wpAnyH_ready (rs := [6]) (by kernel_rfl) (by simp) ?_
          refine AllReadyH.cons rfl (fun K hK => ?_) AllReadyH.nil
          obtain ⟨x, hx⟩ := hL m hm
          go_simp
          refine hK.out _ _ hHeld (fun hHeld => ?_)
          clear hx
          clear hK K
          try simp only [Act.put, List.setIfInBounds_toArray, List.set_cons_zero, List.set_cons_succ]
          refine wpAnyH_take (i := 9) (oi := { dst := some 4, op := Op.assign (Operand.tmp 26), type := 2, pos := "l04_gram.go:173", after := #[{ on := 6, ground := Ground.data }, { on := 8, ground := Ground.chain }, { on := 0, ground := Ground.phase }, { on := 1, ground := Ground.phase }, { on := 2, ground := Ground.phase }, { on := 3, ground := Ground.phase }, { on := 4, ground := Ground.phase }, { on := 5, ground := Ground.phase }, { on := 6, ground := Ground.phase }, { on := 7, ground := Ground.phase }, { on := 8, ground := Ground.phase }], guard := none }) (v := ?_) rfl (by kernel_rfl) (by kernel_rfl) (by kernel_rfl) (fun _ _ _ h => h) (Or.inl ⟨by rfl, ?_⟩) hHeld ?_
          rotate_left
          · rintro w ⟨z0, z1, z2⟩; go_simp; try with_reducible rfl
          try simp only [Act.put, List.setIfInBounds_toArray, List.set_cons_zero, List.set_cons_succ]
          refine wpAnyH_done (by kernel_rfl) ?_ _
          refine NoPanic.normal ?_
          have hres := i3.res
          have HB : Hid (Below w.heap.size w ub10) := i3.below
          have HO : Hid ((ub10).ownsRow w.heap.size 2 1 (.slice p np cp) s.length (s.map (Value.int .i64))) := row_le i3.row (by have := i3.lt0; omega)
          clear i3 hHeld hL
          go_wp2
          exact bodyPost_ret (results_ctt Tryd.results4 _ _ w.heap.size _ _ _ rfl rfl rfl hres rfl) rfl ⟨_, _, _, s, _, _, rfl, hs, HO.out, HB.out⟩
end Go.Proofs.YtodcjhckkbmikaaDoor.dn
