/-
  A drawn window, its loop: whatever the bytes, two numbers and a slice that is owned. No condition.
-/
import Derived.Test.YtodcjhckkbmikaaDoorDrawWin1
import Derived.Deep.RegionHeld3
namespace Go.Proofs.YtodcjhckkbmikaaDoor.dn
open Go.ChangeShapes Go.WideShapes Go.ChangeAt Go.RowKit
open Go.Proofs.YtodcjhckkbmikaaDoor.dr
open Go.Proofs.YtodcjhckkbmikaaDoor.wi (heap_lt wp_w calls_w infoW infoWO takeM_any takeA OutIs SliceIs row_up row_le row_shape win_cells)
set_option linter.unusedVariables false
set_option linter.unusedSimpArgs false

set_option maxRecDepth 20000 in
set_option maxHeartbeats 8000000 in
theorem window_at {w0 u : World} {a : Option Addr} {len cap : Nat} (h : At w0 a len cap u) :
    Calls Tryd.prog 11 #[.pointer (some ⟨w0.heap.size, 0, none⟩)] u fun r w' => ∃ (e t : Int) (v : Value) (s : List Int), r = .returned (.agg #[.int .i64 e, .int .i64 t, v]) ∧ s.length ≤ 1000001 ∧ w'.ownsRow (w0.heap.size + 1) 2 1 v s.length (s.map (Value.int .i64)) ∧ At w0 a len cap w' := by
  go_enter Tryd.func11, Tryd.ntmps11
  have i0 : InDw w0 a len cap u.heap.size (u.heap.size + 1) 0 (-1) (.slice none 0 0) [] ((u.alloc (.cells #[.int .i64 0, .int .i64 0, .slice none 0 0] 25)).alloc (.cells #[.int .i64 0, .int .i64 (-1), .slice none 0 0] 25)) :=
    ⟨At.alloc (At.alloc h _) _, (Below.heap_alloc _ _ _ (by simp)).trans (heap_alloc_new _ _), by simpa using heap_alloc_new (u.alloc (.cells #[.int .i64 0, .int .i64 0, .slice none 0 0] 25)) (.cells #[.int .i64 0, .int .i64 (-1), .slice none 0 0] 25), ⟨rfl, .inl ⟨rfl, rfl⟩⟩, h.1.lt, by omega, by simp⟩
  go_wp2_with fail
  obtain ⟨R, hR⟩ : ∃ R, R = u.heap.size := ⟨_, rfl⟩
  obtain ⟨Q, hQ⟩ : ∃ Q, Q = u.heap.size + 1 := ⟨_, rfl⟩
  rw [← hQ, ← hR] at i0 ⊢
  refine calls_w (InDw w0 a len cap R Q 0 (-1) (.slice none 0 0) []) i0 ?_
  clear i0 hQ hR h
  intro u0 i0
  refine (n_g i0.at_ 14 (by omega) (by omega)).mono ?_
  rintro r w1 ⟨kz, rfl, hkz, hA, hg⟩
  have i1 := i0.next hA hg
  clear i0 hA hg
  go_wp2_with fail
  have HI1 : Hid (InDw w0 a len cap R Q 0 (-1) (.slice none 0 0) [] w1) := i1
  clear i1
  go_loopw [4] (fun kv u => ∃ (k : Nat) (e t : Int) (v : Value) (s : List Int), k ≤ 14 ∧ kv = .int .i64 k ∧ Hid (InDw w0 a len cap R Q e t v s u)) (fun kv _ => (intOf kv).toNat)
  case atStart => exact ⟨kz, _, _, _, _, by omega, rfl, HI1⟩
  case round =>
    clear HI1
    obtain ⟨k, e, t, v, s, hk, rfl, HI⟩ := hrel
    obtain ⟨p, np, cp, rfl⟩ := row_shape HI.out.row
    by_cases hk0 : 0 < k
    · have d0 : decide ((0 : Int) < (k : Int)) = true := decide_eq_true (by omega)
      go_wp2_with fail
      have i3 := HI.out.drew
      obtain ⟨⟨x0, x1, x2⟩, _⟩ := HI.out.cells
      refine wp_region_noPanic ?_
      refine wp_region_held_drew (S := fun u => u.cell? ⟨Q, 0, none⟩ = some (.int .i64 e) ∧ u.cell? ⟨Q, 1, none⟩ = some (.int .i64 t) ∧ u.cell? ⟨Q, 2, none⟩ = some (.slice p np cp)) (by kernel_rfl) ⟨x0, x1, x2⟩ (fun hHeld => ?_)
      clear HI x0 x1 x2
      generalize wr.drew = ur at i3 hHeld ⊢
      refine wpAnyH_take (i := 0) (oi := { dst := some 13, op := Op.load 25 (Operand.tmp 3), type := 25, pos := "l04_gram.go:120", after := #[], guard := none }) (v := ?_) rfl (by kernel_rfl) (by kernel_rfl) (by kernel_rfl) (fun _ _ _ h => h) (Or.inl ⟨by rfl, ?_⟩) hHeld ?_
      rotate_left
      · rintro w ⟨z0, z1, z2⟩; go_simp; try with_reducible rfl
      try simp only [Act.put, List.setIfInBounds_toArray, List.set_cons_zero, List.set_cons_succ]
      refine wpAnyH_take (i := 1) (oi := { dst := some 14, op := Op.fieldAddr 25 (Operand.tmp 3) 0, type := 0, pos := "l04_gram.go:120", after := #[], guard := none }) (v := ?_) rfl (by kernel_rfl) (by kernel_rfl) (by kernel_rfl) (fun _ _ _ h => h) (Or.inl ⟨by rfl, ?_⟩) hHeld ?_
      rotate_left
      · rintro w ⟨z0, z1, z2⟩; go_simp; try with_reducible rfl
      try simp only [Act.put, List.setIfInBounds_toArray, List.set_cons_zero, List.set_cons_succ]
      refine wpAnyH_take (i := 2) (oi := { dst := some 15, op := Op.load 2 (Operand.tmp 14), type := 2, pos := "l04_gram.go:120", after := #[{ on := 1, ground := Ground.data }], guard := none }) (v := ?_) rfl (by kernel_rfl) (by kernel_rfl) (by kernel_rfl) (fun _ _ _ h => h) (Or.inl ⟨by rfl, ?_⟩) hHeld ?_
      rotate_left
      · rintro w ⟨z0, z1, z2⟩; go_simp; try with_reducible rfl
      try simp only [Act.put, List.setIfInBounds_toArray, List.set_cons_zero, List.set_cons_succ]
      refine wpAnyH_take (i := 3) (oi := { dst := some 16, op := Op.fieldAddr 25 (Operand.tmp 3) 1, type := 0, pos := "l04_gram.go:120", after := #[], guard := none }) (v := ?_) rfl (by kernel_rfl) (by kernel_rfl) (by kernel_rfl) (fun _ _ _ h => h) (Or.inl ⟨by rfl, ?_⟩) hHeld ?_
      rotate_left
      · rintro w ⟨z0, z1, z2⟩; go_simp; try with_reducible rfl
      try simp only [Act.put, List.setIfInBounds_toArray, List.set_cons_zero, List.set_cons_succ]
      refine wpAnyH_take (i := 4) (oi := { dst := some 17, op := Op.load 2 (Operand.tmp 16), type := 2, pos := "l04_gram.go:120", after := #[{ on := 3, ground := Ground.data }], guard := none }) (v := ?_) rfl (by kernel_rfl) (by kernel_rfl) (by kernel_rfl) (fun _ _ _ h => h) (Or.inl ⟨by rfl, ?_⟩) hHeld ?_
      rotate_left
      · rintro w ⟨z0, z1, z2⟩; go_simp; try with_reducible rfl
      try simp only [Act.put, List.setIfInBounds_toArray, List.set_cons_zero, List.set_cons_succ]
      refine wpAnyH_take (i := 5) (oi := { dst := some 18, op := Op.binOp BinOp.sub 2 (Operand.tmp 17) (Operand.const (Value.int IntKind.i64 8)) 2, type := 2, pos := "l04_gram.go:120", after := #[{ on := 4, ground := Ground.data }], guard := none }) (v := ?_) rfl (by kernel_rfl) (by kernel_rfl) (by kernel_rfl) (fun _ _ _ h => h) (Or.inl ⟨by rfl, ?_⟩) hHeld ?_
      rotate_left
      · rintro w ⟨z0, z1, z2⟩; go_simp; try with_reducible rfl
      try simp only [Act.put, List.setIfInBounds_toArray, List.set_cons_zero, List.set_cons_succ]
      refine wpAnyH_take (i := 7) (oi := { dst := some 20, op := Op.move (Operand.tmp 0), type := 34, pos := "l04_gram.go:120", after := #[], guard := none }) (v := ?_) rfl (by kernel_rfl) (by kernel_rfl) (by kernel_rfl) (fun _ _ _ h => h) (Or.inl ⟨by rfl, ?_⟩) hHeld ?_
      rotate_left
      · rintro w ⟨z0, z1, z2⟩; go_simp; try with_reducible rfl
      try simp only [Act.put, List.setIfInBounds_toArray, List.set_cons_zero, List.set_cons_succ]
      refine wpAnyH_ready (rs := [6, 11]) (by kernel_rfl) (by simp) ?_
      refine AllReadyH.cons rfl (fun K hK => ?_) (AllReadyH.cons rfl (fun K hK => ?_) AllReadyH.nil)
      · skip
        go_simp
        go_at_call 14
        refine (wi.maxM_max _ _ _).mono ?_
        rintro r w' ⟨rfl, hw'⟩
        obtain rfl := hw'.symm
        go_wp2_with fail
        refine hK.out _ _ hHeld (fun hHeld => ?_)
        clear hK K
        try simp only [Act.put, List.setIfInBounds_toArray, List.set_cons_zero, List.set_cons_succ]
        refine wpAnyH_ready (rs := [8, 11]) (by kernel_rfl) (by simp) ?_
        refine AllReadyH.cons rfl (fun K hK => ?_) (AllReadyH.cons rfl (fun K hK => ?_) AllReadyH.nil)
        · skip
          go_simp
          go_at_call 13
          refine (n_g i3.at_ 14 (by omega) (by omega)).mono ?_
          rintro r w3 ⟨m3, rfl, hm3, hA, hg⟩
          replace i3 := i3.next hA hg
          go_wp2_with fail
          refine hK.out _ _ i3.cells.1 (fun hHeld => ?_)
          clear hA hg
          clear hK K
          try simp only [Act.put, List.setIfInBounds_toArray, List.set_cons_zero, List.set_cons_succ]
          refine wpAnyH_take (i := 9) (oi := { dst := some 22, op := Op.binOp BinOp.add 2 (Operand.tmp 19) (Operand.tmp 21) 2, type := 2, pos := "l04_gram.go:120", after := #[{ on := 6, ground := Ground.data }, { on := 8, ground := Ground.data }], guard := none }) (v := ?_) rfl (by kernel_rfl) (by kernel_rfl) (by kernel_rfl) (fun _ _ _ h => h) (Or.inl ⟨by rfl, ?_⟩) hHeld ?_
          rotate_left
          · rintro w ⟨z0, z1, z2⟩; go_simp; try with_reducible rfl
          try simp only [Act.put, List.setIfInBounds_toArray, List.set_cons_zero, List.set_cons_succ]
          refine wpAnyH_ready (rs := [10, 11]) (by kernel_rfl) (by simp) ?_
          refine AllReadyH.cons rfl (fun K hK => ?_) (AllReadyH.cons rfl (fun K hK => ?_) AllReadyH.nil)
          · skip
            go_simp
            go_at_call 7
            refine (take_any e t (.slice p np cp) s _ _ _ i3.short' (own_slice i3.row)).mono ?_
            rintro r w4 ⟨hb, e2, t2, p2, n2, cp2, s2, c2, rfl, hlen2, hrow2⟩
            replace hrow2 := row_le hrow2 i3.base_le
            replace i3 := i3.up hb
            go_wp2_with fail
            refine hK.out _ _ i3.cells.1 (fun hHeld => ?_)
            clear hb
            clear hK K
            try simp only [Act.put, List.setIfInBounds_toArray, List.set_cons_zero, List.set_cons_succ]
            refine wpAnyH_ready (rs := [11]) (by kernel_rfl) (by simp) ?_
            refine AllReadyH.cons rfl (fun K hK => ?_) AllReadyH.nil
            go_simp
            have j3 := InDz.start i3
            refine hK.out _ _ j3.base.cells.1 (fun hHeld => ?_)
            clear hK K
            try simp only [Act.put, List.setIfInBounds_toArray, List.set_cons_zero, List.set_cons_succ]
            replace hrow2 := row_up hrow2 ((Below.refl w4.heap.size w4).alloc (Nat.le_refl _) (.cells #[.int .i64 0, .int .i64 0, .slice none 0 0, .int .i64 0] 29))
            obtain ⟨y, hy⟩ : ∃ y, y = w4.heap.size := ⟨_, rfl⟩
            rw [← hy] at j3 ⊢
            generalize w4.alloc (.cells #[.int .i64 0, .int .i64 0, .slice none 0 0, .int .i64 0] 29) = ua at j3 hHeld hrow2 ⊢
            clear hy i3
            refine wpAnyH_ready (rs := [12]) (by kernel_rfl) (by simp) ?_
            refine AllReadyH.cons rfl (fun K hK => ?_) AllReadyH.nil
            obtain ⟨⟨y0, y1, y2, y3⟩, f0, f1, f2, f3⟩ := j3.cells
            have nq : ¬ y = Q := by have := j3.lt; omega
            have nq' : ¬ Q = y := by have := j3.lt; omega
            go_simp
            have j4 := j3.put (e3 := e2) (t3 := t2) (c3 := c2) hrow2 hlen2
            refine hK.out _ _ j4.base.cells.1 (fun _ => ?_)
            clear hK K j3 hHeld y0 y1 y2 y3 f0 f1 f2 f3 hrow2
            try simp only [Act.put, List.setIfInBounds_toArray, List.set_cons_zero, List.set_cons_succ]
            refine wpAnyH_done (by kernel_rfl) ?_ _
            refine NoPanic.normal ?_
            generalize (((ua.setCell ⟨y, 0, none⟩ (.int .i64 e2)).setCell ⟨y, 1, none⟩ (.int .i64 t2)).setCell ⟨y, 2, none⟩ (.slice p2 n2 cp2)).setCell ⟨y, 3, none⟩ (.int .i64 c2) = uz at j4 ⊢
            go_wp2_with (go_at_call 12; fail)
            refine (one_g j4.base.at_ 20 (by omega) (by omega)).mono ?_
            rintro r uy ⟨vb, rfl, hA, hg⟩
            replace j4 := j4.next hA hg
            clear hA hg
            generalize uy = uz at j4 ⊢
            cases vb
            · skip
              obtain ⟨⟨y0, y1, y2, y3⟩, f0, f1, f2, f3⟩ := j4.cells
              obtain ⟨⟨d0, d1, d2⟩, g0, g1, g2⟩ := j4.base.cells
              by_cases hc : c2 = 0
              · have hq : (c2 == 0) = true := by simp [hc]
                have HI5 : Hid (InDw w0 a len cap R Q e2 t2 (.slice p2 n2 cp2) s2 (((uz.setCell ⟨Q, 0, none⟩ (.int .i64 e2)).setCell ⟨Q, 1, none⟩ (.int .i64 t2)).setCell ⟨Q, 2, none⟩ (.slice p2 n2 cp2))) := j4.take
                clear j4 hc
                go_wp2
                exact ⟨⟨k - 1, _, _, _, _, by omega, knum hk0, HI5⟩, by simp [intOf]; omega⟩
              · have hq : (c2 == 0) = false := by simp [hc]
                have HI5 : Hid (InDw w0 a len cap R Q e t (.slice p np cp) s uz) := j4.base
                clear j4 hc
                go_wp2
                exact ⟨⟨k - 1, _, _, _, _, by omega, knum hk0, HI5⟩, by simp [intOf]; omega⟩
            · go_wp2_with fail
              have j3 := j4.drew
              obtain ⟨⟨d0, d1, d2⟩, _⟩ := j4.base.cells
              refine wp_region_noPanic ?_
              refine wp_region_held_drew (S := fun u => u.cell? ⟨Q, 0, none⟩ = some (.int .i64 e) ∧ u.cell? ⟨Q, 1, none⟩ = some (.int .i64 t) ∧ u.cell? ⟨Q, 2, none⟩ = some (.slice p np cp)) (by kernel_rfl) ⟨d0, d1, d2⟩ (fun hHeld => ?_)
              clear j4 d0 d1 d2 hlen2
              generalize uz.drew = ur at j3 hHeld ⊢
              refine wpAnyH_take (i := 0) (oi := { dst := some 26, op := Op.load 25 (Operand.tmp 3), type := 25, pos := "l04_gram.go:122", after := #[], guard := none }) (v := ?_) rfl (by kernel_rfl) (by kernel_rfl) (by kernel_rfl) (fun _ _ _ h => h) (Or.inl ⟨by rfl, ?_⟩) hHeld ?_
              rotate_left
              · rintro w ⟨z0, z1, z2⟩; go_simp; try with_reducible rfl
              try simp only [Act.put, List.setIfInBounds_toArray, List.set_cons_zero, List.set_cons_succ]
              refine wpAnyH_take (i := 1) (oi := { dst := some 27, op := Op.fieldAddr 25 (Operand.tmp 3) 0, type := 0, pos := "l04_gram.go:122", after := #[], guard := none }) (v := ?_) rfl (by kernel_rfl) (by kernel_rfl) (by kernel_rfl) (fun _ _ _ h => h) (Or.inl ⟨by rfl, ?_⟩) hHeld ?_
              rotate_left
              · rintro w ⟨z0, z1, z2⟩; go_simp; try with_reducible rfl
              try simp only [Act.put, List.setIfInBounds_toArray, List.set_cons_zero, List.set_cons_succ]
              refine wpAnyH_take (i := 2) (oi := { dst := some 28, op := Op.load 2 (Operand.tmp 27), type := 2, pos := "l04_gram.go:122", after := #[{ on := 1, ground := Ground.data }], guard := none }) (v := ?_) rfl (by kernel_rfl) (by kernel_rfl) (by kernel_rfl) (fun _ _ _ h => h) (Or.inl ⟨by rfl, ?_⟩) hHeld ?_
              rotate_left
              · rintro w ⟨z0, z1, z2⟩; go_simp; try with_reducible rfl
              try simp only [Act.put, List.setIfInBounds_toArray, List.set_cons_zero, List.set_cons_succ]
              refine wpAnyH_take (i := 3) (oi := { dst := some 29, op := Op.binOp BinOp.add 2 (Operand.tmp 28) (Operand.const (Value.int IntKind.i64 1)) 2, type := 2, pos := "l04_gram.go:122", after := #[{ on := 2, ground := Ground.data }], guard := none }) (v := ?_) rfl (by kernel_rfl) (by kernel_rfl) (by kernel_rfl) (fun _ _ _ h => h) (Or.inl ⟨by rfl, ?_⟩) hHeld ?_
              rotate_left
              · rintro w ⟨z0, z1, z2⟩; go_simp; try with_reducible rfl
              try simp only [Act.put, List.setIfInBounds_toArray, List.set_cons_zero, List.set_cons_succ]
              refine wpAnyH_take (i := 4) (oi := { dst := some 30, op := Op.move (Operand.tmp 0), type := 34, pos := "l04_gram.go:122", after := #[], guard := none }) (v := ?_) rfl (by kernel_rfl) (by kernel_rfl) (by kernel_rfl) (fun _ _ _ h => h) (Or.inl ⟨by rfl, ?_⟩) hHeld ?_
              rotate_left
              · rintro w ⟨z0, z1, z2⟩; go_simp; try with_reducible rfl
              try simp only [Act.put, List.setIfInBounds_toArray, List.set_cons_zero, List.set_cons_succ]
              refine wpAnyH_ready (rs := [5]) (by kernel_rfl) (by simp) ?_
              refine AllReadyH.cons rfl (fun K hK => ?_) AllReadyH.nil
              go_simp
              go_at_call 13
              refine (n_g j3.base.at_ 9 (by omega) (by omega)).mono ?_
              rintro r w5 ⟨m5, rfl, hm5, hA, hg⟩
              replace j3 := j3.next hA hg
              go_wp2_with fail
              refine hK.out _ _ j3.base.cells.1 (fun hHeld => ?_)
              clear hA hg
              clear hK K
              try simp only [Act.put, List.setIfInBounds_toArray, List.set_cons_zero, List.set_cons_succ]
              refine wpAnyH_ready (rs := [6]) (by kernel_rfl) (by simp) ?_
              refine AllReadyH.cons rfl (fun K hK => ?_) AllReadyH.nil
              go_simp
              go_at_call 7
              refine (take_any e t (.slice p np cp) s _ _ _ j3.base.short' (own_slice j3.base.row)).mono ?_
              rintro r w6 ⟨hb, e2, t2, p2, n2, cp2, s2, c2, rfl, hlen2, hrow2⟩
              replace hrow2 := row_le hrow2 j3.base.base_le
              replace j3 := j3.up hb
              go_wp2_with fail
              refine hK.out _ _ j3.base.cells.1 (fun hHeld => ?_)
              clear hb
              clear hK K
              try simp only [Act.put, List.setIfInBounds_toArray, List.set_cons_zero, List.set_cons_succ]
              refine wpAnyH_ready (rs := [7]) (by kernel_rfl) (by simp) ?_
              refine AllReadyH.cons rfl (fun K hK => ?_) AllReadyH.nil
              obtain ⟨⟨y0, y1, y2, y3⟩, f0, f1, f2, f3⟩ := j3.cells
              have nq : ¬ y = Q := by have := j3.lt; omega
              have nq' : ¬ Q = y := by have := j3.lt; omega
              go_simp
              have j4 := j3.put (e3 := e2) (t3 := t2) (c3 := c2) hrow2 hlen2
              refine hK.out _ _ j4.base.cells.1 (fun _ => ?_)
              clear hK K j3 hHeld y0 y1 y2 y3 f0 f1 f2 f3 hrow2
              try simp only [Act.put, List.setIfInBounds_toArray, List.set_cons_zero, List.set_cons_succ]
              refine wpAnyH_done (by kernel_rfl) ?_ _
              refine NoPanic.normal ?_
              generalize (((w6.setCell ⟨y, 0, none⟩ (.int .i64 e2)).setCell ⟨y, 1, none⟩ (.int .i64 t2)).setCell ⟨y, 2, none⟩ (.slice p2 n2 cp2)).setCell ⟨y, 3, none⟩ (.int .i64 c2) = uz at j4 ⊢
              obtain ⟨⟨y0, y1, y2, y3⟩, f0, f1, f2, f3⟩ := j4.cells
              obtain ⟨⟨d0, d1, d2⟩, g0, g1, g2⟩ := j4.base.cells
              by_cases hc : c2 = 0
              · have hq : (c2 == 0) = true := by simp [hc]
                have HI5 : Hid (InDw w0 a len cap R Q e2 t2 (.slice p2 n2 cp2) s2 (((uz.setCell ⟨Q, 0, none⟩ (.int .i64 e2)).setCell ⟨Q, 1, none⟩ (.int .i64 t2)).setCell ⟨Q, 2, none⟩ (.slice p2 n2 cp2))) := j4.take
                clear j4 hc
                go_wp2
                exact ⟨⟨k - 1, _, _, _, _, by omega, knum hk0, HI5⟩, by simp [intOf]; omega⟩
              · have hq : (c2 == 0) = false := by simp [hc]
                have HI5 : Hid (InDw w0 a len cap R Q e t (.slice p np cp) s uz) := j4.base
                clear j4 hc
                go_wp2
                exact ⟨⟨k - 1, _, _, _, _, by omega, knum hk0, HI5⟩, by simp [intOf]; omega⟩
          · skip
            go_simp
            have j3 := InDz.start i3
            refine hK.out _ _ j3.base.cells.1 (fun hHeld => ?_)
            clear hK K
            try simp only [Act.put, List.setIfInBounds_toArray, List.set_cons_zero, List.set_cons_succ]
            obtain ⟨y, hy⟩ : ∃ y, y = w3.heap.size := ⟨_, rfl⟩
            rw [← hy] at j3 ⊢
            generalize w3.alloc (.cells #[.int .i64 0, .int .i64 0, .slice none 0 0, .int .i64 0] 29) = ua at j3 hHeld ⊢
            clear hy i3
            refine wpAnyH_ready (rs := [10]) (by kernel_rfl) (by simp) ?_
            refine AllReadyH.cons rfl (fun K hK => ?_) AllReadyH.nil
            go_simp
            go_at_call 7
            refine (take_any e t (.slice p np cp) s _ _ _ j3.base.short' (own_slice j3.base.row)).mono ?_
            rintro r w7 ⟨hb, e2, t2, p2, n2, cp2, s2, c2, rfl, hlen2, hrow2⟩
            replace hrow2 := row_le hrow2 j3.base.base_le
            replace j3 := j3.up hb
            go_wp2_with fail
            refine hK.out _ _ j3.base.cells.1 (fun hHeld => ?_)
            clear hb
            clear hK K
            try simp only [Act.put, List.setIfInBounds_toArray, List.set_cons_zero, List.set_cons_succ]
            refine wpAnyH_ready (rs := [12]) (by kernel_rfl) (by simp) ?_
            refine AllReadyH.cons rfl (fun K hK => ?_) AllReadyH.nil
            obtain ⟨⟨y0, y1, y2, y3⟩, f0, f1, f2, f3⟩ := j3.cells
            have nq : ¬ y = Q := by have := j3.lt; omega
            have nq' : ¬ Q = y := by have := j3.lt; omega
            go_simp
            have j4 := j3.put (e3 := e2) (t3 := t2) (c3 := c2) hrow2 hlen2
            refine hK.out _ _ j4.base.cells.1 (fun _ => ?_)
            clear hK K j3 hHeld y0 y1 y2 y3 f0 f1 f2 f3 hrow2
            try simp only [Act.put, List.setIfInBounds_toArray, List.set_cons_zero, List.set_cons_succ]
            refine wpAnyH_done (by kernel_rfl) ?_ _
            refine NoPanic.normal ?_
            generalize (((w7.setCell ⟨y, 0, none⟩ (.int .i64 e2)).setCell ⟨y, 1, none⟩ (.int .i64 t2)).setCell ⟨y, 2, none⟩ (.slice p2 n2 cp2)).setCell ⟨y, 3, none⟩ (.int .i64 c2) = uz at j4 ⊢
            go_wp2_with (go_at_call 12; fail)
            refine (one_g j4.base.at_ 20 (by omega) (by omega)).mono ?_
            rintro r uy ⟨vb, rfl, hA, hg⟩
            replace j4 := j4.next hA hg
            clear hA hg
            generalize uy = uz at j4 ⊢
            cases vb
            · skip
              obtain ⟨⟨y0, y1, y2, y3⟩, f0, f1, f2, f3⟩ := j4.cells
              obtain ⟨⟨d0, d1, d2⟩, g0, g1, g2⟩ := j4.base.cells
              by_cases hc : c2 = 0
              · have hq : (c2 == 0) = true := by simp [hc]
                have HI5 : Hid (InDw w0 a len cap R Q e2 t2 (.slice p2 n2 cp2) s2 (((uz.setCell ⟨Q, 0, none⟩ (.int .i64 e2)).setCell ⟨Q, 1, none⟩ (.int .i64 t2)).setCell ⟨Q, 2, none⟩ (.slice p2 n2 cp2))) := j4.take
                clear j4 hc
                go_wp2
                exact ⟨⟨k - 1, _, _, _, _, by omega, knum hk0, HI5⟩, by simp [intOf]; omega⟩
              · have hq : (c2 == 0) = false := by simp [hc]
                have HI5 : Hid (InDw w0 a len cap R Q e t (.slice p np cp) s uz) := j4.base
                clear j4 hc
                go_wp2
                exact ⟨⟨k - 1, _, _, _, _, by omega, knum hk0, HI5⟩, by simp [intOf]; omega⟩
            · go_wp2_with fail
              have j3 := j4.drew
              obtain ⟨⟨d0, d1, d2⟩, _⟩ := j4.base.cells
              refine wp_region_noPanic ?_
              refine wp_region_held_drew (S := fun u => u.cell? ⟨Q, 0, none⟩ = some (.int .i64 e) ∧ u.cell? ⟨Q, 1, none⟩ = some (.int .i64 t) ∧ u.cell? ⟨Q, 2, none⟩ = some (.slice p np cp)) (by kernel_rfl) ⟨d0, d1, d2⟩ (fun hHeld => ?_)
              clear j4 d0 d1 d2 hlen2
              generalize uz.drew = ur at j3 hHeld ⊢
              refine wpAnyH_take (i := 0) (oi := { dst := some 26, op := Op.load 25 (Operand.tmp 3), type := 25, pos := "l04_gram.go:122", after := #[], guard := none }) (v := ?_) rfl (by kernel_rfl) (by kernel_rfl) (by kernel_rfl) (fun _ _ _ h => h) (Or.inl ⟨by rfl, ?_⟩) hHeld ?_
              rotate_left
              · rintro w ⟨z0, z1, z2⟩; go_simp; try with_reducible rfl
              try simp only [Act.put, List.setIfInBounds_toArray, List.set_cons_zero, List.set_cons_succ]
              refine wpAnyH_take (i := 1) (oi := { dst := some 27, op := Op.fieldAddr 25 (Operand.tmp 3) 0, type := 0, pos := "l04_gram.go:122", after := #[], guard := none }) (v := ?_) rfl (by kernel_rfl) (by kernel_rfl) (by kernel_rfl) (fun _ _ _ h => h) (Or.inl ⟨by rfl, ?_⟩) hHeld ?_
              rotate_left
              · rintro w ⟨z0, z1, z2⟩; go_simp; try with_reducible rfl
              try simp only [Act.put, List.setIfInBounds_toArray, List.set_cons_zero, List.set_cons_succ]
              refine wpAnyH_take (i := 2) (oi := { dst := some 28, op := Op.load 2 (Operand.tmp 27), type := 2, pos := "l04_gram.go:122", after := #[{ on := 1, ground := Ground.data }], guard := none }) (v := ?_) rfl (by kernel_rfl) (by kernel_rfl) (by kernel_rfl) (fun _ _ _ h => h) (Or.inl ⟨by rfl, ?_⟩) hHeld ?_
              rotate_left
              · rintro w ⟨z0, z1, z2⟩; go_simp; try with_reducible rfl
              try simp only [Act.put, List.setIfInBounds_toArray, List.set_cons_zero, List.set_cons_succ]
              refine wpAnyH_take (i := 3) (oi := { dst := some 29, op := Op.binOp BinOp.add 2 (Operand.tmp 28) (Operand.const (Value.int IntKind.i64 1)) 2, type := 2, pos := "l04_gram.go:122", after := #[{ on := 2, ground := Ground.data }], guard := none }) (v := ?_) rfl (by kernel_rfl) (by kernel_rfl) (by kernel_rfl) (fun _ _ _ h => h) (Or.inl ⟨by rfl, ?_⟩) hHeld ?_
              rotate_left
              · rintro w ⟨z0, z1, z2⟩; go_simp; try with_reducible rfl
              try simp only [Act.put, List.setIfInBounds_toArray, List.set_cons_zero, List.set_cons_succ]
              refine wpAnyH_take (i := 4) (oi := { dst := some 30, op := Op.move (Operand.tmp 0), type := 34, pos := "l04_gram.go:122", after := #[], guard := none }) (v := ?_) rfl (by kernel_rfl) (by kernel_rfl) (by kernel_rfl) (fun _ _ _ h => h) (Or.inl ⟨by rfl, ?_⟩) hHeld ?_
              rotate_left
              · rintro w ⟨z0, z1, z2⟩; go_simp; try with_reducible rfl
              try simp only [Act.put, List.setIfInBounds_toArray, List.set_cons_zero, List.set_cons_succ]
              refine wpAnyH_ready (rs := [5]) (by kernel_rfl) (by simp) ?_
              refine AllReadyH.cons rfl (fun K hK => ?_) AllReadyH.nil
              go_simp
              go_at_call 13
              refine (n_g j3.base.at_ 9 (by omega) (by omega)).mono ?_
              rintro r w8 ⟨m8, rfl, hm8, hA, hg⟩
              replace j3 := j3.next hA hg
              go_wp2_with fail
              refine hK.out _ _ j3.base.cells.1 (fun hHeld => ?_)
              clear hA hg
              clear hK K
              try simp only [Act.put, List.setIfInBounds_toArray, List.set_cons_zero, List.set_cons_succ]
              refine wpAnyH_ready (rs := [6]) (by kernel_rfl) (by simp) ?_
              refine AllReadyH.cons rfl (fun K hK => ?_) AllReadyH.nil
              go_simp
              go_at_call 7
              refine (take_any e t (.slice p np cp) s _ _ _ j3.base.short' (own_slice j3.base.row)).mono ?_
              rintro r w9 ⟨hb, e2, t2, p2, n2, cp2, s2, c2, rfl, hlen2, hrow2⟩
              replace hrow2 := row_le hrow2 j3.base.base_le
              replace j3 := j3.up hb
              go_wp2_with fail
              refine hK.out _ _ j3.base.cells.1 (fun hHeld => ?_)
              clear hb
              clear hK K
              try simp only [Act.put, List.setIfInBounds_toArray, List.set_cons_zero, List.set_cons_succ]
              refine wpAnyH_ready (rs := [7]) (by kernel_rfl) (by simp) ?_
              refine AllReadyH.cons rfl (fun K hK => ?_) AllReadyH.nil
              obtain ⟨⟨y0, y1, y2, y3⟩, f0, f1, f2, f3⟩ := j3.cells
              have nq : ¬ y = Q := by have := j3.lt; omega
              have nq' : ¬ Q = y := by have := j3.lt; omega
              go_simp
              have j4 := j3.put (e3 := e2) (t3 := t2) (c3 := c2) hrow2 hlen2
              refine hK.out _ _ j4.base.cells.1 (fun _ => ?_)
              clear hK K j3 hHeld y0 y1 y2 y3 f0 f1 f2 f3 hrow2
              try simp only [Act.put, List.setIfInBounds_toArray, List.set_cons_zero, List.set_cons_succ]
              refine wpAnyH_done (by kernel_rfl) ?_ _
              refine NoPanic.normal ?_
              generalize (((w9.setCell ⟨y, 0, none⟩ (.int .i64 e2)).setCell ⟨y, 1, none⟩ (.int .i64 t2)).setCell ⟨y, 2, none⟩ (.slice p2 n2 cp2)).setCell ⟨y, 3, none⟩ (.int .i64 c2) = uz at j4 ⊢
              obtain ⟨⟨y0, y1, y2, y3⟩, f0, f1, f2, f3⟩ := j4.cells
              obtain ⟨⟨d0, d1, d2⟩, g0, g1, g2⟩ := j4.base.cells
              by_cases hc : c2 = 0
              · have hq : (c2 == 0) = true := by simp [hc]
                have HI5 : Hid (InDw w0 a len cap R Q e2 t2 (.slice p2 n2 cp2) s2 (((uz.setCell ⟨Q, 0, none⟩ (.int .i64 e2)).setCell ⟨Q, 1, none⟩ (.int .i64 t2)).setCell ⟨Q, 2, none⟩ (.slice p2 n2 cp2))) := j4.take
                clear j4 hc
                go_wp2
                exact ⟨⟨k - 1, _, _, _, _, by omega, knum hk0, HI5⟩, by simp [intOf]; omega⟩
              · have hq : (c2 == 0) = false := by simp [hc]
                have HI5 : Hid (InDw w0 a len cap R Q e t (.slice p np cp) s uz) := j4.base
                clear j4 hc
                go_wp2
                exact ⟨⟨k - 1, _, _, _, _, by omega, knum hk0, HI5⟩, by simp [intOf]; omega⟩
        · skip
          go_simp
          have j3 := InDz.start i3
          refine hK.out _ _ j3.base.cells.1 (fun hHeld => ?_)
          clear hK K
          try simp only [Act.put, List.setIfInBounds_toArray, List.set_cons_zero, List.set_cons_succ]
          obtain ⟨y, hy⟩ : ∃ y, y = ur.heap.size := ⟨_, rfl⟩
          rw [← hy] at j3 ⊢
          generalize ur.alloc (.cells #[.int .i64 0, .int .i64 0, .slice none 0 0, .int .i64 0] 29) = ua at j3 hHeld ⊢
          clear hy i3
          refine wpAnyH_ready (rs := [8]) (by kernel_rfl) (by simp) ?_
          refine AllReadyH.cons rfl (fun K hK => ?_) AllReadyH.nil
          go_simp
          go_at_call 13
          refine (n_g j3.base.at_ 14 (by omega) (by omega)).mono ?_
          rintro r w10 ⟨m10, rfl, hm10, hA, hg⟩
          replace j3 := j3.next hA hg
          go_wp2_with fail
          refine hK.out _ _ j3.base.cells.1 (fun hHeld => ?_)
          clear hA hg
          clear hK K
          try simp only [Act.put, List.setIfInBounds_toArray, List.set_cons_zero, List.set_cons_succ]
          refine wpAnyH_take (i := 9) (oi := { dst := some 22, op := Op.binOp BinOp.add 2 (Operand.tmp 19) (Operand.tmp 21) 2, type := 2, pos := "l04_gram.go:120", after := #[{ on := 6, ground := Ground.data }, { on := 8, ground := Ground.data }], guard := none }) (v := ?_) rfl (by kernel_rfl) (by kernel_rfl) (by kernel_rfl) (fun _ _ _ h => h) (Or.inl ⟨by rfl, ?_⟩) hHeld ?_
          rotate_left
          · rintro w ⟨z0, z1, z2⟩; go_simp; try with_reducible rfl
          try simp only [Act.put, List.setIfInBounds_toArray, List.set_cons_zero, List.set_cons_succ]
          refine wpAnyH_ready (rs := [10]) (by kernel_rfl) (by simp) ?_
          refine AllReadyH.cons rfl (fun K hK => ?_) AllReadyH.nil
          go_simp
          go_at_call 7
          refine (take_any e t (.slice p np cp) s _ _ _ j3.base.short' (own_slice j3.base.row)).mono ?_
          rintro r w11 ⟨hb, e2, t2, p2, n2, cp2, s2, c2, rfl, hlen2, hrow2⟩
          replace hrow2 := row_le hrow2 j3.base.base_le
          replace j3 := j3.up hb
          go_wp2_with fail
          refine hK.out _ _ j3.base.cells.1 (fun hHeld => ?_)
          clear hb
          clear hK K
          try simp only [Act.put, List.setIfInBounds_toArray, List.set_cons_zero, List.set_cons_succ]
          refine wpAnyH_ready (rs := [12]) (by kernel_rfl) (by simp) ?_
          refine AllReadyH.cons rfl (fun K hK => ?_) AllReadyH.nil
          obtain ⟨⟨y0, y1, y2, y3⟩, f0, f1, f2, f3⟩ := j3.cells
          have nq : ¬ y = Q := by have := j3.lt; omega
          have nq' : ¬ Q = y := by have := j3.lt; omega
          go_simp
          have j4 := j3.put (e3 := e2) (t3 := t2) (c3 := c2) hrow2 hlen2
          refine hK.out _ _ j4.base.cells.1 (fun _ => ?_)
          clear hK K j3 hHeld y0 y1 y2 y3 f0 f1 f2 f3 hrow2
          try simp only [Act.put, List.setIfInBounds_toArray, List.set_cons_zero, List.set_cons_succ]
          refine wpAnyH_done (by kernel_rfl) ?_ _
          refine NoPanic.normal ?_
          generalize (((w11.setCell ⟨y, 0, none⟩ (.int .i64 e2)).setCell ⟨y, 1, none⟩ (.int .i64 t2)).setCell ⟨y, 2, none⟩ (.slice p2 n2 cp2)).setCell ⟨y, 3, none⟩ (.int .i64 c2) = uz at j4 ⊢
          go_wp2_with (go_at_call 12; fail)
          refine (one_g j4.base.at_ 20 (by omega) (by omega)).mono ?_
          rintro r uy ⟨vb, rfl, hA, hg⟩
          replace j4 := j4.next hA hg
          clear hA hg
          generalize uy = uz at j4 ⊢
          cases vb
          · skip
            obtain ⟨⟨y0, y1, y2, y3⟩, f0, f1, f2, f3⟩ := j4.cells
            obtain ⟨⟨d0, d1, d2⟩, g0, g1, g2⟩ := j4.base.cells
            by_cases hc : c2 = 0
            · have hq : (c2 == 0) = true := by simp [hc]
              have HI5 : Hid (InDw w0 a len cap R Q e2 t2 (.slice p2 n2 cp2) s2 (((uz.setCell ⟨Q, 0, none⟩ (.int .i64 e2)).setCell ⟨Q, 1, none⟩ (.int .i64 t2)).setCell ⟨Q, 2, none⟩ (.slice p2 n2 cp2))) := j4.take
              clear j4 hc
              go_wp2
              exact ⟨⟨k - 1, _, _, _, _, by omega, knum hk0, HI5⟩, by simp [intOf]; omega⟩
            · have hq : (c2 == 0) = false := by simp [hc]
              have HI5 : Hid (InDw w0 a len cap R Q e t (.slice p np cp) s uz) := j4.base
              clear j4 hc
              go_wp2
              exact ⟨⟨k - 1, _, _, _, _, by omega, knum hk0, HI5⟩, by simp [intOf]; omega⟩
          · go_wp2_with fail
            have j3 := j4.drew
            obtain ⟨⟨d0, d1, d2⟩, _⟩ := j4.base.cells
            refine wp_region_noPanic ?_
            refine wp_region_held_drew (S := fun u => u.cell? ⟨Q, 0, none⟩ = some (.int .i64 e) ∧ u.cell? ⟨Q, 1, none⟩ = some (.int .i64 t) ∧ u.cell? ⟨Q, 2, none⟩ = some (.slice p np cp)) (by kernel_rfl) ⟨d0, d1, d2⟩ (fun hHeld => ?_)
            clear j4 d0 d1 d2 hlen2
            generalize uz.drew = ur at j3 hHeld ⊢
            refine wpAnyH_take (i := 0) (oi := { dst := some 26, op := Op.load 25 (Operand.tmp 3), type := 25, pos := "l04_gram.go:122", after := #[], guard := none }) (v := ?_) rfl (by kernel_rfl) (by kernel_rfl) (by kernel_rfl) (fun _ _ _ h => h) (Or.inl ⟨by rfl, ?_⟩) hHeld ?_
            rotate_left
            · rintro w ⟨z0, z1, z2⟩; go_simp; try with_reducible rfl
            try simp only [Act.put, List.setIfInBounds_toArray, List.set_cons_zero, List.set_cons_succ]
            refine wpAnyH_take (i := 1) (oi := { dst := some 27, op := Op.fieldAddr 25 (Operand.tmp 3) 0, type := 0, pos := "l04_gram.go:122", after := #[], guard := none }) (v := ?_) rfl (by kernel_rfl) (by kernel_rfl) (by kernel_rfl) (fun _ _ _ h => h) (Or.inl ⟨by rfl, ?_⟩) hHeld ?_
            rotate_left
            · rintro w ⟨z0, z1, z2⟩; go_simp; try with_reducible rfl
            try simp only [Act.put, List.setIfInBounds_toArray, List.set_cons_zero, List.set_cons_succ]
            refine wpAnyH_take (i := 2) (oi := { dst := some 28, op := Op.load 2 (Operand.tmp 27), type := 2, pos := "l04_gram.go:122", after := #[{ on := 1, ground := Ground.data }], guard := none }) (v := ?_) rfl (by kernel_rfl) (by kernel_rfl) (by kernel_rfl) (fun _ _ _ h => h) (Or.inl ⟨by rfl, ?_⟩) hHeld ?_
            rotate_left
            · rintro w ⟨z0, z1, z2⟩; go_simp; try with_reducible rfl
            try simp only [Act.put, List.setIfInBounds_toArray, List.set_cons_zero, List.set_cons_succ]
            refine wpAnyH_take (i := 3) (oi := { dst := some 29, op := Op.binOp BinOp.add 2 (Operand.tmp 28) (Operand.const (Value.int IntKind.i64 1)) 2, type := 2, pos := "l04_gram.go:122", after := #[{ on := 2, ground := Ground.data }], guard := none }) (v := ?_) rfl (by kernel_rfl) (by kernel_rfl) (by kernel_rfl) (fun _ _ _ h => h) (Or.inl ⟨by rfl, ?_⟩) hHeld ?_
            rotate_left
            · rintro w ⟨z0, z1, z2⟩; go_simp; try with_reducible rfl
            try simp only [Act.put, List.setIfInBounds_toArray, List.set_cons_zero, List.set_cons_succ]
            refine wpAnyH_take (i := 4) (oi := { dst := some 30, op := Op.move (Operand.tmp 0), type := 34, pos := "l04_gram.go:122", after := #[], guard := none }) (v := ?_) rfl (by kernel_rfl) (by kernel_rfl) (by kernel_rfl) (fun _ _ _ h => h) (Or.inl ⟨by rfl, ?_⟩) hHeld ?_
            rotate_left
            · rintro w ⟨z0, z1, z2⟩; go_simp; try with_reducible rfl
            try simp only [Act.put, List.setIfInBounds_toArray, List.set_cons_zero, List.set_cons_succ]
            refine wpAnyH_ready (rs := [5]) (by kernel_rfl) (by simp) ?_
            refine AllReadyH.cons rfl (fun K hK => ?_) AllReadyH.nil
            go_simp
            go_at_call 13
            refine (n_g j3.base.at_ 9 (by omega) (by omega)).mono ?_
            rintro r w12 ⟨m12, rfl, hm12, hA, hg⟩
            replace j3 := j3.next hA hg
            go_wp2_with fail
            refine hK.out _ _ j3.base.cells.1 (fun hHeld => ?_)
            clear hA hg
            clear hK K
            try simp only [Act.put, List.setIfInBounds_toArray, List.set_cons_zero, List.set_cons_succ]
            refine wpAnyH_ready (rs := [6]) (by kernel_rfl) (by simp) ?_
            refine AllReadyH.cons rfl (fun K hK => ?_) AllReadyH.nil
            go_simp
            go_at_call 7
            refine (take_any e t (.slice p np cp) s _ _ _ j3.base.short' (own_slice j3.base.row)).mono ?_
            rintro r w13 ⟨hb, e2, t2, p2, n2, cp2, s2, c2, rfl, hlen2, hrow2⟩
            replace hrow2 := row_le hrow2 j3.base.base_le
            replace j3 := j3.up hb
            go_wp2_with fail
            refine hK.out _ _ j3.base.cells.1 (fun hHeld => ?_)
            clear hb
            clear hK K
            try simp only [Act.put, List.setIfInBounds_toArray, List.set_cons_zero, List.set_cons_succ]
            refine wpAnyH_ready (rs := [7]) (by kernel_rfl) (by simp) ?_
            refine AllReadyH.cons rfl (fun K hK => ?_) AllReadyH.nil
            obtain ⟨⟨y0, y1, y2, y3⟩, f0, f1, f2, f3⟩ := j3.cells
            have nq : ¬ y = Q := by have := j3.lt; omega
            have nq' : ¬ Q = y := by have := j3.lt; omega
            go_simp
            have j4 := j3.put (e3 := e2) (t3 := t2) (c3 := c2) hrow2 hlen2
            refine hK.out _ _ j4.base.cells.1 (fun _ => ?_)
            clear hK K j3 hHeld y0 y1 y2 y3 f0 f1 f2 f3 hrow2
            try simp only [Act.put, List.setIfInBounds_toArray, List.set_cons_zero, List.set_cons_succ]
            refine wpAnyH_done (by kernel_rfl) ?_ _
            refine NoPanic.normal ?_
            generalize (((w13.setCell ⟨y, 0, none⟩ (.int .i64 e2)).setCell ⟨y, 1, none⟩ (.int .i64 t2)).setCell ⟨y, 2, none⟩ (.slice p2 n2 cp2)).setCell ⟨y, 3, none⟩ (.int .i64 c2) = uz at j4 ⊢
            obtain ⟨⟨y0, y1, y2, y3⟩, f0, f1, f2, f3⟩ := j4.cells
            obtain ⟨⟨d0, d1, d2⟩, g0, g1, g2⟩ := j4.base.cells
            by_cases hc : c2 = 0
            · have hq : (c2 == 0) = true := by simp [hc]
              have HI5 : Hid (InDw w0 a len cap R Q e2 t2 (.slice p2 n2 cp2) s2 (((uz.setCell ⟨Q, 0, none⟩ (.int .i64 e2)).setCell ⟨Q, 1, none⟩ (.int .i64 t2)).setCell ⟨Q, 2, none⟩ (.slice p2 n2 cp2))) := j4.take
              clear j4 hc
              go_wp2
              exact ⟨⟨k - 1, _, _, _, _, by omega, knum hk0, HI5⟩, by simp [intOf]; omega⟩
            · have hq : (c2 == 0) = false := by simp [hc]
              have HI5 : Hid (InDw w0 a len cap R Q e t (.slice p np cp) s uz) := j4.base
              clear j4 hc
              go_wp2
              exact ⟨⟨k - 1, _, _, _, _, by omega, knum hk0, HI5⟩, by simp [intOf]; omega⟩
      · skip
        go_simp
        have j3 := InDz.start i3
        refine hK.out _ _ j3.base.cells.1 (fun hHeld => ?_)
        clear hK K
        try simp only [Act.put, List.setIfInBounds_toArray, List.set_cons_zero, List.set_cons_succ]
        obtain ⟨y, hy⟩ : ∃ y, y = ur.heap.size := ⟨_, rfl⟩
        rw [← hy] at j3 ⊢
        generalize ur.alloc (.cells #[.int .i64 0, .int .i64 0, .slice none 0 0, .int .i64 0] 29) = ua at j3 hHeld ⊢
        clear hy i3
        refine wpAnyH_ready (rs := [6]) (by kernel_rfl) (by simp) ?_
        refine AllReadyH.cons rfl (fun K hK => ?_) AllReadyH.nil
        go_simp
        go_at_call 14
        refine (wi.maxM_max _ _ _).mono ?_
        rintro r w' ⟨rfl, hw'⟩
        obtain rfl := hw'.symm
        go_wp2_with fail
        refine hK.out _ _ hHeld (fun hHeld => ?_)
        clear hK K
        try simp only [Act.put, List.setIfInBounds_toArray, List.set_cons_zero, List.set_cons_succ]
        refine wpAnyH_ready (rs := [8]) (by kernel_rfl) (by simp) ?_
        refine AllReadyH.cons rfl (fun K hK => ?_) AllReadyH.nil
        go_simp
        go_at_call 13
        refine (n_g j3.base.at_ 14 (by omega) (by omega)).mono ?_
        rintro r w15 ⟨m15, rfl, hm15, hA, hg⟩
        replace j3 := j3.next hA hg
        go_wp2_with fail
        refine hK.out _ _ j3.base.cells.1 (fun hHeld => ?_)
        clear hA hg
        clear hK K
        try simp only [Act.put, List.setIfInBounds_toArray, List.set_cons_zero, List.set_cons_succ]
        refine wpAnyH_take (i := 9) (oi := { dst := some 22, op := Op.binOp BinOp.add 2 (Operand.tmp 19) (Operand.tmp 21) 2, type := 2, pos := "l04_gram.go:120", after := #[{ on := 6, ground := Ground.data }, { on := 8, ground := Ground.data }], guard := none }) (v := ?_) rfl (by kernel_rfl) (by kernel_rfl) (by kernel_rfl) (fun _ _ _ h => h) (Or.inl ⟨by rfl, ?_⟩) hHeld ?_
        rotate_left
        · rintro w ⟨z0, z1, z2⟩; go_simp; try with_reducible rfl
        try simp only [Act.put, List.setIfInBounds_toArray, List.set_cons_zero, List.set_cons_succ]
        refine wpAnyH_ready (rs := [10]) (by kernel_rfl) (by simp) ?_
        refine AllReadyH.cons rfl (fun K hK => ?_) AllReadyH.nil
        go_simp
        go_at_call 7
        refine (take_any e t (.slice p np cp) s _ _ _ j3.base.short' (own_slice j3.base.row)).mono ?_
        rintro r w16 ⟨hb, e2, t2, p2, n2, cp2, s2, c2, rfl, hlen2, hrow2⟩
        replace hrow2 := row_le hrow2 j3.base.base_le
        replace j3 := j3.up hb
        go_wp2_with fail
        refine hK.out _ _ j3.base.cells.1 (fun hHeld => ?_)
        clear hb
        clear hK K
        try simp only [Act.put, List.setIfInBounds_toArray, List.set_cons_zero, List.set_cons_succ]
        refine wpAnyH_ready (rs := [12]) (by kernel_rfl) (by simp) ?_
        refine AllReadyH.cons rfl (fun K hK => ?_) AllReadyH.nil
        obtain ⟨⟨y0, y1, y2, y3⟩, f0, f1, f2, f3⟩ := j3.cells
        have nq : ¬ y = Q := by have := j3.lt; omega
        have nq' : ¬ Q = y := by have := j3.lt; omega
        go_simp
        have j4 := j3.put (e3 := e2) (t3 := t2) (c3 := c2) hrow2 hlen2
        refine hK.out _ _ j4.base.cells.1 (fun _ => ?_)
        clear hK K j3 hHeld y0 y1 y2 y3 f0 f1 f2 f3 hrow2
        try simp only [Act.put, List.setIfInBounds_toArray, List.set_cons_zero, List.set_cons_succ]
        refine wpAnyH_done (by kernel_rfl) ?_ _
        refine NoPanic.normal ?_
        generalize (((w16.setCell ⟨y, 0, none⟩ (.int .i64 e2)).setCell ⟨y, 1, none⟩ (.int .i64 t2)).setCell ⟨y, 2, none⟩ (.slice p2 n2 cp2)).setCell ⟨y, 3, none⟩ (.int .i64 c2) = uz at j4 ⊢
        go_wp2_with (go_at_call 12; fail)
        refine (one_g j4.base.at_ 20 (by omega) (by omega)).mono ?_
        rintro r uy ⟨vb, rfl, hA, hg⟩
        replace j4 := j4.next hA hg
        clear hA hg
        generalize uy = uz at j4 ⊢
        cases vb
        · skip
          obtain ⟨⟨y0, y1, y2, y3⟩, f0, f1, f2, f3⟩ := j4.cells
          obtain ⟨⟨d0, d1, d2⟩, g0, g1, g2⟩ := j4.base.cells
          by_cases hc : c2 = 0
          · have hq : (c2 == 0) = true := by simp [hc]
            have HI5 : Hid (InDw w0 a len cap R Q e2 t2 (.slice p2 n2 cp2) s2 (((uz.setCell ⟨Q, 0, none⟩ (.int .i64 e2)).setCell ⟨Q, 1, none⟩ (.int .i64 t2)).setCell ⟨Q, 2, none⟩ (.slice p2 n2 cp2))) := j4.take
            clear j4 hc
            go_wp2
            exact ⟨⟨k - 1, _, _, _, _, by omega, knum hk0, HI5⟩, by simp [intOf]; omega⟩
          · have hq : (c2 == 0) = false := by simp [hc]
            have HI5 : Hid (InDw w0 a len cap R Q e t (.slice p np cp) s uz) := j4.base
            clear j4 hc
            go_wp2
            exact ⟨⟨k - 1, _, _, _, _, by omega, knum hk0, HI5⟩, by simp [intOf]; omega⟩
        · go_wp2_with fail
          have j3 := j4.drew
          obtain ⟨⟨d0, d1, d2⟩, _⟩ := j4.base.cells
          refine wp_region_noPanic ?_
          refine wp_region_held_drew (S := fun u => u.cell? ⟨Q, 0, none⟩ = some (.int .i64 e) ∧ u.cell? ⟨Q, 1, none⟩ = some (.int .i64 t) ∧ u.cell? ⟨Q, 2, none⟩ = some (.slice p np cp)) (by kernel_rfl) ⟨d0, d1, d2⟩ (fun hHeld => ?_)
          clear j4 d0 d1 d2 hlen2
          generalize uz.drew = ur at j3 hHeld ⊢
          refine wpAnyH_take (i := 0) (oi := { dst := some 26, op := Op.load 25 (Operand.tmp 3), type := 25, pos := "l04_gram.go:122", after := #[], guard := none }) (v := ?_) rfl (by kernel_rfl) (by kernel_rfl) (by kernel_rfl) (fun _ _ _ h => h) (Or.inl ⟨by rfl, ?_⟩) hHeld ?_
          rotate_left
          · rintro w ⟨z0, z1, z2⟩; go_simp; try with_reducible rfl
          try simp only [Act.put, List.setIfInBounds_toArray, List.set_cons_zero, List.set_cons_succ]
          refine wpAnyH_take (i := 1) (oi := { dst := some 27, op := Op.fieldAddr 25 (Operand.tmp 3) 0, type := 0, pos := "l04_gram.go:122", after := #[], guard := none }) (v := ?_) rfl (by kernel_rfl) (by kernel_rfl) (by kernel_rfl) (fun _ _ _ h => h) (Or.inl ⟨by rfl, ?_⟩) hHeld ?_
          rotate_left
          · rintro w ⟨z0, z1, z2⟩; go_simp; try with_reducible rfl
          try simp only [Act.put, List.setIfInBounds_toArray, List.set_cons_zero, List.set_cons_succ]
          refine wpAnyH_take (i := 2) (oi := { dst := some 28, op := Op.load 2 (Operand.tmp 27), type := 2, pos := "l04_gram.go:122", after := #[{ on := 1, ground := Ground.data }], guard := none }) (v := ?_) rfl (by kernel_rfl) (by kernel_rfl) (by kernel_rfl) (fun _ _ _ h => h) (Or.inl ⟨by rfl, ?_⟩) hHeld ?_
          rotate_left
          · rintro w ⟨z0, z1, z2⟩; go_simp; try with_reducible rfl
          try simp only [Act.put, List.setIfInBounds_toArray, List.set_cons_zero, List.set_cons_succ]
          refine wpAnyH_take (i := 3) (oi := { dst := some 29, op := Op.binOp BinOp.add 2 (Operand.tmp 28) (Operand.const (Value.int IntKind.i64 1)) 2, type := 2, pos := "l04_gram.go:122", after := #[{ on := 2, ground := Ground.data }], guard := none }) (v := ?_) rfl (by kernel_rfl) (by kernel_rfl) (by kernel_rfl) (fun _ _ _ h => h) (Or.inl ⟨by rfl, ?_⟩) hHeld ?_
          rotate_left
          · rintro w ⟨z0, z1, z2⟩; go_simp; try with_reducible rfl
          try simp only [Act.put, List.setIfInBounds_toArray, List.set_cons_zero, List.set_cons_succ]
          refine wpAnyH_take (i := 4) (oi := { dst := some 30, op := Op.move (Operand.tmp 0), type := 34, pos := "l04_gram.go:122", after := #[], guard := none }) (v := ?_) rfl (by kernel_rfl) (by kernel_rfl) (by kernel_rfl) (fun _ _ _ h => h) (Or.inl ⟨by rfl, ?_⟩) hHeld ?_
          rotate_left
          · rintro w ⟨z0, z1, z2⟩; go_simp; try with_reducible rfl
          try simp only [Act.put, List.setIfInBounds_toArray, List.set_cons_zero, List.set_cons_succ]
          refine wpAnyH_ready (rs := [5]) (by kernel_rfl) (by simp) ?_
          refine AllReadyH.cons rfl (fun K hK => ?_) AllReadyH.nil
          go_simp
          go_at_call 13
          refine (n_g j3.base.at_ 9 (by omega) (by omega)).mono ?_
          rintro r w17 ⟨m17, rfl, hm17, hA, hg⟩
          replace j3 := j3.next hA hg
          go_wp2_with fail
          refine hK.out _ _ j3.base.cells.1 (fun hHeld => ?_)
          clear hA hg
          clear hK K
          try simp only [Act.put, List.setIfInBounds_toArray, List.set_cons_zero, List.set_cons_succ]
          refine wpAnyH_ready (rs := [6]) (by kernel_rfl) (by simp) ?_
          refine AllReadyH.cons rfl (fun K hK => ?_) AllReadyH.nil
          go_simp
          go_at_call 7
          refine (take_any e t (.slice p np cp) s _ _ _ j3.base.short' (own_slice j3.base.row)).mono ?_
          rintro r w18 ⟨hb, e2, t2, p2, n2, cp2, s2, c2, rfl, hlen2, hrow2⟩
          replace hrow2 := row_le hrow2 j3.base.base_le
          replace j3 := j3.up hb
          go_wp2_with fail
          refine hK.out _ _ j3.base.cells.1 (fun hHeld => ?_)
          clear hb
          clear hK K
          try simp only [Act.put, List.setIfInBounds_toArray, List.set_cons_zero, List.set_cons_succ]
          refine wpAnyH_ready (rs := [7]) (by kernel_rfl) (by simp) ?_
          refine AllReadyH.cons rfl (fun K hK => ?_) AllReadyH.nil
          obtain ⟨⟨y0, y1, y2, y3⟩, f0, f1, f2, f3⟩ := j3.cells
          have nq : ¬ y = Q := by have := j3.lt; omega
          have nq' : ¬ Q = y := by have := j3.lt; omega
          go_simp
          have j4 := j3.put (e3 := e2) (t3 := t2) (c3 := c2) hrow2 hlen2
          refine hK.out _ _ j4.base.cells.1 (fun _ => ?_)
          clear hK K j3 hHeld y0 y1 y2 y3 f0 f1 f2 f3 hrow2
          try simp only [Act.put, List.setIfInBounds_toArray, List.set_cons_zero, List.set_cons_succ]
          refine wpAnyH_done (by kernel_rfl) ?_ _
          refine NoPanic.normal ?_
          generalize (((w18.setCell ⟨y, 0, none⟩ (.int .i64 e2)).setCell ⟨y, 1, none⟩ (.int .i64 t2)).setCell ⟨y, 2, none⟩ (.slice p2 n2 cp2)).setCell ⟨y, 3, none⟩ (.int .i64 c2) = uz at j4 ⊢
          obtain ⟨⟨y0, y1, y2, y3⟩, f0, f1, f2, f3⟩ := j4.cells
          obtain ⟨⟨d0, d1, d2⟩, g0, g1, g2⟩ := j4.base.cells
          by_cases hc : c2 = 0
          · have hq : (c2 == 0) = true := by simp [hc]
            have HI5 : Hid (InDw w0 a len cap R Q e2 t2 (.slice p2 n2 cp2) s2 (((uz.setCell ⟨Q, 0, none⟩ (.int .i64 e2)).setCell ⟨Q, 1, none⟩ (.int .i64 t2)).setCell ⟨Q, 2, none⟩ (.slice p2 n2 cp2))) := j4.take
            clear j4 hc
            go_wp2
            exact ⟨⟨k - 1, _, _, _, _, by omega, knum hk0, HI5⟩, by simp [intOf]; omega⟩
          · have hq : (c2 == 0) = false := by simp [hc]
            have HI5 : Hid (InDw w0 a len cap R Q e t (.slice p np cp) s uz) := j4.base
            clear j4 hc
            go_wp2
            exact ⟨⟨k - 1, _, _, _, _, by omega, knum hk0, HI5⟩, by simp [intOf]; omega⟩
    · obtain rfl : k = 0 := by omega
      have i3 := HI.out
      clear HI
      go_wp2_with (go_at_call 12; fail)
      refine (one_g i3.at_ 15 (by omega) (by omega)).mono ?_
      rintro r w5 ⟨vb, rfl, hA, hg⟩
      replace i3 := i3.next hA hg
      clear hA hg
      cases vb
      · skip
        have hrow := i3.win
        have hres := i3.res
        have HA : Hid (At w0 a len cap (w5)) := i3.at_
        have HL : Hid (w0.heap.size < R) := i3.lt1
        have HO : Hid ((w5).ownsRow (w0.heap.size + 1) 2 1 (.slice p np cp) (s).length ((s).map (Value.int .i64))) := i3.row
        have HS : Hid ((s).length ≤ 1000001) := Nat.le_succ_of_le i3.short
        clear i3
        go_wp2_with (first | (refine wpList_load_row rfl 25 _ rfl Q rfl _ _ _ _ hrow Tryd.underlying25 rfl infoW ?_) | (refine wpList_store_row rfl 25 _ _ rfl R _ rfl rfl _ _ hres infoW (by rfl) (by simp [Value.oneCell']) ?_))
        exact bodyPost_ret (results_cell_row Tryd.results11 _ _ R _ _ _ _ rfl (setRow_heap _ _ _ _ _ _ hres) Tryd.underlying25 rfl infoW) rfl ⟨_, _, _, s, rfl, HS.out, row_setOther HO.out int_not_win hres, at_setRow HA.out HL.out⟩
      · go_wp2_with (go_at_call 13; fail)
        refine (n_g i3.at_ 3 (by omega) (by omega)).mono ?_
        rintro r w6 ⟨j, rfl, hj, hA, hg⟩
        replace i3 := i3.next hA hg
        clear hA hg
        have hj3 : j = 0 ∨ j = 1 ∨ j = 2 := by omega
        rcases hj3 with rfl | rfl | rfl
        · go_wp2_with (go_at_call 13; fail)
          have hQL : Q < w6.heap.size := row_lt i3.win
          have hL0 : w0.heap.size < w6.heap.size := i3.at_.1.lt
          have i4 := i3.up ((Below.refl w6.heap.size w6).alloc (Nat.le_refl _) (.cells #[.int .i64 (-2), .int .i64 (-1), .int .i64 (2000), .int .i64 (2001)] 2))
          refine (n_g i4.at_ 4 (by omega) (by omega)).mono ?_
          rintro r w7 ⟨m, rfl, hm, hA, hg⟩
          replace i4 := i4.next hA hg
          obtain ⟨x, hx⟩ := four_cell w6 (-2) (-1) (2000) (2001) m hm
          have hxc := hg.cell hx (by simp; omega)
          clear i3 hA hg hx
          obtain ⟨⟨d0, d1, d2⟩, f0, f1, f2⟩ := i4.cells
          have n1 : ¬ w6.heap.size = Q := by omega
          have n2 : ¬ Q = w6.heap.size := by omega
          have i5 := i4.set1 x
          clear i4
          have hrow := i5.win
          have hres := i5.res
          have HA : Hid (At w0 a len cap (w7.setCell ⟨Q, 1, none⟩ (.int .i64 x))) := i5.at_
          have HL : Hid (w0.heap.size < R) := i5.lt1
          have HO : Hid ((w7.setCell ⟨Q, 1, none⟩ (.int .i64 x)).ownsRow (w0.heap.size + 1) 2 1 (.slice p np cp) (s).length ((s).map (Value.int .i64))) := i5.row
          have HS : Hid ((s).length ≤ 1000001) := Nat.le_succ_of_le i5.short
          clear i5
          go_wp2_with (first | (refine wpList_load_row rfl 25 _ rfl Q rfl _ _ _ _ hrow Tryd.underlying25 rfl infoW ?_) | (refine wpList_store_row rfl 25 _ _ rfl R _ rfl rfl _ _ hres infoW (by rfl) (by simp [Value.oneCell']) ?_))
          exact bodyPost_ret (results_cell_row Tryd.results11 _ _ R _ _ _ _ rfl (setRow_heap _ _ _ _ _ _ hres) Tryd.underlying25 rfl infoW) rfl ⟨_, _, _, s, rfl, HS.out, row_setOther HO.out int_not_win hres, at_setRow HA.out HL.out⟩
        · go_wp2_with (go_at_call 13; fail)
          have hQL : Q < w6.heap.size := row_lt i3.win
          have hL0 : w0.heap.size < w6.heap.size := i3.at_.1.lt
          have i4 := i3.up ((Below.refl w6.heap.size w6).alloc (Nat.le_refl _) (.cells #[.int .i64 (-1), .int .i64 (200), .int .i64 (201)] 2))
          refine (n_g i4.at_ 3 (by omega) (by omega)).mono ?_
          rintro r w7 ⟨m, rfl, hm, hA, hg⟩
          replace i4 := i4.next hA hg
          obtain ⟨x, hx⟩ := three_cell w6 (-1) (200) (201) m hm
          have hxc := hg.cell hx (by simp; omega)
          clear i3 hA hg hx
          obtain ⟨⟨d0, d1, d2⟩, f0, f1, f2⟩ := i4.cells
          have n1 : ¬ w6.heap.size = Q := by omega
          have n2 : ¬ Q = w6.heap.size := by omega
          have i5 := i4.set0 x
          clear i4
          have hrow := i5.win
          have hres := i5.res
          have HA : Hid (At w0 a len cap (w7.setCell ⟨Q, 0, none⟩ (.int .i64 x))) := i5.at_
          have HL : Hid (w0.heap.size < R) := i5.lt1
          have HO : Hid ((w7.setCell ⟨Q, 0, none⟩ (.int .i64 x)).ownsRow (w0.heap.size + 1) 2 1 (.slice p np cp) (s).length ((s).map (Value.int .i64))) := i5.row
          have HS : Hid ((s).length ≤ 1000001) := Nat.le_succ_of_le i5.short
          clear i5
          go_wp2_with (first | (refine wpList_load_row rfl 25 _ rfl Q rfl _ _ _ _ hrow Tryd.underlying25 rfl infoW ?_) | (refine wpList_store_row rfl 25 _ _ rfl R _ rfl rfl _ _ hres infoW (by rfl) (by simp [Value.oneCell']) ?_))
          exact bodyPost_ret (results_cell_row Tryd.results11 _ _ R _ _ _ _ rfl (setRow_heap _ _ _ _ _ _ hres) Tryd.underlying25 rfl infoW) rfl ⟨_, _, _, s, rfl, HS.out, row_setOther HO.out int_not_win hres, at_setRow HA.out HL.out⟩
        · go_wp2_with fail
          obtain ⟨i0, hi, hz0, hz1, hz2⟩ := info_parts wi.info64
          have i4 := i3.drew
          have hsh := i3.short
          obtain ⟨⟨x0, x1, x2⟩, _⟩ := i3.cells
          refine wp_region_noPanic ?_
          refine wp_region_held_drew (S := fun u => u.cell? ⟨Q, 1, none⟩ = some (.int .i64 t)) (by kernel_rfl) x1 (fun hHeld => ?_)
          clear i3 x0 x1 x2
          generalize w6.drew = ur at i4 hHeld ⊢
          refine wpAnyH_take (i := 0) (oi := { dst := some 42, op := Op.fieldAddr 25 (Operand.tmp 3) 2, type := 0, pos := "l04_gram.go:135", after := #[], guard := none }) (v := ?_) rfl (by kernel_rfl) (by kernel_rfl) (by kernel_rfl) (fun _ _ _ h => h) (Or.inl ⟨by rfl, ?_⟩) hHeld ?_
          rotate_left
          · rintro w z0; go_simp; try with_reducible rfl
          try simp only [Act.put, List.setIfInBounds_toArray, List.set_cons_zero, List.set_cons_succ]
          refine wpAnyH_take (i := 2) (oi := { dst := some 44, op := Op.fieldAddr 25 (Operand.tmp 3) 1, type := 0, pos := "l04_gram.go:135", after := #[], guard := none }) (v := ?_) rfl (by kernel_rfl) (by kernel_rfl) (by kernel_rfl) (fun _ _ _ h => h) (Or.inl ⟨by rfl, ?_⟩) hHeld ?_
          rotate_left
          · rintro w z0; go_simp; try with_reducible rfl
          try simp only [Act.put, List.setIfInBounds_toArray, List.set_cons_zero, List.set_cons_succ]
          refine wpAnyH_take (i := 3) (oi := { dst := some 45, op := Op.load 2 (Operand.tmp 44), type := 2, pos := "l04_gram.go:135", after := #[{ on := 2, ground := Ground.data }], guard := none }) (v := ?_) rfl (by kernel_rfl) (by kernel_rfl) (by kernel_rfl) (fun _ _ _ h => h) (Or.inl ⟨by rfl, ?_⟩) hHeld ?_
          rotate_left
          · rintro w z0; go_simp; try with_reducible rfl
          try simp only [Act.put, List.setIfInBounds_toArray, List.set_cons_zero, List.set_cons_succ]
          refine wpAnyH_take (i := 4) (oi := { dst := some 46, op := Op.move (Operand.tmp 0), type := 34, pos := "l04_gram.go:135", after := #[], guard := none }) (v := ?_) rfl (by kernel_rfl) (by kernel_rfl) (by kernel_rfl) (fun _ _ _ h => h) (Or.inl ⟨by rfl, ?_⟩) hHeld ?_
          rotate_left
          · rintro w z0; go_simp; try with_reducible rfl
          try simp only [Act.put, List.setIfInBounds_toArray, List.set_cons_zero, List.set_cons_succ]
          refine wpAnyH_ready (rs := [1, 5]) (by kernel_rfl) (by simp) ?_
          refine AllReadyH.cons rfl (fun K hK => ?_) (AllReadyH.cons rfl (fun K hK => ?_) AllReadyH.nil)
          · skip
            obtain ⟨⟨_, _, x2⟩, _⟩ := i4.cells
            go_simp
            refine hK.out _ _ hHeld (fun hHeld => ?_)
            clear hK K x2
            try simp only [Act.put, List.setIfInBounds_toArray, List.set_cons_zero, List.set_cons_succ]
            refine wpAnyH_ready (rs := [5]) (by kernel_rfl) (by simp) ?_
            refine AllReadyH.cons rfl (fun K hK => ?_) AllReadyH.nil
            go_simp
            go_at_call 13
            refine (n_g i4.at_ 2 (by omega) (by omega)).mono ?_
            rintro r w19 ⟨m19, rfl, hm19, hA, hg⟩
            replace i4 := i4.next hA hg
            go_wp2_with fail
            refine hK.out _ _ i4.cells.1.2.1 (fun hHeld => ?_)
            clear hA hg hK K
            try simp only [Act.put, List.setIfInBounds_toArray, List.set_cons_zero, List.set_cons_succ]
            refine wpAnyH_take (i := 6) (oi := { dst := some 48, op := Op.binOp BinOp.add 2 (Operand.tmp 45) (Operand.tmp 47) 2, type := 2, pos := "l04_gram.go:135", after := #[{ on := 3, ground := Ground.data }, { on := 5, ground := Ground.data }], guard := none }) (v := ?_) rfl (by kernel_rfl) (by kernel_rfl) (by kernel_rfl) (fun _ _ _ h => h) (Or.inl ⟨by rfl, ?_⟩) hHeld ?_
            rotate_left
            · rintro w z0; go_simp; try with_reducible rfl
            try simp only [Act.put, List.setIfInBounds_toArray, List.set_cons_zero, List.set_cons_succ]
            refine wpAnyH_take (i := 7) (oi := { dst := some 49, op := Op.binOp BinOp.sub 2 (Operand.tmp 48) (Operand.const (Value.int IntKind.i64 1)) 2, type := 2, pos := "l04_gram.go:135", after := #[{ on := 6, ground := Ground.data }], guard := none }) (v := ?_) rfl (by kernel_rfl) (by kernel_rfl) (by kernel_rfl) (fun _ _ _ h => h) (Or.inl ⟨by rfl, ?_⟩) hHeld ?_
            rotate_left
            · rintro w z0; go_simp; try with_reducible rfl
            try simp only [Act.put, List.setIfInBounds_toArray, List.set_cons_zero, List.set_cons_succ]
            refine wpAnyH_ready (rs := [8]) (by kernel_rfl) (by simp) ?_
            refine AllReadyH.cons rfl (fun K hK => ?_) AllReadyH.nil
            go_simp
            have hc1 := fun x => one_cell w19 x
            have i5 := fun x => i4.up ((Below.refl w19.heap.size w19).alloc (Nat.le_refl _) (.cells #[x] 2))
            refine hK.out _ _ (i5 _).cells.1.2.1 (fun hHeld => ?_)
            clear hK K
            try simp only [Act.put, List.setIfInBounds_toArray, List.set_cons_zero, List.set_cons_succ]
            refine wpAnyH_ready (rs := [9]) (by kernel_rfl) (by simp) ?_
            refine AllReadyH.cons rfl (fun K hK => ?_) AllReadyH.nil
            rw [if_pos (by rfl)]
            refine wp_append_own _ _ _ 23 rfl (w0.heap.size + 1) 2 i0 (.int .i64 0) 1 8 Tryd.underlying23 hi hz0 hz1 hz2 rfl (by decide) _ s.length (s.map (Value.int .i64)) rfl (i5 _).row ⟨w19.heap.size, 0, none⟩ 1 1 [_] rfl rfl (hc1 _) (fun x hx => by simp at hx; subst hx; rfl) (by unfold maxLen; omega) (by omega) (i5 _).base_le ?_
            intro v3 w9 hown3 hgr3 hn3
            clear hn3
            have i6 := (i5 _).append hgr3 hown3
            clear i5 hc1 hgr3
            obtain ⟨p3, n3, cp3, rfl⟩ := row_shape hown3
            clear hown3
            refine hK.out _ _ i6.cells.1.2.1 (fun hHeld => ?_)
            clear hK K i4
            try simp only [Act.put, List.setIfInBounds_toArray, List.set_cons_zero, List.set_cons_succ]
            refine wpAnyH_take (i := 10) (oi := { dst := some 52, op := Op.fieldAddr 25 (Operand.tmp 3) 2, type := 0, pos := "l04_gram.go:135", after := #[{ on := 0, ground := Ground.phase }, { on := 1, ground := Ground.phase }, { on := 2, ground := Ground.phase }, { on := 3, ground := Ground.phase }, { on := 4, ground := Ground.phase }, { on := 5, ground := Ground.phase }, { on := 6, ground := Ground.phase }, { on := 7, ground := Ground.phase }, { on := 8, ground := Ground.phase }, { on := 9, ground := Ground.phase }], guard := none }) (v := ?_) rfl (by kernel_rfl) (by kernel_rfl) (by kernel_rfl) (fun _ _ _ h => h) (Or.inl ⟨by rfl, ?_⟩) hHeld ?_
            rotate_left
            · rintro w z0; go_simp; try with_reducible rfl
            try simp only [Act.put, List.setIfInBounds_toArray, List.set_cons_zero, List.set_cons_succ]
            refine wpAnyH_ready (rs := [11]) (by kernel_rfl) (by simp) ?_
            refine AllReadyH.cons rfl (fun K hK => ?_) AllReadyH.nil
            obtain ⟨⟨_, _, x2⟩, _, _, f2⟩ := i6.cells
            go_simp
            have i7 := i6.put
            obtain ⟨s5, hs5, i8⟩ : ∃ s5 : List Int, s5.length ≤ 1000001 ∧ InDf w0 a len cap R Q e t (.slice p3 n3 cp3) s5 (w9.setCell ⟨Q, 2, none⟩ (.slice p3 n3 cp3)) := ⟨_, by simp; omega, i7⟩
            clear i6 i7 x2 f2
            refine hK.out _ _ (by simp [World.cell?, i8.win]) (fun _ => ?_)
            clear hK K hHeld
            try simp only [Act.put, List.setIfInBounds_toArray, List.set_cons_zero, List.set_cons_succ]
            refine wpAnyH_done (by kernel_rfl) ?_ _
            refine NoPanic.normal ?_
            generalize w9.setCell ⟨Q, 2, none⟩ (.slice p3 n3 cp3) = uz at i8 ⊢
            have hrow := i8.win
            have hres := i8.res
            have HA : Hid (At w0 a len cap (uz)) := i8.at_
            have HL : Hid (w0.heap.size < R) := i8.lt1
            have HO : Hid ((uz).ownsRow (w0.heap.size + 1) 2 1 (.slice p3 n3 cp3) (s5).length ((s5).map (Value.int .i64))) := i8.row
            have HS : Hid ((s5).length ≤ 1000001) := hs5
            clear i8
            go_wp2_with (first | (refine wpList_load_row rfl 25 _ rfl Q rfl _ _ _ _ hrow Tryd.underlying25 rfl infoW ?_) | (refine wpList_store_row rfl 25 _ _ rfl R _ rfl rfl _ _ hres infoW (by rfl) (by simp [Value.oneCell']) ?_))
            exact bodyPost_ret (results_cell_row Tryd.results11 _ _ R _ _ _ _ rfl (setRow_heap _ _ _ _ _ _ hres) Tryd.underlying25 rfl infoW) rfl ⟨_, _, _, s5, rfl, HS.out, row_setOther HO.out int_not_win hres, at_setRow HA.out HL.out⟩
          · skip
            go_simp
            go_at_call 13
            refine (n_g i4.at_ 2 (by omega) (by omega)).mono ?_
            rintro r w20 ⟨m20, rfl, hm20, hA, hg⟩
            replace i4 := i4.next hA hg
            go_wp2_with fail
            refine hK.out _ _ i4.cells.1.2.1 (fun hHeld => ?_)
            clear hA hg hK K
            try simp only [Act.put, List.setIfInBounds_toArray, List.set_cons_zero, List.set_cons_succ]
            refine wpAnyH_take (i := 6) (oi := { dst := some 48, op := Op.binOp BinOp.add 2 (Operand.tmp 45) (Operand.tmp 47) 2, type := 2, pos := "l04_gram.go:135", after := #[{ on := 3, ground := Ground.data }, { on := 5, ground := Ground.data }], guard := none }) (v := ?_) rfl (by kernel_rfl) (by kernel_rfl) (by kernel_rfl) (fun _ _ _ h => h) (Or.inl ⟨by rfl, ?_⟩) hHeld ?_
            rotate_left
            · rintro w z0; go_simp; try with_reducible rfl
            try simp only [Act.put, List.setIfInBounds_toArray, List.set_cons_zero, List.set_cons_succ]
            refine wpAnyH_take (i := 7) (oi := { dst := some 49, op := Op.binOp BinOp.sub 2 (Operand.tmp 48) (Operand.const (Value.int IntKind.i64 1)) 2, type := 2, pos := "l04_gram.go:135", after := #[{ on := 6, ground := Ground.data }], guard := none }) (v := ?_) rfl (by kernel_rfl) (by kernel_rfl) (by kernel_rfl) (fun _ _ _ h => h) (Or.inl ⟨by rfl, ?_⟩) hHeld ?_
            rotate_left
            · rintro w z0; go_simp; try with_reducible rfl
            try simp only [Act.put, List.setIfInBounds_toArray, List.set_cons_zero, List.set_cons_succ]
            refine wpAnyH_ready (rs := [1, 8]) (by kernel_rfl) (by simp) ?_
            refine AllReadyH.cons rfl (fun K hK => ?_) (AllReadyH.cons rfl (fun K hK => ?_) AllReadyH.nil)
            · skip
              obtain ⟨⟨_, _, x2⟩, _⟩ := i4.cells
              go_simp
              refine hK.out _ _ hHeld (fun hHeld => ?_)
              clear hK K x2
              try simp only [Act.put, List.setIfInBounds_toArray, List.set_cons_zero, List.set_cons_succ]
              refine wpAnyH_ready (rs := [8]) (by kernel_rfl) (by simp) ?_
              refine AllReadyH.cons rfl (fun K hK => ?_) AllReadyH.nil
              go_simp
              have hc1 := fun x => one_cell w20 x
              have i5 := fun x => i4.up ((Below.refl w20.heap.size w20).alloc (Nat.le_refl _) (.cells #[x] 2))
              refine hK.out _ _ (i5 _).cells.1.2.1 (fun hHeld => ?_)
              clear hK K
              try simp only [Act.put, List.setIfInBounds_toArray, List.set_cons_zero, List.set_cons_succ]
              refine wpAnyH_ready (rs := [9]) (by kernel_rfl) (by simp) ?_
              refine AllReadyH.cons rfl (fun K hK => ?_) AllReadyH.nil
              rw [if_pos (by rfl)]
              refine wp_append_own _ _ _ 23 rfl (w0.heap.size + 1) 2 i0 (.int .i64 0) 1 8 Tryd.underlying23 hi hz0 hz1 hz2 rfl (by decide) _ s.length (s.map (Value.int .i64)) rfl (i5 _).row ⟨w20.heap.size, 0, none⟩ 1 1 [_] rfl rfl (hc1 _) (fun x hx => by simp at hx; subst hx; rfl) (by unfold maxLen; omega) (by omega) (i5 _).base_le ?_
              intro v3 w9 hown3 hgr3 hn3
              clear hn3
              have i6 := (i5 _).append hgr3 hown3
              clear i5 hc1 hgr3
              obtain ⟨p3, n3, cp3, rfl⟩ := row_shape hown3
              clear hown3
              refine hK.out _ _ i6.cells.1.2.1 (fun hHeld => ?_)
              clear hK K i4
              try simp only [Act.put, List.setIfInBounds_toArray, List.set_cons_zero, List.set_cons_succ]
              refine wpAnyH_take (i := 10) (oi := { dst := some 52, op := Op.fieldAddr 25 (Operand.tmp 3) 2, type := 0, pos := "l04_gram.go:135", after := #[{ on := 0, ground := Ground.phase }, { on := 1, ground := Ground.phase }, { on := 2, ground := Ground.phase }, { on := 3, ground := Ground.phase }, { on := 4, ground := Ground.phase }, { on := 5, ground := Ground.phase }, { on := 6, ground := Ground.phase }, { on := 7, ground := Ground.phase }, { on := 8, ground := Ground.phase }, { on := 9, ground := Ground.phase }], guard := none }) (v := ?_) rfl (by kernel_rfl) (by kernel_rfl) (by kernel_rfl) (fun _ _ _ h => h) (Or.inl ⟨by rfl, ?_⟩) hHeld ?_
              rotate_left
              · rintro w z0; go_simp; try with_reducible rfl
              try simp only [Act.put, List.setIfInBounds_toArray, List.set_cons_zero, List.set_cons_succ]
              refine wpAnyH_ready (rs := [11]) (by kernel_rfl) (by simp) ?_
              refine AllReadyH.cons rfl (fun K hK => ?_) AllReadyH.nil
              obtain ⟨⟨_, _, x2⟩, _, _, f2⟩ := i6.cells
              go_simp
              have i7 := i6.put
              obtain ⟨s5, hs5, i8⟩ : ∃ s5 : List Int, s5.length ≤ 1000001 ∧ InDf w0 a len cap R Q e t (.slice p3 n3 cp3) s5 (w9.setCell ⟨Q, 2, none⟩ (.slice p3 n3 cp3)) := ⟨_, by simp; omega, i7⟩
              clear i6 i7 x2 f2
              refine hK.out _ _ (by simp [World.cell?, i8.win]) (fun _ => ?_)
              clear hK K hHeld
              try simp only [Act.put, List.setIfInBounds_toArray, List.set_cons_zero, List.set_cons_succ]
              refine wpAnyH_done (by kernel_rfl) ?_ _
              refine NoPanic.normal ?_
              generalize w9.setCell ⟨Q, 2, none⟩ (.slice p3 n3 cp3) = uz at i8 ⊢
              have hrow := i8.win
              have hres := i8.res
              have HA : Hid (At w0 a len cap (uz)) := i8.at_
              have HL : Hid (w0.heap.size < R) := i8.lt1
              have HO : Hid ((uz).ownsRow (w0.heap.size + 1) 2 1 (.slice p3 n3 cp3) (s5).length ((s5).map (Value.int .i64))) := i8.row
              have HS : Hid ((s5).length ≤ 1000001) := hs5
              clear i8
              go_wp2_with (first | (refine wpList_load_row rfl 25 _ rfl Q rfl _ _ _ _ hrow Tryd.underlying25 rfl infoW ?_) | (refine wpList_store_row rfl 25 _ _ rfl R _ rfl rfl _ _ hres infoW (by rfl) (by simp [Value.oneCell']) ?_))
              exact bodyPost_ret (results_cell_row Tryd.results11 _ _ R _ _ _ _ rfl (setRow_heap _ _ _ _ _ _ hres) Tryd.underlying25 rfl infoW) rfl ⟨_, _, _, s5, rfl, HS.out, row_setOther HO.out int_not_win hres, at_setRow HA.out HL.out⟩
            · skip
              go_simp
              have hc1 := fun x => one_cell w20 x
              have i5 := fun x => i4.up ((Below.refl w20.heap.size w20).alloc (Nat.le_refl _) (.cells #[x] 2))
              refine hK.out _ _ (i5 _).cells.1.2.1 (fun hHeld => ?_)
              clear hK K
              try simp only [Act.put, List.setIfInBounds_toArray, List.set_cons_zero, List.set_cons_succ]
              refine wpAnyH_ready (rs := [1]) (by kernel_rfl) (by simp) ?_
              refine AllReadyH.cons rfl (fun K hK => ?_) AllReadyH.nil
              have x2 := fun x => (i5 x).cells.1.2.2
              go_simp
              refine hK.out _ _ hHeld (fun hHeld => ?_)
              clear hK K x2
              try simp only [Act.put, List.setIfInBounds_toArray, List.set_cons_zero, List.set_cons_succ]
              refine wpAnyH_ready (rs := [9]) (by kernel_rfl) (by simp) ?_
              refine AllReadyH.cons rfl (fun K hK => ?_) AllReadyH.nil
              rw [if_pos (by rfl)]
              refine wp_append_own _ _ _ 23 rfl (w0.heap.size + 1) 2 i0 (.int .i64 0) 1 8 Tryd.underlying23 hi hz0 hz1 hz2 rfl (by decide) _ s.length (s.map (Value.int .i64)) rfl (i5 _).row ⟨w20.heap.size, 0, none⟩ 1 1 [_] rfl rfl (hc1 _) (fun x hx => by simp at hx; subst hx; rfl) (by unfold maxLen; omega) (by omega) (i5 _).base_le ?_
              intro v3 w9 hown3 hgr3 hn3
              clear hn3
              have i6 := (i5 _).append hgr3 hown3
              clear i5 hc1 hgr3
              obtain ⟨p3, n3, cp3, rfl⟩ := row_shape hown3
              clear hown3
              refine hK.out _ _ i6.cells.1.2.1 (fun hHeld => ?_)
              clear hK K i4
              try simp only [Act.put, List.setIfInBounds_toArray, List.set_cons_zero, List.set_cons_succ]
              refine wpAnyH_take (i := 10) (oi := { dst := some 52, op := Op.fieldAddr 25 (Operand.tmp 3) 2, type := 0, pos := "l04_gram.go:135", after := #[{ on := 0, ground := Ground.phase }, { on := 1, ground := Ground.phase }, { on := 2, ground := Ground.phase }, { on := 3, ground := Ground.phase }, { on := 4, ground := Ground.phase }, { on := 5, ground := Ground.phase }, { on := 6, ground := Ground.phase }, { on := 7, ground := Ground.phase }, { on := 8, ground := Ground.phase }, { on := 9, ground := Ground.phase }], guard := none }) (v := ?_) rfl (by kernel_rfl) (by kernel_rfl) (by kernel_rfl) (fun _ _ _ h => h) (Or.inl ⟨by rfl, ?_⟩) hHeld ?_
              rotate_left
              · rintro w z0; go_simp; try with_reducible rfl
              try simp only [Act.put, List.setIfInBounds_toArray, List.set_cons_zero, List.set_cons_succ]
              refine wpAnyH_ready (rs := [11]) (by kernel_rfl) (by simp) ?_
              refine AllReadyH.cons rfl (fun K hK => ?_) AllReadyH.nil
              obtain ⟨⟨_, _, x2⟩, _, _, f2⟩ := i6.cells
              go_simp
              have i7 := i6.put
              obtain ⟨s5, hs5, i8⟩ : ∃ s5 : List Int, s5.length ≤ 1000001 ∧ InDf w0 a len cap R Q e t (.slice p3 n3 cp3) s5 (w9.setCell ⟨Q, 2, none⟩ (.slice p3 n3 cp3)) := ⟨_, by simp; omega, i7⟩
              clear i6 i7 x2 f2
              refine hK.out _ _ (by simp [World.cell?, i8.win]) (fun _ => ?_)
              clear hK K hHeld
              try simp only [Act.put, List.setIfInBounds_toArray, List.set_cons_zero, List.set_cons_succ]
              refine wpAnyH_done (by kernel_rfl) ?_ _
              refine NoPanic.normal ?_
              generalize w9.setCell ⟨Q, 2, none⟩ (.slice p3 n3 cp3) = uz at i8 ⊢
              have hrow := i8.win
              have hres := i8.res
              have HA : Hid (At w0 a len cap (uz)) := i8.at_
              have HL : Hid (w0.heap.size < R) := i8.lt1
              have HO : Hid ((uz).ownsRow (w0.heap.size + 1) 2 1 (.slice p3 n3 cp3) (s5).length ((s5).map (Value.int .i64))) := i8.row
              have HS : Hid ((s5).length ≤ 1000001) := hs5
              clear i8
              go_wp2_with (first | (refine wpList_load_row rfl 25 _ rfl Q rfl _ _ _ _ hrow Tryd.underlying25 rfl infoW ?_) | (refine wpList_store_row rfl 25 _ _ rfl R _ rfl rfl _ _ hres infoW (by rfl) (by simp [Value.oneCell']) ?_))
              exact bodyPost_ret (results_cell_row Tryd.results11 _ _ R _ _ _ _ rfl (setRow_heap _ _ _ _ _ _ hres) Tryd.underlying25 rfl infoW) rfl ⟨_, _, _, s5, rfl, HS.out, row_setOther HO.out int_not_win hres, at_setRow HA.out HL.out⟩
end Go.Proofs.YtodcjhckkbmikaaDoor.dn
