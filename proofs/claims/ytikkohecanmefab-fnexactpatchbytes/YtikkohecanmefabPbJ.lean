/-
  The program's PatchBytes at every patch. No condition.
-/
import Derived.Test.YtikkohecanmefabPbJ0
import Derived.Deep.RegionHeld3
import Derived.OrdersHeld
namespace Go.Proofs.Ytikkohecanmefab.ls
open Go.ChangeShapes Go.WideShapes Go.ChangeAt Go.RowKit
open Go.Proofs.Ytikkohecanmefab.ot
open Go.Proofs.Ytikkohecanmefab.ss (infoS)
open Go.Proofs.Ytikkohecanmefab.jo (joinB)
open Go.Proofs.Ytikkohecanmefab.pn (numB i64P)
open Go.Proofs.Ytikkohecanmefab.pt (putB)
open Go.Proofs.Ytikkohecanmefab.wi (heap_lt calls_w wp_w)
open Classical
set_option linter.unusedVariables false
set_option linter.unusedSimpArgs false

set_option maxHeartbeats 8000000 in
theorem bytesI_any (v : Value) (s : List Ln) (row col : Int) (e : ByteArray) (w : World) (hl : s.length ≤ maxLen) (hz : ∀ r ∈ s, r.2.size ≤ maxLen) (he : e.size ≤ maxLen) (hr : i64P row) (hc : i64P col) (hi : AllI s) (hv : SliceIs w v s) :
    Calls Try.prog 20 #[.agg #[v, .int .i64 row, .int .i64 col, .string e]] w fun r w' => ∃ A, r = .returned (.string A) ∧ PbA s row col e A ∧ Below w.heap.size w w' := by
  have HI0 : Hid (InP w v row col e (w.alloc (.cells #[v, .int .i64 row, .int .i64 col, .string e] 37))) := InP.new
  have HM : Hid (∀ u, Below w.heap.size w u → Calls Try.prog 47 #[.agg #[v, .int .i64 row, .int .i64 col, .string e]] u fun r w' => r = .returned (.bool (decide (FitsP s e))) ∧ Below u.heap.size u w') := fun u hu => fitI_any v s row col e u hl hz he (hv.up hu)
  by_cases h : FitsP s e
  · have hd := decide_eq_true h
    rw [hd] at HM
    have HQ : Hid (PbA s row col e (pxA s row col e)) := ⟨fun _ => rfl, fun h' => absurd h h'⟩
    have HR : Hid (∀ u, Below w.heap.size w u → ∀ k, k < s.length → ∃ b off cap, v = .slice (some ⟨b, off, none⟩) s.length cap ∧ u.cell? ⟨b, off + k * 2, none⟩ = some (.int .i64 (s.getD k ln0).1) ∧ u.cell? ⟨b, off + k * 2 + 1, none⟩ = some (.string (s.getD k ln0).2)) := fun u hu k hk => by
      rcases hv with ⟨p', cap', rfl, rfl⟩ | ⟨b, off, cap, hb, rfl, hR⟩
      · simp at hk
      · exact ⟨b, off, cap, rfl, (hR.below hu hb) k hk⟩
    have hn6 : s.length ≤ 6 := h.1
    have HS : Hid (∀ k, k < s.length → (s.getD k ln0).2.size ≤ 20) := h.2.2
    have HI : Hid (AllI s) := hi
    have he8 : e.size ≤ 8 := h.2.1
    have HPX : Hid (∀ k, k ≤ s.length → (px s k).size ≤ 10 + 40 * k) := px_size s e h hi
    have hN : i64P (s.length : Int) := by unfold i64P; omega
    obtain ⟨p, cap, rfl⟩ := hv.shape
    obtain ⟨n, hn⟩ : ∃ n, n = s.length := ⟨_, rfl⟩
    have HN : Hid (n = s.length) := hn
    have HP0 : Hid (pxs s 0 = [numB (n : Int)]) := by show [numB (s.length : Int)] = _; rw [hn]
    have HPS : Hid (∀ k, pxs s (k + 1) = pxs s k ++ [numB (s.getD k ln0).1, putB (s.getD k ln0).2]) := fun k => rfl
    have HPA : Hid (pxsA s row col e = pxs s n ++ [numB row, numB col, putB e]) := by rw [hn]; rfl
    rw [← hn] at hn6 HI0 HM HPX HS HR hN ⊢
    clear hd hn h hi hl hz hv
    go_enter Try.func20, Try.ntmps20
    go_wp2_with (go_at_call 47; fail)
    refine calls_w (InP w (.slice p n cap) row col e) HI0.out ?_
    clear HI0
    intro u0 i0
    refine (HM.out u0 i0.1).mono ?_
    rintro r w1 ⟨rfl, hb1⟩
    have i1 := i0.up hb1
    clear i0 hb1 HM
    obtain ⟨x0, x1, x2, x3⟩ := i1.cells
    go_wp2_with (go_at_call 48; fail)
    refine (pn.impl_any _ _ hN).mono ?_
    rintro r w2 ⟨rfl, hb2⟩
    have i2 := i1.up hb2
    clear i1 hb2 x0 x1 x2 x3
    obtain ⟨x0, x1, x2, x3⟩ := (i2.up ((Below.refl _ _).alloc (Nat.le_refl _) (.cells #[.string (numB (n : Int))] 9))).cells
    have j2 : InJ w2 (.slice (some ⟨w2.heap.size, 0, none⟩) 1 1) (pxs s 0) (w2.alloc (.cells #[.string (numB (n : Int))] 9)) := by
      rw [HP0.out]; exact ⟨(Below.refl _ _).alloc (Nat.le_refl _) _, lit1 _ _⟩
    have HJ : Hid (InJ w2 (.slice (some ⟨w2.heap.size, 0, none⟩) 1 1) (pxs s 0) (w2.alloc (.cells #[.string (numB (n : Int))] 9))) := j2
    clear j2 HP0
    go_wp2_with fail
    have HI2 : Hid (InP w (.slice p n cap) row col e w2) := i2
    clear i2 x0 x1 x2 x3
    go_loopw [3, 17] (fun pv i u => ∃ k : Nat, k ≤ n ∧ i = .int .i64 k ∧ Hid (InJ w2 pv (pxs s k) u)) (fun _ i _ => n - (intOf i).toNat)
    case atStart => exact ⟨0, Nat.zero_le _, rfl, HJ⟩
    case round =>
      clear HJ
      obtain ⟨k, hk, rfl, HO⟩ := hrel
      obtain ⟨P0, C0, hp0⟩ := HO.out.row.shape
      subst hp0
      have HPw : Hid (∀ v L u, InJ w2 v L u → InP w (.slice p n cap) row col e u) := fun v L u hu => HI2.out.up hu.bel
      by_cases hlt : k < n
      · obtain ⟨b, off, cap', hp, hC0⟩ := (HR.out w (Below.refl _ _) k hlt)
        cases hp
        clear hC0
        obtain ⟨x, hx⟩ : ∃ x, x = (s.getD k ln0).2 := ⟨_, rfl⟩
        obtain ⟨z, hz'⟩ : ∃ z, z = (s.getD k ln0).1 := ⟨_, rfl⟩
        have HC : Hid (∀ u, Below w.heap.size w u → u.cell? ⟨b, off + k * 2, none⟩ = some (.int .i64 z) ∧ u.cell? ⟨b, off + k * 2 + 1, none⟩ = some (.string x)) := fun u hu => by
          obtain ⟨b', off', cap', hp, hh⟩ := HR.out u hu k hlt
          cases hp
          rw [hx, hz']; exact hh
        have hzi : i64P z := by rw [hz']; exact HI.out k (by rw [← HN.out]; exact hlt)
        have hx20 : x.size ≤ 20 := by rw [hx]; exact HS.out k hlt
        have HPn : Hid (∀ u, Calls Try.prog 48 #[.int .i64 z] u fun e w' => e = .returned (.string (numB z)) ∧ Below u.heap.size u w') := fun u => pn.impl_any z u hzi
        have HPt : Hid (∀ u, Calls Try.prog 49 #[.string x] u fun e w' => e = .returned (.string (putB x)) ∧ Below u.heap.size u w') := fun u => pt.impl_any x u (by unfold maxLen; omega)
        have h4 : Hid (pxs s (k + 1) = pxs s k ++ [numB z, putB x]) := by rw [hx, hz']; exact HPS.out k
        have hki : (k : Int) < (n : Int) := by omega
        have hne := pxs_ne s k
        have HLn : Hid ((pxs s k).length = 2 * k + 1) := pxs_length s k
        generalize numB z = N at *
        generalize putB x = T at *
        generalize pxs s k = L at *
        obtain ⟨c1, c2⟩ := HC.out _ (HPw.out _ _ _ HO.out).1
        clear hx hz' hzi hx20
        go_wp2_with fail
        clear c1 c2
        obtain ⟨i0, hi, hz0, hz1, hz2⟩ := info_parts infoS
        obtain ⟨q, hq⟩ : ∃ q, q = wr.heap.size := ⟨_, rfl⟩
        have hQ0 : InQ w2 (.slice P0 L.length C0) L q z x (wr.alloc (.cells #[.int .i64 z, .string x] 60)) := by
          rw [hq]; exact ⟨HO.out.up ((Below.refl _ _).alloc (Nat.le_refl _) _), heap_alloc_new _ _⟩
        rw [← hq]
        generalize wr.alloc (.cells #[.int .i64 z, .string x] 60) = ur at *
        have hQ : InQ w2 (.slice P0 L.length C0) L q z x ur.drew := ⟨⟨hQ0.j.bel.drew, hQ0.j.row⟩, hQ0.line⟩
        clear hQ0 hq HO
        have HS : Hid (∀ v L u, InQ w2 v L q z x u → (u.cell? ⟨q, 0, none⟩ = some (.int .i64 z) ∧ u.cell? ⟨q, 1, none⟩ = some (.string x))) := fun v L u hu => hu.cells
        refine wp_region_noPanic ?_
        refine wp_region_held_drew (S := fun u => u.cell? ⟨q, 0, none⟩ = some (.int .i64 z) ∧ u.cell? ⟨q, 1, none⟩ = some (.string x)) (by kernel_rfl) (HS.out _ _ _ hQ) (fun hHeld => ?_)
        refine wpAnyH_take (i := 0) (oi := { dst := some 21, op := Op.move (Operand.tmp 3), type := 22, pos := "l06_term.go:412", after := #[], guard := none }) (v := ?_) rfl (by kernel_rfl) (by kernel_rfl) (by kernel_rfl) (fun _ _ _ h => h) (Or.inl ⟨by rfl, ?_⟩) hHeld ?_
        rotate_left
        · rintro w ⟨z0, z1⟩; go_simp; (try with_reducible rfl)
        try simp only [Act.put, List.setIfInBounds_toArray, List.set_cons_zero, List.set_cons_succ]
        refine wpAnyH_take (i := 1) (oi := { dst := some 22, op := Op.fieldAddr 60 (Operand.tmp 5) 0, type := 0, pos := "l06_term.go:412", after := #[], guard := none }) (v := ?_) rfl (by kernel_rfl) (by kernel_rfl) (by kernel_rfl) (fun _ _ _ h => h) (Or.inl ⟨by rfl, ?_⟩) hHeld ?_
        rotate_left
        · rintro w ⟨z0, z1⟩; go_simp; (try with_reducible rfl)
        try simp only [Act.put, List.setIfInBounds_toArray, List.set_cons_zero, List.set_cons_succ]
        refine wpAnyH_take (i := 2) (oi := { dst := some 23, op := Op.load 2 (Operand.tmp 22), type := 2, pos := "l06_term.go:412", after := #[{ on := 1, ground := Ground.data }], guard := none }) (v := ?_) rfl (by kernel_rfl) (by kernel_rfl) (by kernel_rfl) (fun _ _ _ h => h) (Or.inl ⟨by rfl, ?_⟩) hHeld ?_
        rotate_left
        · rintro w ⟨z0, z1⟩; go_simp; (try with_reducible rfl)
        try simp only [Act.put, List.setIfInBounds_toArray, List.set_cons_zero, List.set_cons_succ]
        refine wpAnyH_take (i := 4) (oi := { dst := some 25, op := Op.fieldAddr 60 (Operand.tmp 5) 1, type := 0, pos := "l06_term.go:412", after := #[], guard := none }) (v := ?_) rfl (by kernel_rfl) (by kernel_rfl) (by kernel_rfl) (fun _ _ _ h => h) (Or.inl ⟨by rfl, ?_⟩) hHeld ?_
        rotate_left
        · rintro w ⟨z0, z1⟩; go_simp; (try with_reducible rfl)
        try simp only [Act.put, List.setIfInBounds_toArray, List.set_cons_zero, List.set_cons_succ]
        refine wpAnyH_take (i := 5) (oi := { dst := some 26, op := Op.load 9 (Operand.tmp 25), type := 9, pos := "l06_term.go:412", after := #[{ on := 4, ground := Ground.data }], guard := none }) (v := ?_) rfl (by kernel_rfl) (by kernel_rfl) (by kernel_rfl) (fun _ _ _ h => h) (Or.inl ⟨by rfl, ?_⟩) hHeld ?_
        rotate_left
        · rintro w ⟨z0, z1⟩; go_simp; (try with_reducible rfl)
        try simp only [Act.put, List.setIfInBounds_toArray, List.set_cons_zero, List.set_cons_succ]
        refine wpAnyH_ready (rs := [3]) (by kernel_rfl) (by simp) ?_
        refine AllReadyH.cons rfl (fun K hK => ?_) AllReadyH.nil
        go_simp
        go_at_call 48
        refine (HPn.out _).mono ?_
        rintro e1 u1 ⟨rfl, hb1⟩
        have i1 := (hQ).up hb1
        go_wp2_with fail
        refine hK.out _ _ (HS.out _ _ _ i1) (fun hHeld => ?_)
        clear hb1
        clear hK K
        try simp only [Act.put, List.setIfInBounds_toArray, List.set_cons_zero, List.set_cons_succ]
        refine wpAnyH_ready (rs := [6]) (by kernel_rfl) (by simp) ?_
        refine AllReadyH.cons rfl (fun K hK => ?_) AllReadyH.nil
        go_simp
        go_at_call 49
        refine (HPt.out _).mono ?_
        rintro e2 u2 ⟨rfl, hb2⟩
        have i2 := (i1).up hb2
        go_wp2_with fail
        refine hK.out _ _ (HS.out _ _ _ i2) (fun hHeld => ?_)
        clear hb2
        clear hK K
        try simp only [Act.put, List.setIfInBounds_toArray, List.set_cons_zero, List.set_cons_succ]
        refine wpAnyH_ready (rs := [7]) (by kernel_rfl) (by simp) ?_
        refine AllReadyH.cons rfl (fun K hK => ?_) AllReadyH.nil
        go_simp
        have hcb := cell2 u2 (.string N) (.string T) 9
        have ib := (i2).up ((Below.refl _ _).alloc (Nat.le_refl _) (.cells #[.string N, .string T] 9))
        refine hK.out _ _ (HS.out _ _ _ ib) (fun hHeld => ?_)
        clear hK K
        try simp only [Act.put, List.setIfInBounds_toArray, List.set_cons_zero, List.set_cons_succ]
        refine wpAnyH_ready (rs := [8]) (by kernel_rfl) (by simp) ?_
        refine AllReadyH.cons rfl (fun K hK => ?_) AllReadyH.nil
        rw [if_pos (by rfl)]
        refine wp_append_own _ _ _ 22 rfl w2.heap.size 9 i0 (.string ⟨#[]⟩) 1 16 Try.underlying22 hi hz0 hz1 hz2 rfl (by decide) _ L.length (L.map Value.string) rfl ib.j.row ⟨u2.heap.size, 0, none⟩ 2 2 [.string N, .string T] rfl rfl hcb (fun y hy => by simp at hy; rcases hy with rfl | rfl <;> rfl) (by have := HLn.out; unfold maxLen; omega) (by have := HLn.out; omega) ib.j.bel.size ?_
        intro v4 w4 hown hgr hnil
        clear hnil
        have i9 := ib.app (m := [N, T]) hne hgr hown
        refine hK.out _ _ (HS.out _ _ _ i9) (fun hHeld => ?_)
        clear hown hgr hcb ib
        clear hK K
        try simp only [Act.put, List.setIfInBounds_toArray, List.set_cons_zero, List.set_cons_succ]
        refine wpAnyH_take (i := 9) (oi := { dst := some 3, op := Op.assign (Operand.tmp 29), type := 22, pos := "l06_term.go:412", after := #[{ on := 8, ground := Ground.data }, { on := 8, ground := Ground.chain }, { on := 0, ground := Ground.phase }, { on := 1, ground := Ground.phase }, { on := 2, ground := Ground.phase }, { on := 3, ground := Ground.phase }, { on := 4, ground := Ground.phase }, { on := 5, ground := Ground.phase }, { on := 6, ground := Ground.phase }, { on := 7, ground := Ground.phase }, { on := 8, ground := Ground.phase }], guard := none }) (v := ?_) rfl (by kernel_rfl) (by kernel_rfl) (by kernel_rfl) (fun _ _ _ h => h) (Or.inl ⟨by rfl, ?_⟩) hHeld ?_
        rotate_left
        · rintro w ⟨z0, z1⟩; go_simp; (try with_reducible rfl)
        try simp only [Act.put, List.setIfInBounds_toArray, List.set_cons_zero, List.set_cons_succ]
        refine wpAnyH_done (by kernel_rfl) ?_ _
        refine NoPanic.normal ?_
        have HF : Hid (InJ w2 v4 (pxs s (k + 1)) w4) := by show InJ _ _ _ _; rw [h4.out]; exact i9.j
        clear i9 i1 i2 hQ
        go_wp2
        exact ⟨⟨k + 1, by omega, by go_num, HF⟩, by simp [intOf]; omega⟩
      · obtain rfl : k = n := by omega
        go_wp2_with fail
        obtain ⟨i0, hi, hz0, hz1, hz2⟩ := info_parts infoS
        have HPr : Hid (∀ u, Calls Try.prog 48 #[.int .i64 row] u fun e w' => e = .returned (.string (numB row)) ∧ Below u.heap.size u w') := fun u => pn.impl_any row u hr
        have HPc : Hid (∀ u, Calls Try.prog 48 #[.int .i64 col] u fun e w' => e = .returned (.string (numB col)) ∧ Below u.heap.size u w') := fun u => pn.impl_any col u hc
        have HPt : Hid (∀ u, Calls Try.prog 49 #[.string e] u fun r w' => r = .returned (.string (putB e)) ∧ Below u.heap.size u w') := fun u => pt.impl_any e u he
        have HLn : Hid ((pxs s k).length = 2 * k + 1) := pxs_length s k
        have hsz : (pxA s row col e).size ≤ 1000 := by
          unfold pxA
          rw [← HN.out]
          have a1 := HPX.out k (Nat.le_refl _)
          have a2 := pt.numB_size_le hr
          have a3 := pt.numB_size_le hc
          have a4 := put_small (t := e) (by omega)
          simp only [ByteArray.size_append]
          omega
        have hla : (pxsA s row col e).length ≤ 1000000 := by
          rw [HPA.out, List.length_append, HLn.out]; simp; omega
        have HJo : Hid (∀ v u, OwT w2.heap.size v (pxsA s row col e) u → Calls Try.prog 50 #[v] u fun r w' => r = .returned (.string (pxA s row col e)) ∧ Below u.heap.size u w') := fun v u hu => by
          have := joined_own (pxsA s row col e) w2.heap.size v u hla (by rw [join_pxsA]; omega) hu
          rwa [join_pxsA] at this
        rw [HPA.out] at HJo
        clear hr hc HPA HPX HS HI HR HN hN HPS hsz hla
        generalize numB row = N at *
        generalize numB col = M at *
        generalize putB e = T at *
        generalize pxs s k = L at *
        generalize pxA s row col e = A at *
        have hJ : InJ w2 (.slice P0 L.length C0) L wr.drew := ⟨HO.out.bel.drew, HO.out.row⟩
        clear HO
        have HS : Hid (∀ v L u, InJ w2 v L u → (u.cell? ⟨w.heap.size, 0, none⟩ = some (.slice p k cap) ∧ u.cell? ⟨w.heap.size, 1, none⟩ = some (.int .i64 row) ∧ u.cell? ⟨w.heap.size, 2, none⟩ = some (.int .i64 col) ∧ u.cell? ⟨w.heap.size, 3, none⟩ = some (.string e))) := fun v L u hu => (HPw.out v L u hu).cells
        refine wp_region_noPanic ?_
        refine wp_region_held_drew (S := fun u => u.cell? ⟨w.heap.size, 0, none⟩ = some (.slice p k cap) ∧ u.cell? ⟨w.heap.size, 1, none⟩ = some (.int .i64 row) ∧ u.cell? ⟨w.heap.size, 2, none⟩ = some (.int .i64 col) ∧ u.cell? ⟨w.heap.size, 3, none⟩ = some (.string e)) (by kernel_rfl) (HS.out _ _ _ hJ) (fun hHeld => ?_)
        refine wpAnyH_take (i := 0) (oi := { dst := some 31, op := Op.move (Operand.tmp 3), type := 22, pos := "l06_term.go:414", after := #[], guard := none }) (v := ?_) rfl (by kernel_rfl) (by kernel_rfl) (by kernel_rfl) (fun _ _ _ h => h) (Or.inl ⟨by rfl, ?_⟩) hHeld ?_
        rotate_left
        · rintro w ⟨z0, z1, z2, z3⟩; go_simp; (try with_reducible rfl)
        try simp only [Act.put, List.setIfInBounds_toArray, List.set_cons_zero, List.set_cons_succ]
        refine wpAnyH_take (i := 1) (oi := { dst := some 32, op := Op.fieldAddr 37 (Operand.tmp 1) 1, type := 0, pos := "l06_term.go:414", after := #[], guard := none }) (v := ?_) rfl (by kernel_rfl) (by kernel_rfl) (by kernel_rfl) (fun _ _ _ h => h) (Or.inl ⟨by rfl, ?_⟩) hHeld ?_
        rotate_left
        · rintro w ⟨z0, z1, z2, z3⟩; go_simp; (try with_reducible rfl)
        try simp only [Act.put, List.setIfInBounds_toArray, List.set_cons_zero, List.set_cons_succ]
        refine wpAnyH_take (i := 2) (oi := { dst := some 33, op := Op.load 2 (Operand.tmp 32), type := 2, pos := "l06_term.go:414", after := #[{ on := 1, ground := Ground.data }], guard := none }) (v := ?_) rfl (by kernel_rfl) (by kernel_rfl) (by kernel_rfl) (fun _ _ _ h => h) (Or.inl ⟨by rfl, ?_⟩) hHeld ?_
        rotate_left
        · rintro w ⟨z0, z1, z2, z3⟩; go_simp; (try with_reducible rfl)
        try simp only [Act.put, List.setIfInBounds_toArray, List.set_cons_zero, List.set_cons_succ]
        refine wpAnyH_take (i := 4) (oi := { dst := some 35, op := Op.fieldAddr 37 (Operand.tmp 1) 2, type := 0, pos := "l06_term.go:414", after := #[], guard := none }) (v := ?_) rfl (by kernel_rfl) (by kernel_rfl) (by kernel_rfl) (fun _ _ _ h => h) (Or.inl ⟨by rfl, ?_⟩) hHeld ?_
        rotate_left
        · rintro w ⟨z0, z1, z2, z3⟩; go_simp; (try with_reducible rfl)
        try simp only [Act.put, List.setIfInBounds_toArray, List.set_cons_zero, List.set_cons_succ]
        refine wpAnyH_take (i := 5) (oi := { dst := some 36, op := Op.load 2 (Operand.tmp 35), type := 2, pos := "l06_term.go:414", after := #[{ on := 4, ground := Ground.data }], guard := none }) (v := ?_) rfl (by kernel_rfl) (by kernel_rfl) (by kernel_rfl) (fun _ _ _ h => h) (Or.inl ⟨by rfl, ?_⟩) hHeld ?_
        rotate_left
        · rintro w ⟨z0, z1, z2, z3⟩; go_simp; (try with_reducible rfl)
        try simp only [Act.put, List.setIfInBounds_toArray, List.set_cons_zero, List.set_cons_succ]
        refine wpAnyH_take (i := 7) (oi := { dst := some 38, op := Op.fieldAddr 37 (Operand.tmp 1) 3, type := 0, pos := "l06_term.go:414", after := #[], guard := none }) (v := ?_) rfl (by kernel_rfl) (by kernel_rfl) (by kernel_rfl) (fun _ _ _ h => h) (Or.inl ⟨by rfl, ?_⟩) hHeld ?_
        rotate_left
        · rintro w ⟨z0, z1, z2, z3⟩; go_simp; (try with_reducible rfl)
        try simp only [Act.put, List.setIfInBounds_toArray, List.set_cons_zero, List.set_cons_succ]
        refine wpAnyH_take (i := 8) (oi := { dst := some 39, op := Op.load 9 (Operand.tmp 38), type := 9, pos := "l06_term.go:414", after := #[{ on := 7, ground := Ground.data }], guard := none }) (v := ?_) rfl (by kernel_rfl) (by kernel_rfl) (by kernel_rfl) (fun _ _ _ h => h) (Or.inl ⟨by rfl, ?_⟩) hHeld ?_
        rotate_left
        · rintro w ⟨z0, z1, z2, z3⟩; go_simp; (try with_reducible rfl)
        try simp only [Act.put, List.setIfInBounds_toArray, List.set_cons_zero, List.set_cons_succ]
        refine wpAnyH_ready (rs := [3]) (by kernel_rfl) (by simp) ?_
        refine AllReadyH.cons rfl (fun K hK => ?_) AllReadyH.nil
        go_simp
        go_at_call 48
        refine (HPr.out _).mono ?_
        rintro e1 u1 ⟨rfl, hb1⟩
        have i1 := (hJ).up hb1
        go_wp2_with fail
        refine hK.out _ _ (HS.out _ _ _ i1) (fun hHeld => ?_)
        clear hb1
        clear hK K
        try simp only [Act.put, List.setIfInBounds_toArray, List.set_cons_zero, List.set_cons_succ]
        refine wpAnyH_ready (rs := [6]) (by kernel_rfl) (by simp) ?_
        refine AllReadyH.cons rfl (fun K hK => ?_) AllReadyH.nil
        go_simp
        go_at_call 48
        refine (HPc.out _).mono ?_
        rintro e2 u2 ⟨rfl, hb2⟩
        have i2 := (i1).up hb2
        go_wp2_with fail
        refine hK.out _ _ (HS.out _ _ _ i2) (fun hHeld => ?_)
        clear hb2
        clear hK K
        try simp only [Act.put, List.setIfInBounds_toArray, List.set_cons_zero, List.set_cons_succ]
        refine wpAnyH_ready (rs := [9]) (by kernel_rfl) (by simp) ?_
        refine AllReadyH.cons rfl (fun K hK => ?_) AllReadyH.nil
        go_simp
        go_at_call 49
        refine (HPt.out _).mono ?_
        rintro e3 u3 ⟨rfl, hb3⟩
        have i3 := (i2).up hb3
        go_wp2_with fail
        refine hK.out _ _ (HS.out _ _ _ i3) (fun hHeld => ?_)
        clear hb3
        clear hK K
        try simp only [Act.put, List.setIfInBounds_toArray, List.set_cons_zero, List.set_cons_succ]
        refine wpAnyH_ready (rs := [10]) (by kernel_rfl) (by simp) ?_
        refine AllReadyH.cons rfl (fun K hK => ?_) AllReadyH.nil
        go_simp
        have hcb := cell3 u3 (.string N) (.string M) (.string T) 9
        have ib := (i3).up ((Below.refl _ _).alloc (Nat.le_refl _) (.cells #[.string N, .string M, .string T] 9))
        refine hK.out _ _ (HS.out _ _ _ ib) (fun hHeld => ?_)
        clear hK K
        try simp only [Act.put, List.setIfInBounds_toArray, List.set_cons_zero, List.set_cons_succ]
        refine wpAnyH_ready (rs := [11]) (by kernel_rfl) (by simp) ?_
        refine AllReadyH.cons rfl (fun K hK => ?_) AllReadyH.nil
        rw [if_pos (by rfl)]
        refine wp_append_own _ _ _ 22 rfl w2.heap.size 9 i0 (.string ⟨#[]⟩) 1 16 Try.underlying22 hi hz0 hz1 hz2 rfl (by decide) _ L.length (L.map Value.string) rfl ib.row ⟨u3.heap.size, 0, none⟩ 3 3 [.string N, .string M, .string T] rfl rfl hcb (fun y hy => by simp at hy; rcases hy with rfl | rfl | rfl <;> rfl) (by have := HLn.out; unfold maxLen; omega) (by have := HLn.out; omega) ib.bel.size ?_
        intro v4 w4 hown hgr hnil
        clear hnil
        have i9 := ib.app (m := [N, M, T]) hgr hown
        refine hK.out _ _ (HS.out _ _ _ i9) (fun hHeld => ?_)
        clear hown hgr hcb ib
        clear hK K
        try simp only [Act.put, List.setIfInBounds_toArray, List.set_cons_zero, List.set_cons_succ]
        refine wpAnyH_take (i := 12) (oi := { dst := some 3, op := Op.assign (Operand.tmp 42), type := 22, pos := "l06_term.go:414", after := #[{ on := 11, ground := Ground.data }, { on := 11, ground := Ground.chain }, { on := 0, ground := Ground.phase }, { on := 1, ground := Ground.phase }, { on := 2, ground := Ground.phase }, { on := 3, ground := Ground.phase }, { on := 4, ground := Ground.phase }, { on := 5, ground := Ground.phase }, { on := 6, ground := Ground.phase }, { on := 7, ground := Ground.phase }, { on := 8, ground := Ground.phase }, { on := 9, ground := Ground.phase }, { on := 10, ground := Ground.phase }, { on := 11, ground := Ground.phase }], guard := none }) (v := ?_) rfl (by kernel_rfl) (by kernel_rfl) (by kernel_rfl) (fun _ _ _ h => h) (Or.inl ⟨by rfl, ?_⟩) hHeld ?_
        rotate_left
        · rintro w ⟨z0, z1, z2, z3⟩; go_simp; (try with_reducible rfl)
        try simp only [Act.put, List.setIfInBounds_toArray, List.set_cons_zero, List.set_cons_succ]
        refine wpAnyH_done (by kernel_rfl) ?_ _
        refine NoPanic.normal ?_
        have HF : Hid (InJ w2 v4 (L ++ [N, M, T]) w4) := i9
        clear i9 i1 i2 i3 hJ
        go_wp2_with (go_at_call 50; fail)
        refine (HJo.out _ _ HF.out.row).mono ?_
        rintro r w5 ⟨rfl, hb5⟩
        have HB5 : Hid (Below w.heap.size w w5) := (HPw.out _ _ _ (HF.out.up hb5)).1
        clear hb5 HF
        go_wp2
        go_ret
        exact ⟨_, rfl, HQ.out, HB5.out⟩
  · have HQ : Hid (PbA s row col e ⟨#[]⟩) := ⟨fun h' => absurd h' h, fun _ => rfl⟩
    rw [decide_eq_false h] at HM
    clear hv
    go_enter Try.func20, Try.ntmps20
    go_wp2_with (go_at_call 47; fail)
    refine calls_w (InP w v row col e) HI0.out ?_
    clear HI0
    intro u0 i0
    refine (HM.out u0 i0.1).mono ?_
    rintro r w1 ⟨rfl, hb1⟩
    have HB : Hid (Below w.heap.size w w1) := (i0.up hb1).1
    clear i0 hb1 HM
    go_wp2
    go_ret
    exact ⟨_, rfl, HQ.out, HB.out⟩
end Go.Proofs.Ytikkohecanmefab.ls
