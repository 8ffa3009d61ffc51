/-
  The model's PatchBytes at every patch. No condition.
-/
import Derived.Test.YtikkohecanmefabPbM
import Derived.Deep.RegionHeld3
import Derived.OrdersHeld
namespace Go.Proofs.Ytikkohecanmefab.ls
open Go.ChangeShapes Go.WideShapes Go.ChangeAt Go.RowKit
open Go.Proofs.Ytikkohecanmefab.pn (numB i64P)
open Go.Proofs.Ytikkohecanmefab.pt (putB)
open Go.Proofs.Ytikkohecanmefab.wi (heap_lt calls_w wp_w)
open Classical
set_option linter.unusedVariables false

/-- what PatchBytes answers -/
def PbA (s : List Ln) (row col : Int) (e A : ByteArray) : Prop := (FitsP s e → A = pxA s row col e) ∧ (¬ FitsP s e → A = ⟨#[]⟩)
theorem PbA.one {s : List Ln} {row col : Int} {e A B : ByteArray} (h : PbA s row col e A) (h' : PbA s row col e B) : A = B := by
  by_cases hf : FitsP s e
  · rw [h.1 hf, h'.1 hf]
  · rw [h.2 hf, h'.2 hf]

set_option maxHeartbeats 8000000 in
theorem bytesM_any (v : Value) (s : List Ln) (row col : Int) (e : ByteArray) (w : World) (hl : s.length ≤ maxLen) (hz : ∀ r ∈ s, r.2.size ≤ maxLen) (he : e.size ≤ maxLen) (hr : i64P row) (hc : i64P col) (hi : AllI s) (hv : SliceIs w v s) :
    Calls Try.prog 19 #[.agg #[v, .int .i64 row, .int .i64 col, .string e]] w fun r w' => ∃ A, r = .returned (.string A) ∧ PbA s row col e A ∧ Below w.heap.size w w' := by
  have HI0 : Hid (InP w v row col e (w.alloc (.cells #[v, .int .i64 row, .int .i64 col, .string e] 37))) := InP.new
  have HM : Hid (∀ u, Below w.heap.size w u → Calls Try.prog 44 #[.agg #[v, .int .i64 row, .int .i64 col, .string e]] u fun r w' => r = .returned (.bool (decide (FitsP s e))) ∧ Below u.heap.size u w') := fun u hu => smallM_any v s row col e u hl hz he (hv.up hu)
  by_cases h : FitsP s e
  · have hd := decide_eq_true h
    rw [hd] at HM
    have HQ : Hid (PbA s row col e (pxA s row col e)) := ⟨fun _ => rfl, fun h' => absurd h h'⟩
    have HR : Hid (∀ u, Below w.heap.size w u → ∀ k, k < s.length → ∃ b off cap, v = .slice (some ⟨b, off, none⟩) s.length cap ∧ u.cell? ⟨b, off + k * 2, none⟩ = some (.int .i64 (s.getD k ln0).1) ∧ u.cell? ⟨b, off + k * 2 + 1, none⟩ = some (.string (s.getD k ln0).2)) := fun u hu k hk => by
      rcases hv with ⟨p', cap', rfl, rfl⟩ | ⟨b, off, cap, hb, rfl, hR⟩
      · simp at hk
      · exact ⟨b, off, cap, rfl, (hR.below hu hb) k hk⟩
    have hn6 : s.length ≤ 6 := h.1
    have HS : Hid (∀ k, k < s.length → (s.getD k ln0).2.size ≤ 20) := h.2.2
    have HI : Hid (AllI s) := hi
    have he8 : e.size ≤ 8 := h.2.1
    have HPX : Hid (∀ k, k ≤ s.length → (px s k).size ≤ 10 + 40 * k) := px_size s e h hi
    have hN : i64P (s.length : Int) := by unfold i64P; omega
    obtain ⟨p, cap, rfl⟩ := hv.shape
    obtain ⟨n, hn⟩ : ∃ n, n = s.length := ⟨_, rfl⟩
    have HN : Hid (n = s.length) := hn
    have HP0 : Hid (numB (n : Int) = px s 0) := by show _ = numB (s.length : Int); rw [hn]
    have HPS : Hid (∀ k, px s (k + 1) = px s k ++ numB (s.getD k ln0).1 ++ putB (s.getD k ln0).2) := fun k => rfl
    have HPA : Hid (pxA s row col e = px s n ++ numB row ++ numB col ++ putB e) := by rw [hn]; rfl
    rw [← hn] at hn6 HI0 HM HPX HS HR hN ⊢
    clear hd hn h hi hl hz hv
    go_enter Try.func19, Try.ntmps19
    go_wp2_with (go_at_call 44; fail)
    refine calls_w (InP w (.slice p n cap) row col e) HI0.out ?_
    clear HI0
    intro u0 i0
    refine (HM.out u0 i0.1).mono ?_
    rintro r w1 ⟨rfl, hb1⟩
    have i1 := i0.up hb1
    clear i0 hb1 HM
    obtain ⟨x0, x1, x2, x3⟩ := i1.cells
    go_wp2_with (go_at_call 45; fail)
    refine (pn.spec_any _ _ hN).mono ?_
    rintro r w2 ⟨rfl, hb2⟩
    have i2 := i1.up hb2
    clear i1 hb2 x0 x1 x2 x3
    rw [HP0.out]
    clear HP0
    go_wp2_with fail
    go_loopw [3, 4] (fun t i u => ∃ k : Nat, k ≤ n ∧ i = .int .i64 k ∧ t = .string (px s k) ∧ Hid (InP w (.slice p n cap) row col e u)) (fun _ i _ => n - (intOf i).toNat)
    case atStart => exact ⟨0, Nat.zero_le _, rfl, rfl, i2⟩
    case round =>
      clear i2
      obtain ⟨k, hk, rfl, rfl, HU⟩ := hrel
      by_cases hlt : k < n
      · obtain ⟨b, off, cap', hp, hC0⟩ := (HR.out w (Below.refl _ _) k hlt)
        cases hp
        clear hC0
        obtain ⟨x, hx⟩ : ∃ x, x = (s.getD k ln0).2 := ⟨_, rfl⟩
        obtain ⟨z, hz'⟩ : ∃ z, z = (s.getD k ln0).1 := ⟨_, rfl⟩
        have HC : Hid (∀ u, Below w.heap.size w u → u.cell? ⟨b, off + k * 2, none⟩ = some (.int .i64 z) ∧ u.cell? ⟨b, off + k * 2 + 1, none⟩ = some (.string x)) := fun u hu => by
          obtain ⟨b', off', cap', hp, hh⟩ := HR.out u hu k hlt
          cases hp
          rw [hx, hz']; exact hh
        have hzi : i64P z := by rw [hz']; exact HI.out k (by rw [← HN.out]; exact hlt)
        have hx20 : x.size ≤ 20 := by rw [hx]; exact HS.out k hlt
        have HPn : Hid (∀ u, Calls Try.prog 45 #[.int .i64 z] u fun e w' => e = .returned (.string (numB z)) ∧ Below u.heap.size u w') := fun u => pn.spec_any z u hzi
        have HPt : Hid (∀ u, Calls Try.prog 46 #[.string x] u fun e w' => e = .returned (.string (putB x)) ∧ Below u.heap.size u w') := fun u => pt.spec_any x u (by unfold maxLen; omega)
        have h1 := HPX.out k hk
        have h2 := pt.numB_size_le hzi
        have h3 := put_small hx20
        have h4 : Hid (px s (k + 1) = px s k ++ numB z ++ putB x) := by rw [hx, hz']; exact HPS.out k
        have hki : (k : Int) < (n : Int) := by omega
        generalize numB z = N at *
        generalize putB x = T at *
        obtain ⟨y, hy⟩ : ∃ y, y = px s k := ⟨_, rfl⟩
        rw [← hy] at h1 h4 ⊢
        clear hx hz' hzi hx20 hy
        obtain ⟨x0, x1, x2, x3⟩ := HU.out.cells
        go_wp2_with fail
        clear x0 x1 x2 x3
        have hJ : InP w (.slice (some ⟨b, off, none⟩) n cap) row col e wr.drew := ⟨HU.out.1.drew, HU.out.2⟩
        have HS : Hid (∀ u, InP w (.slice (some ⟨b, off, none⟩) n cap) row col e u → ((u.cell? ⟨w.heap.size, 0, none⟩ = some (.slice (some ⟨b, off, none⟩) n cap) ∧ u.cell? ⟨w.heap.size, 1, none⟩ = some (.int .i64 row) ∧ u.cell? ⟨w.heap.size, 2, none⟩ = some (.int .i64 col) ∧ u.cell? ⟨w.heap.size, 3, none⟩ = some (.string e)) ∧ u.cell? ⟨b, off + k * 2, none⟩ = some (.int .i64 z) ∧ u.cell? ⟨b, off + k * 2 + 1, none⟩ = some (.string x))) := fun u hu => ⟨hu.cells, HC.out u hu.1⟩
        clear HU
        refine wp_region_noPanic ?_
        refine wp_region_held_drew (S := fun u => (u.cell? ⟨w.heap.size, 0, none⟩ = some (.slice (some ⟨b, off, none⟩) n cap) ∧ u.cell? ⟨w.heap.size, 1, none⟩ = some (.int .i64 row) ∧ u.cell? ⟨w.heap.size, 2, none⟩ = some (.int .i64 col) ∧ u.cell? ⟨w.heap.size, 3, none⟩ = some (.string e)) ∧ u.cell? ⟨b, off + k * 2, none⟩ = some (.int .i64 z) ∧ u.cell? ⟨b, off + k * 2 + 1, none⟩ = some (.string x)) (by kernel_rfl) (HS.out _ hJ) (fun hHeld => ?_)
        refine wpAnyH_take (i := 0) (oi := { dst := some 19, op := Op.move (Operand.tmp 3), type := 9, pos := "l06_term.go:266", after := #[], guard := none }) (v := ?_) rfl (by kernel_rfl) (by kernel_rfl) (by kernel_rfl) (fun _ _ _ h => h) (Or.inl ⟨by rfl, ?_⟩) hHeld ?_
        rotate_left
        · rintro w ⟨⟨z0, z1, z2, z3⟩, z4, z5⟩; go_simp; (try with_reducible rfl)
        try simp only [Act.put, List.setIfInBounds_toArray, List.set_cons_zero, List.set_cons_succ]
        refine wpAnyH_take (i := 1) (oi := { dst := some 20, op := Op.fieldAddr 37 (Operand.tmp 1) 0, type := 0, pos := "l06_term.go:266", after := #[], guard := none }) (v := ?_) rfl (by kernel_rfl) (by kernel_rfl) (by kernel_rfl) (fun _ _ _ h => h) (Or.inl ⟨by rfl, ?_⟩) hHeld ?_
        rotate_left
        · rintro w ⟨⟨z0, z1, z2, z3⟩, z4, z5⟩; go_simp; (try with_reducible rfl)
        try simp only [Act.put, List.setIfInBounds_toArray, List.set_cons_zero, List.set_cons_succ]
        refine wpAnyH_take (i := 2) (oi := { dst := some 21, op := Op.load 35 (Operand.tmp 20), type := 35, pos := "l06_term.go:266", after := #[{ on := 1, ground := Ground.data }], guard := none }) (v := ?_) rfl (by kernel_rfl) (by kernel_rfl) (by kernel_rfl) (fun _ _ _ h => h) (Or.inl ⟨by rfl, ?_⟩) hHeld ?_
        rotate_left
        · rintro w ⟨⟨z0, z1, z2, z3⟩, z4, z5⟩; go_simp; (try with_reducible rfl)
        try simp only [Act.put, List.setIfInBounds_toArray, List.set_cons_zero, List.set_cons_succ]
        refine wpAnyH_take (i := 3) (oi := { dst := some 22, op := Op.move (Operand.tmp 4), type := 3, pos := "l06_term.go:266", after := #[], guard := none }) (v := ?_) rfl (by kernel_rfl) (by kernel_rfl) (by kernel_rfl) (fun _ _ _ h => h) (Or.inl ⟨by rfl, ?_⟩) hHeld ?_
        rotate_left
        · rintro w ⟨⟨z0, z1, z2, z3⟩, z4, z5⟩; go_simp; (try with_reducible rfl)
        try simp only [Act.put, List.setIfInBounds_toArray, List.set_cons_zero, List.set_cons_succ]
        refine wpAnyH_take (i := 4) (oi := { dst := some 23, op := Op.indexAddr 35 (Operand.tmp 21) (Operand.tmp 22), type := 0, pos := "l06_term.go:266", after := #[{ on := 2, ground := Ground.data }, { on := 3, ground := Ground.data }], guard := none }) (v := ?_) rfl (by kernel_rfl) (by kernel_rfl) (by kernel_rfl) (fun _ _ _ h => h) (Or.inl ⟨by rfl, ?_⟩) hHeld ?_
        rotate_left
        · rintro w ⟨⟨z0, z1, z2, z3⟩, z4, z5⟩; go_simp; (try with_reducible rfl)
        try simp only [Act.put, List.setIfInBounds_toArray, List.set_cons_zero, List.set_cons_succ]
        refine wpAnyH_take (i := 5) (oi := { dst := some 24, op := Op.fieldAddr 60 (Operand.tmp 23) 0, type := 0, pos := "l06_term.go:266", after := #[{ on := 4, ground := Ground.data }], guard := none }) (v := ?_) rfl (by kernel_rfl) (by kernel_rfl) (by kernel_rfl) (fun _ _ _ h => h) (Or.inl ⟨by rfl, ?_⟩) hHeld ?_
        rotate_left
        · rintro w ⟨⟨z0, z1, z2, z3⟩, z4, z5⟩; go_simp; (try with_reducible rfl)
        try simp only [Act.put, List.setIfInBounds_toArray, List.set_cons_zero, List.set_cons_succ]
        refine wpAnyH_take (i := 6) (oi := { dst := some 25, op := Op.load 2 (Operand.tmp 24), type := 2, pos := "l06_term.go:266", after := #[{ on := 5, ground := Ground.data }], guard := none }) (v := ?_) rfl (by kernel_rfl) (by kernel_rfl) (by kernel_rfl) (fun _ _ _ h => h) (Or.inl ⟨by rfl, ?_⟩) hHeld ?_
        rotate_left
        · rintro w ⟨⟨z0, z1, z2, z3⟩, z4, z5⟩; go_simp; (try with_reducible rfl)
        try simp only [Act.put, List.setIfInBounds_toArray, List.set_cons_zero, List.set_cons_succ]
        refine wpAnyH_take (i := 9) (oi := { dst := some 28, op := Op.fieldAddr 37 (Operand.tmp 1) 0, type := 0, pos := "l06_term.go:266", after := #[], guard := none }) (v := ?_) rfl (by kernel_rfl) (by kernel_rfl) (by kernel_rfl) (fun _ _ _ h => h) (Or.inl ⟨by rfl, ?_⟩) hHeld ?_
        rotate_left
        · rintro w ⟨⟨z0, z1, z2, z3⟩, z4, z5⟩; go_simp; (try with_reducible rfl)
        try simp only [Act.put, List.setIfInBounds_toArray, List.set_cons_zero, List.set_cons_succ]
        refine wpAnyH_take (i := 10) (oi := { dst := some 29, op := Op.load 35 (Operand.tmp 28), type := 35, pos := "l06_term.go:266", after := #[{ on := 9, ground := Ground.data }], guard := none }) (v := ?_) rfl (by kernel_rfl) (by kernel_rfl) (by kernel_rfl) (fun _ _ _ h => h) (Or.inl ⟨by rfl, ?_⟩) hHeld ?_
        rotate_left
        · rintro w ⟨⟨z0, z1, z2, z3⟩, z4, z5⟩; go_simp; (try with_reducible rfl)
        try simp only [Act.put, List.setIfInBounds_toArray, List.set_cons_zero, List.set_cons_succ]
        refine wpAnyH_take (i := 11) (oi := { dst := some 30, op := Op.move (Operand.tmp 4), type := 3, pos := "l06_term.go:266", after := #[], guard := none }) (v := ?_) rfl (by kernel_rfl) (by kernel_rfl) (by kernel_rfl) (fun _ _ _ h => h) (Or.inl ⟨by rfl, ?_⟩) hHeld ?_
        rotate_left
        · rintro w ⟨⟨z0, z1, z2, z3⟩, z4, z5⟩; go_simp; (try with_reducible rfl)
        try simp only [Act.put, List.setIfInBounds_toArray, List.set_cons_zero, List.set_cons_succ]
        refine wpAnyH_take (i := 12) (oi := { dst := some 31, op := Op.indexAddr 35 (Operand.tmp 29) (Operand.tmp 30), type := 0, pos := "l06_term.go:266", after := #[{ on := 10, ground := Ground.data }, { on := 11, ground := Ground.data }], guard := none }) (v := ?_) rfl (by kernel_rfl) (by kernel_rfl) (by kernel_rfl) (fun _ _ _ h => h) (Or.inl ⟨by rfl, ?_⟩) hHeld ?_
        rotate_left
        · rintro w ⟨⟨z0, z1, z2, z3⟩, z4, z5⟩; go_simp; (try with_reducible rfl)
        try simp only [Act.put, List.setIfInBounds_toArray, List.set_cons_zero, List.set_cons_succ]
        refine wpAnyH_take (i := 13) (oi := { dst := some 32, op := Op.fieldAddr 60 (Operand.tmp 31) 1, type := 0, pos := "l06_term.go:266", after := #[{ on := 12, ground := Ground.data }], guard := none }) (v := ?_) rfl (by kernel_rfl) (by kernel_rfl) (by kernel_rfl) (fun _ _ _ h => h) (Or.inl ⟨by rfl, ?_⟩) hHeld ?_
        rotate_left
        · rintro w ⟨⟨z0, z1, z2, z3⟩, z4, z5⟩; go_simp; (try with_reducible rfl)
        try simp only [Act.put, List.setIfInBounds_toArray, List.set_cons_zero, List.set_cons_succ]
        refine wpAnyH_take (i := 14) (oi := { dst := some 33, op := Op.load 9 (Operand.tmp 32), type := 9, pos := "l06_term.go:266", after := #[{ on := 13, ground := Ground.data }], guard := none }) (v := ?_) rfl (by kernel_rfl) (by kernel_rfl) (by kernel_rfl) (fun _ _ _ h => h) (Or.inl ⟨by rfl, ?_⟩) hHeld ?_
        rotate_left
        · rintro w ⟨⟨z0, z1, z2, z3⟩, z4, z5⟩; go_simp; (try with_reducible rfl)
        try simp only [Act.put, List.setIfInBounds_toArray, List.set_cons_zero, List.set_cons_succ]
        refine wpAnyH_ready (rs := [7]) (by kernel_rfl) (by simp) ?_
        refine AllReadyH.cons rfl (fun K hK => ?_) AllReadyH.nil
        go_simp
        go_at_call 45
        refine (HPn.out _).mono ?_
        rintro e1 u1 ⟨rfl, hb1⟩
        have i1 := (hJ).up hb1
        go_wp2_with fail
        refine hK.out _ _ (HS.out _ i1) (fun hHeld => ?_)
        clear hb1
        clear hK K
        try simp only [Act.put, List.setIfInBounds_toArray, List.set_cons_zero, List.set_cons_succ]
        refine wpAnyH_take (i := 8) (oi := { dst := some 27, op := Op.binOp BinOp.add 9 (Operand.tmp 19) (Operand.tmp 26) 9, type := 9, pos := "l06_term.go:266", after := #[{ on := 0, ground := Ground.data }, { on := 7, ground := Ground.data }], guard := none }) (v := .string (y ++ N)) rfl (by kernel_rfl) (by kernel_rfl) (by kernel_rfl) (fun _ _ _ h => h) (Or.inl ⟨by rfl, ?_⟩) hHeld ?_
        · rintro w ⟨⟨z0, z1, z2, z3⟩, z4, z5⟩; go_simp; (try simp only [ByteArray.size_append]); omega
        try simp only [Act.put, List.setIfInBounds_toArray, List.set_cons_zero, List.set_cons_succ]
        refine wpAnyH_ready (rs := [15]) (by kernel_rfl) (by simp) ?_
        refine AllReadyH.cons rfl (fun K hK => ?_) AllReadyH.nil
        go_simp
        go_at_call 46
        refine (HPt.out _).mono ?_
        rintro e2 u2 ⟨rfl, hb2⟩
        have i2 := (i1).up hb2
        go_wp2_with fail
        refine hK.out _ _ (HS.out _ i2) (fun hHeld => ?_)
        clear hb2
        clear hK K
        try simp only [Act.put, List.setIfInBounds_toArray, List.set_cons_zero, List.set_cons_succ]
        refine wpAnyH_take (i := 16) (oi := { dst := some 35, op := Op.binOp BinOp.add 9 (Operand.tmp 27) (Operand.tmp 34) 9, type := 9, pos := "l06_term.go:266", after := #[{ on := 8, ground := Ground.data }, { on := 15, ground := Ground.data }], guard := none }) (v := .string (y ++ N ++ T)) rfl (by kernel_rfl) (by kernel_rfl) (by kernel_rfl) (fun _ _ _ h => h) (Or.inl ⟨by rfl, ?_⟩) hHeld ?_
        · rintro w ⟨⟨z0, z1, z2, z3⟩, z4, z5⟩; go_simp; (try simp only [ByteArray.size_append]); omega
        try simp only [Act.put, List.setIfInBounds_toArray, List.set_cons_zero, List.set_cons_succ]
        refine wpAnyH_take (i := 17) (oi := { dst := some 3, op := Op.assign (Operand.tmp 35), type := 9, pos := "l06_term.go:266", after := #[{ on := 16, ground := Ground.data }, { on := 15, ground := Ground.chain }, { on := 0, ground := Ground.phase }, { on := 1, ground := Ground.phase }, { on := 2, ground := Ground.phase }, { on := 3, ground := Ground.phase }, { on := 4, ground := Ground.phase }, { on := 5, ground := Ground.phase }, { on := 6, ground := Ground.phase }, { on := 7, ground := Ground.phase }, { on := 8, ground := Ground.phase }, { on := 9, ground := Ground.phase }, { on := 10, ground := Ground.phase }, { on := 11, ground := Ground.phase }, { on := 12, ground := Ground.phase }, { on := 13, ground := Ground.phase }, { on := 14, ground := Ground.phase }, { on := 15, ground := Ground.phase }, { on := 16, ground := Ground.phase }], guard := none }) (v := ?_) rfl (by kernel_rfl) (by kernel_rfl) (by kernel_rfl) (fun _ _ _ h => h) (Or.inl ⟨by rfl, ?_⟩) hHeld ?_
        rotate_left
        · rintro w ⟨⟨z0, z1, z2, z3⟩, z4, z5⟩; go_simp; (try with_reducible rfl)
        try simp only [Act.put, List.setIfInBounds_toArray, List.set_cons_zero, List.set_cons_succ]
        refine wpAnyH_done (by kernel_rfl) ?_ _
        refine NoPanic.normal ?_
        have HF : Hid (InP w (.slice (some ⟨b, off, none⟩) n cap) row col e u2) := i2
        clear hJ i1 i2
        go_wp2
        exact ⟨⟨k + 1, by omega, by go_num, by rw [h4.out], HF⟩, by simp [intOf]; omega⟩
      · obtain rfl : k = n := by omega
        have h1 := HPX.out k (Nat.le_refl _)
        have HPr : Hid (∀ u, Calls Try.prog 45 #[.int .i64 row] u fun e w' => e = .returned (.string (numB row)) ∧ Below u.heap.size u w') := fun u => pn.spec_any row u hr
        have HPc : Hid (∀ u, Calls Try.prog 45 #[.int .i64 col] u fun e w' => e = .returned (.string (numB col)) ∧ Below u.heap.size u w') := fun u => pn.spec_any col u hc
        have HPt : Hid (∀ u, Calls Try.prog 46 #[.string e] u fun r w' => r = .returned (.string (putB e)) ∧ Below u.heap.size u w') := fun u => pt.spec_any e u he
        have h2 := pt.numB_size_le hr
        have h3 := pt.numB_size_le hc
        have h4 := put_small (t := e) (by omega)
        have HE : Hid (PbA s row col e (px s k ++ numB row ++ numB col ++ putB e)) := by show PbA _ _ _ _ _; rw [← HPA.out]; exact HQ.out
        clear hr hc HPA HQ HPX HS HI HR HN hN HPS
        generalize numB row = N at *
        generalize numB col = M at *
        generalize putB e = T at *
        generalize px s k = y at *
        obtain ⟨x0, x1, x2, x3⟩ := HU.out.cells
        go_wp2_with fail
        clear x0 x1 x2 x3
        have hJ : InP w (.slice p k cap) row col e wr.drew := ⟨HU.out.1.drew, HU.out.2⟩
        have HS : Hid (∀ u, InP w (.slice p k cap) row col e u → (u.cell? ⟨w.heap.size, 0, none⟩ = some (.slice p k cap) ∧ u.cell? ⟨w.heap.size, 1, none⟩ = some (.int .i64 row) ∧ u.cell? ⟨w.heap.size, 2, none⟩ = some (.int .i64 col) ∧ u.cell? ⟨w.heap.size, 3, none⟩ = some (.string e))) := fun u hu => hu.cells
        clear HU
        refine wp_region_noPanic ?_
        refine wp_region_held_drew (S := fun u => u.cell? ⟨w.heap.size, 0, none⟩ = some (.slice p k cap) ∧ u.cell? ⟨w.heap.size, 1, none⟩ = some (.int .i64 row) ∧ u.cell? ⟨w.heap.size, 2, none⟩ = some (.int .i64 col) ∧ u.cell? ⟨w.heap.size, 3, none⟩ = some (.string e)) (by kernel_rfl) (HS.out _ hJ) (fun hHeld => ?_)
        refine wpAnyH_take (i := 0) (oi := { dst := some 36, op := Op.move (Operand.tmp 3), type := 9, pos := "l06_term.go:268", after := #[], guard := none }) (v := ?_) rfl (by kernel_rfl) (by kernel_rfl) (by kernel_rfl) (fun _ _ _ h => h) (Or.inl ⟨by rfl, ?_⟩) hHeld ?_
        rotate_left
        · rintro w ⟨z0, z1, z2, z3⟩; go_simp; (try with_reducible rfl)
        try simp only [Act.put, List.setIfInBounds_toArray, List.set_cons_zero, List.set_cons_succ]
        refine wpAnyH_take (i := 1) (oi := { dst := some 37, op := Op.fieldAddr 37 (Operand.tmp 1) 1, type := 0, pos := "l06_term.go:268", after := #[], guard := none }) (v := ?_) rfl (by kernel_rfl) (by kernel_rfl) (by kernel_rfl) (fun _ _ _ h => h) (Or.inl ⟨by rfl, ?_⟩) hHeld ?_
        rotate_left
        · rintro w ⟨z0, z1, z2, z3⟩; go_simp; (try with_reducible rfl)
        try simp only [Act.put, List.setIfInBounds_toArray, List.set_cons_zero, List.set_cons_succ]
        refine wpAnyH_take (i := 2) (oi := { dst := some 38, op := Op.load 2 (Operand.tmp 37), type := 2, pos := "l06_term.go:268", after := #[{ on := 1, ground := Ground.data }], guard := none }) (v := ?_) rfl (by kernel_rfl) (by kernel_rfl) (by kernel_rfl) (fun _ _ _ h => h) (Or.inl ⟨by rfl, ?_⟩) hHeld ?_
        rotate_left
        · rintro w ⟨z0, z1, z2, z3⟩; go_simp; (try with_reducible rfl)
        try simp only [Act.put, List.setIfInBounds_toArray, List.set_cons_zero, List.set_cons_succ]
        refine wpAnyH_take (i := 5) (oi := { dst := some 41, op := Op.fieldAddr 37 (Operand.tmp 1) 2, type := 0, pos := "l06_term.go:268", after := #[], guard := none }) (v := ?_) rfl (by kernel_rfl) (by kernel_rfl) (by kernel_rfl) (fun _ _ _ h => h) (Or.inl ⟨by rfl, ?_⟩) hHeld ?_
        rotate_left
        · rintro w ⟨z0, z1, z2, z3⟩; go_simp; (try with_reducible rfl)
        try simp only [Act.put, List.setIfInBounds_toArray, List.set_cons_zero, List.set_cons_succ]
        refine wpAnyH_take (i := 6) (oi := { dst := some 42, op := Op.load 2 (Operand.tmp 41), type := 2, pos := "l06_term.go:268", after := #[{ on := 5, ground := Ground.data }], guard := none }) (v := ?_) rfl (by kernel_rfl) (by kernel_rfl) (by kernel_rfl) (fun _ _ _ h => h) (Or.inl ⟨by rfl, ?_⟩) hHeld ?_
        rotate_left
        · rintro w ⟨z0, z1, z2, z3⟩; go_simp; (try with_reducible rfl)
        try simp only [Act.put, List.setIfInBounds_toArray, List.set_cons_zero, List.set_cons_succ]
        refine wpAnyH_take (i := 9) (oi := { dst := some 45, op := Op.fieldAddr 37 (Operand.tmp 1) 3, type := 0, pos := "l06_term.go:268", after := #[], guard := none }) (v := ?_) rfl (by kernel_rfl) (by kernel_rfl) (by kernel_rfl) (fun _ _ _ h => h) (Or.inl ⟨by rfl, ?_⟩) hHeld ?_
        rotate_left
        · rintro w ⟨z0, z1, z2, z3⟩; go_simp; (try with_reducible rfl)
        try simp only [Act.put, List.setIfInBounds_toArray, List.set_cons_zero, List.set_cons_succ]
        refine wpAnyH_take (i := 10) (oi := { dst := some 46, op := Op.load 9 (Operand.tmp 45), type := 9, pos := "l06_term.go:268", after := #[{ on := 9, ground := Ground.data }], guard := none }) (v := ?_) rfl (by kernel_rfl) (by kernel_rfl) (by kernel_rfl) (fun _ _ _ h => h) (Or.inl ⟨by rfl, ?_⟩) hHeld ?_
        rotate_left
        · rintro w ⟨z0, z1, z2, z3⟩; go_simp; (try with_reducible rfl)
        try simp only [Act.put, List.setIfInBounds_toArray, List.set_cons_zero, List.set_cons_succ]
        refine wpAnyH_ready (rs := [3]) (by kernel_rfl) (by simp) ?_
        refine AllReadyH.cons rfl (fun K hK => ?_) AllReadyH.nil
        go_simp
        go_at_call 45
        refine (HPr.out _).mono ?_
        rintro e1 u1 ⟨rfl, hb1⟩
        have i1 := (hJ).up hb1
        go_wp2_with fail
        refine hK.out _ _ (HS.out _ i1) (fun hHeld => ?_)
        clear hb1
        clear hK K
        try simp only [Act.put, List.setIfInBounds_toArray, List.set_cons_zero, List.set_cons_succ]
        refine wpAnyH_take (i := 4) (oi := { dst := some 40, op := Op.binOp BinOp.add 9 (Operand.tmp 36) (Operand.tmp 39) 9, type := 9, pos := "l06_term.go:268", after := #[{ on := 0, ground := Ground.data }, { on := 3, ground := Ground.data }], guard := none }) (v := .string (y ++ N)) rfl (by kernel_rfl) (by kernel_rfl) (by kernel_rfl) (fun _ _ _ h => h) (Or.inl ⟨by rfl, ?_⟩) hHeld ?_
        · rintro w ⟨z0, z1, z2, z3⟩; go_simp; (try simp only [ByteArray.size_append]); omega
        try simp only [Act.put, List.setIfInBounds_toArray, List.set_cons_zero, List.set_cons_succ]
        refine wpAnyH_ready (rs := [7]) (by kernel_rfl) (by simp) ?_
        refine AllReadyH.cons rfl (fun K hK => ?_) AllReadyH.nil
        go_simp
        go_at_call 45
        refine (HPc.out _).mono ?_
        rintro e2 u2 ⟨rfl, hb2⟩
        have i2 := (i1).up hb2
        go_wp2_with fail
        refine hK.out _ _ (HS.out _ i2) (fun hHeld => ?_)
        clear hb2
        clear hK K
        try simp only [Act.put, List.setIfInBounds_toArray, List.set_cons_zero, List.set_cons_succ]
        refine wpAnyH_take (i := 8) (oi := { dst := some 44, op := Op.binOp BinOp.add 9 (Operand.tmp 40) (Operand.tmp 43) 9, type := 9, pos := "l06_term.go:268", after := #[{ on := 4, ground := Ground.data }, { on := 7, ground := Ground.data }], guard := none }) (v := .string (y ++ N ++ M)) rfl (by kernel_rfl) (by kernel_rfl) (by kernel_rfl) (fun _ _ _ h => h) (Or.inl ⟨by rfl, ?_⟩) hHeld ?_
        · rintro w ⟨z0, z1, z2, z3⟩; go_simp; (try simp only [ByteArray.size_append]); omega
        try simp only [Act.put, List.setIfInBounds_toArray, List.set_cons_zero, List.set_cons_succ]
        refine wpAnyH_ready (rs := [11]) (by kernel_rfl) (by simp) ?_
        refine AllReadyH.cons rfl (fun K hK => ?_) AllReadyH.nil
        go_simp
        go_at_call 46
        refine (HPt.out _).mono ?_
        rintro e3 u3 ⟨rfl, hb3⟩
        have i3 := (i2).up hb3
        go_wp2_with fail
        refine hK.out _ _ (HS.out _ i3) (fun hHeld => ?_)
        clear hb3
        clear hK K
        try simp only [Act.put, List.setIfInBounds_toArray, List.set_cons_zero, List.set_cons_succ]
        refine wpAnyH_take (i := 12) (oi := { dst := some 48, op := Op.binOp BinOp.add 9 (Operand.tmp 44) (Operand.tmp 47) 9, type := 9, pos := "l06_term.go:268", after := #[{ on := 8, ground := Ground.data }, { on := 11, ground := Ground.data }], guard := none }) (v := .string (y ++ N ++ M ++ T)) rfl (by kernel_rfl) (by kernel_rfl) (by kernel_rfl) (fun _ _ _ h => h) (Or.inl ⟨by rfl, ?_⟩) hHeld ?_
        · rintro w ⟨z0, z1, z2, z3⟩; go_simp; (try simp only [ByteArray.size_append]); omega
        try simp only [Act.put, List.setIfInBounds_toArray, List.set_cons_zero, List.set_cons_succ]
        refine wpAnyH_take (i := 13) (oi := { dst := some 2, op := Op.assign (Operand.tmp 48), type := 9, pos := "l06_term.go:268", after := #[{ on := 12, ground := Ground.data }, { on := 11, ground := Ground.chain }, { on := 0, ground := Ground.phase }, { on := 1, ground := Ground.phase }, { on := 2, ground := Ground.phase }, { on := 3, ground := Ground.phase }, { on := 4, ground := Ground.phase }, { on := 5, ground := Ground.phase }, { on := 6, ground := Ground.phase }, { on := 7, ground := Ground.phase }, { on := 8, ground := Ground.phase }, { on := 9, ground := Ground.phase }, { on := 10, ground := Ground.phase }, { on := 11, ground := Ground.phase }, { on := 12, ground := Ground.phase }], guard := none }) (v := ?_) rfl (by kernel_rfl) (by kernel_rfl) (by kernel_rfl) (fun _ _ _ h => h) (Or.inl ⟨by rfl, ?_⟩) hHeld ?_
        rotate_left
        · rintro w ⟨z0, z1, z2, z3⟩; go_simp; (try with_reducible rfl)
        try simp only [Act.put, List.setIfInBounds_toArray, List.set_cons_zero, List.set_cons_succ]
        refine wpAnyH_done (by kernel_rfl) ?_ _
        refine NoPanic.normal ?_
        have HF : Hid (Below w.heap.size w u3) := (i3).1
        clear hJ i1 i2 i3
        go_wp2
        go_ret
        exact ⟨_, rfl, HE.out, HF.out⟩
  · have HQ : Hid (PbA s row col e ⟨#[]⟩) := ⟨fun h' => absurd h' h, fun _ => rfl⟩
    rw [decide_eq_false h] at HM
    clear hv
    go_enter Try.func19, Try.ntmps19
    go_wp2_with (go_at_call 44; fail)
    refine calls_w (InP w v row col e) HI0.out ?_
    clear HI0
    intro u0 i0
    refine (HM.out u0 i0.1).mono ?_
    rintro r w1 ⟨rfl, hb1⟩
    have HB : Hid (Below w.heap.size w w1) := (i0.up hb1).1
    clear i0 hb1 HM
    go_wp2
    go_ret
    exact ⟨_, rfl, HQ.out, HB.out⟩
end Go.Proofs.Ytikkohecanmefab.ls
