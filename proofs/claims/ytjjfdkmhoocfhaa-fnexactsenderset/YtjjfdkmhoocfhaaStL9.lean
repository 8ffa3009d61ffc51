/-
  The walk of the law that holds the program's SenderSet against the model's: true at every sender; what is written into the copy that was handed in, and into the answer, stays there, and the answer stays what it was. No condition.
-/
import Derived.Test.YtjjfdkmhoocfhaaStLM
import Derived.Test.YtjjfdkmhoocfhaaStTB
import Derived.Deep.Cut
namespace Go.Proofs.Ytjjfdkmhoocfhaa.st
open Go.ChangeShapes Go.WideShapes Go.ChangeAt Go.RowKit
open Go.Proofs.Ytjjfdkmhoocfhaa.wi (heap_lt calls_w wp_w)
open Classical
set_option linter.unusedVariables false

set_option maxRecDepth 20000 in
set_option maxHeartbeats 8000000 in
theorem lawSenderSet (w : World) (v : Value) (l : List Ln) (t : ByteArray) (hl : l.length ≤ maxLen) (hz : ∀ r ∈ l, r.2.size ≤ maxLen) (hv : SliceIs w v l) (ht : t.size ≤ maxLen) :
    Calls Try.prog 7 #[.agg #[v], .string t] w fun r w' => r = .returned (.bool true) ∧ Below w.heap.size w w' := by
  have HI : Hid (InA w v (w.alloc (.cells #[v] 44))) := InA.new
  have HV : Hid (∀ u, Below w.heap.size w u → SliceIs u v l) := fun u hu => hv.up hu
  obtain ⟨al, cd, hal, HM0, HX0⟩ := set_bothS l t hl hz ht
  have HM : Hid (∀ u g, Blk u g l → Calls Try.prog 28 #[.agg #[.slice (some ⟨g, 0, none⟩) l.length l.length], .string t] u (OutPost u al cd)) := HM0
  have HX : Hid (∀ u g, Blk u g l → Calls Try.prog 29 #[.agg #[.slice (some ⟨g, 0, none⟩) l.length l.length], .string t] u (OutPost u al cd)) := HX0
  have hal' : al.length ≤ maxLen := Nat.le_trans hal (by decide)
  have hal2 : al.length ≤ 1048576 := Nat.le_trans hal (by decide)
  clear hv HM0 HX0
  have ht9 := ht
  unfold maxLen at ht9
  by_cases h20 : 1048576 < t.size
  · have HB0 : Hid (Below w.heap.size w (w.alloc (.cells #[v] 44))) := HI.out.1
    go_enter Try.func7, Try.ntmps7
    go_wp2
    go_ret
    exact ⟨rfl, HB0.out⟩
  · go_enter Try.func7, Try.ntmps7
    go_wp2_with (go_at_call 19; fail)
    refine calls_w (InA w v) HI.out ?_
    clear HI
    intro u i
    refine (szSnd_any v l 1048576 u (by decide) (Int.le_refl _) hl hz (HV.out _ i.1)).mono ?_
    rintro r u1 ⟨rfl, hb⟩
    replace i := i.up hb
    clear hb
    by_cases hneg : szV 1048576 l < 0
    · have d : decide (szV 1048576 l < 0) = true := decide_eq_true hneg
      have HB : Hid (Below w.heap.size w u1) := i.1
      generalize szV 1048576 l = z at *
      clear i hz
      go_wp2
      go_ret
      exact ⟨rfl, HB.out⟩
    · obtain ⟨hs2, hs3⟩ := szV_ok hneg (Int.le_refl _)
      have d : decide (szV 1048576 l < 0) = false := decide_eq_false hneg
      generalize szV 1048576 l = z at *
      clear hs3
      have x0 := i.cell
      go_wp2_with (go_at_call 21; fail)
      refine calls_w (InA w v) i ?_
      clear i x0 hneg d
      intro u i
      refine (toSnd_any v l u hs2 (HV.out _ i.1)).mono ?_
      rintro r w2 ⟨g1, rfl, hb2, hk1, _⟩
      replace i := i.up hb2
      clear hb2
      go_wp2_with (go_at_call 28; fail)
      refine (HM.out w2 g1 hk1).mono ?_
      rintro r w3 ⟨va, rfl, hb3, hra, hov⟩
      replace i := i.up hb3
      clear hb3 hk1 HM
      obtain ⟨pa, ca, rfl⟩ := hra.shape
      have x0 : ∀ o, (w3.alloc o).cell? ⟨w.heap.size, 0, none⟩ = some v := fun o => (i.up (rw.up_alloc _ o)).cell
      go_wp2_with (go_at_call 21; fail)
      obtain ⟨qa, hqa⟩ : ∃ q, q = w3.heap.size := ⟨_, rfl⟩
      have o1 : ∀ b, (Value.slice pa al.length ca).ownBlock = some b → b < qa := fun b hb => by rw [hqa]; exact (hov b hb).2
      have o2 : w.heap.size < qa := by rw [hqa]; exact i.lt
      have j0 := i.up (rw.up_alloc w3 (.cells #[.slice pa al.length ca, .int .i64 cd] 57))
      have wa0 : rw.At (w3.alloc (.cells #[.slice pa al.length ca, .int .i64 cd] 57)) qa #[.slice pa al.length ca, .int .i64 cd] 57 := by rw [hqa]; exact rw.At.new _ _ _
      have ra0 := hra.up (rw.up_alloc w3 (.cells #[.slice pa al.length ca, .int .i64 cd] 57))
      rw [← hqa]
      refine calls_w (fun u => InA w v u ∧ rw.At u qa #[.slice pa al.length ca, .int .i64 cd] 57 ∧ OwnX u (.slice pa al.length ca) al) ⟨j0, wa0, ra0⟩ ?_
      clear j0 wa0 ra0 i hra hov x0 hqa
      rintro u ⟨i, wa, ra⟩
      refine (toSnd_any v l u hs2 (HV.out _ i.1)).mono ?_
      rintro r w4 ⟨gx, rfl, hb4, hk2, hgx⟩
      have o3 : qa < gx := Nat.lt_of_lt_of_le wa.lt hgx
      replace i := i.up hb4
      replace wa := wa.up hb4
      replace ra := ra.up hb4
      clear hb4 hgx
      have o4 : gx < w4.heap.size := hk2.lt
      go_wp2_with (go_at_call 29; fail)
      obtain ⟨qx, hqx⟩ : ∃ q, q = w4.heap.size := ⟨_, rfl⟩
      have x0 : rw.At (w4.alloc (.cells #[.slice (some ⟨gx, 0, none⟩) l.length l.length] 49)) qx #[.slice (some ⟨gx, 0, none⟩) l.length l.length] 49 := by rw [hqx]; exact rw.At.new _ _ _
      have bx := rw.up_alloc w4 (.cells #[.slice (some ⟨gx, 0, none⟩) l.length l.length] 49)
      have i0 := i.up bx
      have wa0 := wa.up bx
      have ra0 := ra.up bx
      have k0 := hk2.up bx
      rw [← hqx] at o4 ⊢
      refine calls_w (fun u => InA w v u ∧ rw.At u qa #[.slice pa al.length ca, .int .i64 cd] 57 ∧ OwnX u (.slice pa al.length ca) al ∧ rw.At u qx #[.slice (some ⟨gx, 0, none⟩) l.length l.length] 49 ∧ Blk u gx l) ⟨i0, wa0, ra0, x0, k0⟩ ?_
      clear i wa ra hk2 bx i0 wa0 ra0 x0 k0 hqx
      rintro u ⟨i, wa, ra, x, k⟩
      refine (HX.out u gx k).mono ?_
      rintro r w5 ⟨vg, rfl, hb5, hrg, hog⟩
      have hqu : qx < u.heap.size := x.lt
      obtain ⟨pg, cg, rfl⟩ := hrg.shape
      have h6 := hb5.trans ((rw.up_alloc w5 (.cells #[.slice pg al.length cg, .int .i64 cd] 57)).mono hb5.size)
      have i6 : InM w v qa (.slice pa al.length ca) gx qx l.length w5.heap.size (.slice pg al.length cg) cd al l al (w5.alloc (.cells #[.slice pg al.length cg, .int .i64 cd] 57)) :=
        ⟨i.up h6, wa.up h6, ra.up h6, x.up h6, (Blk.rowX k).up h6, rw.At.new _ _ _, hrg.up (rw.up_alloc _ _), o1, o2, o3, o4, fun b hb => ⟨Nat.lt_of_lt_of_le hqu (hog b hb).1, (hog b hb).2⟩, Nat.lt_of_lt_of_le hqu hb5.size⟩
      have c0 := i6.wa.cell 0
      have c1 := i6.wa.cell 1
      have e0 : (w5.alloc (.cells #[.slice pg al.length cg, .int .i64 cd] 57)).cell? ⟨qa, 0, none⟩ = some (.slice pa al.length ca) := c0
      have e1 : (w5.alloc (.cells #[.slice pg al.length cg, .int .i64 cd] 57)).cell? ⟨qa, 1, none⟩ = some (.int .i64 cd) := c1
      clear c0 c1 i wa ra x k hb5 hrg hog hqu h6 o1 o2 o3 o4
      go_wp2_with (go_at_call 30; fail)
      obtain ⟨qg, hqg⟩ : ∃ q, q = w5.heap.size := ⟨_, rfl⟩
      rw [← hqg] at i6 ⊢
      refine calls_w (InM w v qa (.slice pa al.length ca) gx qx l.length qg (.slice pg al.length cg) cd al l al) i6 ?_
      clear i6 e0 e1 hqg
      intro u i
      refine (eqOut_any _ _ cd al u hal' i.rg.slice i.ra.slice).mono ?_
      rintro r w7 ⟨rfl, hb7⟩
      replace i := i.up hb7
      clear hb7
      go_wp2_with fail
      have HS : Hid (∀ u, InM w v qa (.slice pa al.length ca) gx qx l.length qg (.slice pg al.length cg) cd al l al u → (u.cell? ⟨w.heap.size, 0, none⟩ = some v ∧ u.cell? ⟨qx, 0, none⟩ = some (.slice (some ⟨gx, 0, none⟩) l.length l.length))) := fun u h => ⟨h.a.cell, h.x.cell 0⟩
      refine wp_region_noPanic ?_
      refine wp_region_held_drew (S := fun u => u.cell? ⟨w.heap.size, 0, none⟩ = some v ∧ u.cell? ⟨qx, 0, none⟩ = some (.slice (some ⟨gx, 0, none⟩) l.length l.length)) (by kernel_rfl) (HS.out _ (i.up (rw.up_drew _))) (fun _ => ?_)
      refine rw.region_w (fun u => InM w v qa (.slice pa al.length ca) gx qx l.length qg (.slice pg al.length cg) cd al l al u) (i.up (rw.up_drew _)) ?_
      clear i
      intro u i
      have hHeld : (u.cell? ⟨w.heap.size, 0, none⟩ = some v ∧ u.cell? ⟨qx, 0, none⟩ = some (.slice (some ⟨gx, 0, none⟩) l.length l.length)) := HS.out u i
      refine wpAnyH_take (i := 0) (oi := { dst := some 34, op := Op.load 49 (Operand.tmp 7), type := 49, pos := "exact.go:2404", after := #[], guard := none }) (v := ?_) rfl (by kernel_rfl) (by kernel_rfl) (by kernel_rfl) (fun _ _ _ h => h) (Or.inl ⟨by rfl, ?_⟩) hHeld ?_
      rotate_left
      · rintro w ⟨z0, z1⟩; go_simp; (try with_reducible rfl)
      try simp only [Act.put, List.setIfInBounds_toArray, List.set_cons_zero, List.set_cons_succ]
      refine wpAnyH_take (i := 1) (oi := { dst := some 35, op := Op.load 44 (Operand.tmp 2), type := 44, pos := "exact.go:2404", after := #[], guard := none }) (v := ?_) rfl (by kernel_rfl) (by kernel_rfl) (by kernel_rfl) (fun _ _ _ h => h) (Or.inl ⟨by rfl, ?_⟩) hHeld ?_
      rotate_left
      · rintro w ⟨z0, z1⟩; go_simp; (try with_reducible rfl)
      try simp only [Act.put, List.setIfInBounds_toArray, List.set_cons_zero, List.set_cons_succ]
      refine wpAnyH_ready (rs := [2]) (by kernel_rfl) (by simp) ?_
      refine AllReadyH.cons rfl (fun K hK => ?_) AllReadyH.nil
      go_simp
      go_at_call 21
      refine (toSnd_any v l u hs2 (HV.out _ i.bel)).mono ?_
      rintro r7 w7 ⟨g3, rfl, hb, hk3, _⟩
      go_wp2_with fail
      refine hK.out _ _ (HS.out _ (i.up hb)) (fun _ => ?_)
      clear hK K hHeld
      try simp only [Act.put, List.setIfInBounds_toArray, List.set_cons_zero, List.set_cons_succ]
      refine rw.region_w (fun u => (InM w v qa (.slice pa al.length ca) gx qx l.length qg (.slice pg al.length cg) cd al l al u) ∧ (Blk u g3 l)) ⟨i.up hb, hk3⟩ ?_
      clear i hb
      rintro u ⟨i, k3⟩
      have hHeld : (u.cell? ⟨w.heap.size, 0, none⟩ = some v ∧ u.cell? ⟨qx, 0, none⟩ = some (.slice (some ⟨gx, 0, none⟩) l.length l.length)) := HS.out u i
      refine wpAnyH_ready (rs := [3]) (by kernel_rfl) (by simp) ?_
      refine AllReadyH.cons rfl (fun K hK => ?_) AllReadyH.nil
      go_simp
      go_at_call 23
      refine (eqSnd_any _ _ l u hl (.inr ⟨gx, 0, _, i.kx.lt, rfl, i.kx.row⟩) k3.slice).mono ?_
      rintro r7 w7 ⟨rfl, hb⟩
      go_wp2_with fail
      refine hK.out _ _ (HS.out _ (i.up hb)) (fun _ => ?_)
      clear hK K hHeld
      try simp only [Act.put, List.setIfInBounds_toArray, List.set_cons_zero, List.set_cons_succ]
      refine rw.region_w (fun u => (InM w v qa (.slice pa al.length ca) gx qx l.length qg (.slice pg al.length cg) cd al l al u) ∧ (Blk u g3 l)) ⟨i.up hb, k3.up hb⟩ ?_
      clear i k3 hb
      rintro u ⟨i, k3⟩
      have hHeld : (u.cell? ⟨w.heap.size, 0, none⟩ = some v ∧ u.cell? ⟨qx, 0, none⟩ = some (.slice (some ⟨gx, 0, none⟩) l.length l.length)) := HS.out u i
      refine wpAnyH_take (i := 4) (oi := { dst := some 38, op := Op.unOp UnOp.not 4 (Operand.tmp 37), type := 4, pos := "exact.go:2404", after := #[{ on := 3, ground := Ground.data }], guard := none }) (v := ?_) rfl (by kernel_rfl) (by kernel_rfl) (by kernel_rfl) (fun _ _ _ h => h) (Or.inl ⟨by rfl, ?_⟩) hHeld ?_
      rotate_left
      · rintro w ⟨z0, z1⟩; go_simp; (try with_reducible rfl)
      try simp only [Act.put, List.setIfInBounds_toArray, List.set_cons_zero, List.set_cons_succ]
      refine wpAnyH_done (by kernel_rfl) ?_ _
      refine NoPanic.normal ?_
      clear k3 hHeld HS
      have x0 : u.cell? ⟨qx, 0, none⟩ = some (.slice (some ⟨gx, 0, none⟩) l.length l.length) := i.x.cell 0
      go_wp2_with (go_at_call 26; fail)
      refine (markSnd_any _ l u hs2 (.inr ⟨gx, 0, l.length, rfl, i.kx⟩)).mono ?_
      rintro r w9 ⟨rfl, hg9, lx, hlx, _, hox⟩
      have hrx : RowX w9 gx 0 lx := by
        rcases hox with ⟨_, h⟩ | ⟨g', off', cap', h, hr⟩
        · cases h
        · obtain ⟨h1, _, _⟩ := Value.slice.inj h
          cases h1
          exact hr
      have i9 := i.markX hg9 hrx
      clear hg9 hrx hox hlx x0 i
      have hk9 : decide (2 * (l.length : Int) + 1 < 0) = false := decide_eq_false (by omega)
      have c0 : w9.cell? ⟨qg, 0, none⟩ = some (.slice pg al.length cg) := i9.wg.cell 0
      have c1 : w9.cell? ⟨qg, 1, none⟩ = some (.int .i64 cd) := i9.wg.cell 1
      have e0 : w9.cell? ⟨qa, 0, none⟩ = some (.slice pa al.length ca) := i9.wa.cell 0
      have e1 : w9.cell? ⟨qa, 1, none⟩ = some (.int .i64 cd) := i9.wa.cell 1
      go_wp2_with (go_at_call 30; fail)
      refine (eqOut_any _ _ cd al w9 hal' i9.rg.slice i9.ra.slice).mono ?_
      rintro r w10 ⟨rfl, hb10⟩
      have i10 := i9.up hb10
      clear c0 c1 e0 e1 i9 hb10
      have c0 : w10.cell? ⟨qg, 0, none⟩ = some (.slice pg al.length cg) := i10.wg.cell 0
      have c1 : w10.cell? ⟨qg, 1, none⟩ = some (.int .i64 cd) := i10.wg.cell 1
      go_wp2_with (go_at_call 31; fail)
      refine (markOut_any _ cd al w10 hal2 i10.rg).mono ?_
      rintro r w11 ⟨rfl, hg11, lg, hlg, hmk, hog⟩
      have i11 := i10.markG hg11 hog
      clear c0 c1 i10 hg11 hog
      have c0 : w11.cell? ⟨qg, 0, none⟩ = some (.slice pg al.length cg) := i11.wg.cell 0
      have c1 : w11.cell? ⟨qg, 1, none⟩ = some (.int .i64 cd) := i11.wg.cell 1
      go_wp2_with (go_at_call 32; fail)
      have HHE : Hid (∀ u, OwnX u (.slice pg al.length cg) lg → Calls Try.prog 32 #[.agg #[.slice pg al.length cg, .int .i64 cd], .int .i64 1] u fun r w' => r = .returned (.int .i64 (2 * (al.length : Int) + 1)) ∧ Below u.heap.size u w') := fun u hu => by
        have := heldOut_any (.slice pg al.length cg) cd lg u (by omega) hu (by rw [hlg]; exact hmk)
        rwa [hlg] at this
      clear hlg hmk
      refine (HHE.out w11 i11.rg).mono ?_
      rintro r w12 ⟨rfl, hb12⟩
      have i12 := i11.up hb12
      clear c0 c1 i11 hb12
      have hn1 : decide (2 * (al.length : Int) + 1 < 0) = false := decide_eq_false (by omega)
      have hn2 : ((2 * (al.length : Int) + 1) == (2 * (al.length : Int) + 1)) = true := by simp
      have x0 : w12.cell? ⟨w.heap.size, 0, none⟩ = some v := i12.a.cell
      go_wp2_with (go_at_call 21; fail)
      refine (toSnd_any v l w12 hs2 (HV.out _ i12.bel)).mono ?_
      rintro r w13 ⟨g5, rfl, hb13, hk5, _⟩
      have i13 := i12.up hb13
      clear hb13 i12 x0
      go_wp2_with (go_at_call 29; fail)
      refine (HX.out w13 g5 hk5).mono ?_
      rintro r w14 ⟨vh, rfl, hb14, hrh, _⟩
      have i14 := i13.up hb14
      clear hb14 i13 hk5 HX
      obtain ⟨ph, ch, rfl⟩ := hrh.shape
      have bh := rw.up_alloc w14 (.cells #[.slice ph al.length ch, .int .i64 cd] 57)
      have i15 := i14.up bh
      have rh15 := hrh.up bh
      have e0 : (w14.alloc (.cells #[.slice ph al.length ch, .int .i64 cd] 57)).cell? ⟨qa, 0, none⟩ = some (.slice pa al.length ca) := i15.wa.cell 0
      have e1 : (w14.alloc (.cells #[.slice ph al.length ch, .int .i64 cd] 57)).cell? ⟨qa, 1, none⟩ = some (.int .i64 cd) := i15.wa.cell 1
      clear i14 hrh bh
      go_wp2_with (go_at_call 30; fail)
      refine (eqOut_any _ _ cd al _ hal' rh15.slice i15.ra.slice).mono ?_
      rintro r w16 ⟨rfl, hb16⟩
      have i16 := i15.up hb16
      clear e0 e1 i15 rh15 hb16
      have c0 : w16.cell? ⟨qg, 0, none⟩ = some (.slice pg al.length cg) := i16.wg.cell 0
      have c1 : w16.cell? ⟨qg, 1, none⟩ = some (.int .i64 cd) := i16.wg.cell 1
      go_wp2_with (go_at_call 32; fail)
      refine (HHE.out w16 i16.rg).mono ?_
      rintro r w17 ⟨rfl, hb17⟩
      have HBf : Hid (Below w.heap.size w w17) := (i16.up hb17).bel
      clear c0 c1 i16 hb17 HHE
      go_wp2
      go_ret
      exact ⟨rfl, HBf.out⟩
end Go.Proofs.Ytjjfdkmhoocfhaa.st
