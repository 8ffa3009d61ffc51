/-
  The law that holds the program's ScreenNew against the model's, walked: true at every size; what is written into the program's answer stays there through another call. No condition.
-/
import Derived.Test.YtikkohecanmefaaScU3
import Derived.Test.YtikkohecanmefaaNwS
namespace Go.Proofs.Ytikkohecanmefaa.su
open Go.ChangeShapes Go.WideShapes Go.ChangeAt Go.RowKit
open Go.Proofs.Ytikkohecanmefaa.wi (heap_lt calls_w wp_w)
open Go.Proofs.Ytikkohecanmefaa.ss
open Go.Proofs.Ytikkohecanmefaa.sc (ScrPost SizeR szd szd_length newM_yes newM_no newI_yes newI_no)
set_option linter.unusedVariables false

/-- what is known behind the two answers: their blocks, their rows, and that the second's row lies behind the first's block -/
structure InRL (w : World) (qa : Nat) (va : Value) (qg : Nat) (vg : Value) (i k : Int) (e : ByteArray) (cd : Int) (al lg : List ByteArray) (u : World) : Prop where
  below : Below w.heap.size w u
  wa : u.heap[qa]? = some (.cells #[va, .int .i64 i, .int .i64 k, .string e, .int .i64 cd] 32 (0, 0))
  ra : ss.Own u va al
  wg : u.heap[qg]? = some (.cells #[vg, .int .i64 i, .int .i64 k, .string e, .int .i64 cd] 32 (0, 0))
  rg : ss.Own u vg lg
  o1 : ∀ b, va.ownBlock = some b → b < qa
  o2 : w.heap.size ≤ qa
  o3 : ∀ b, vg.ownBlock = some b → qa < b ∧ b < qg
  o4 : qa < qg
theorem InRL.up {w u u' : World} {qa : Nat} {va : Value} {qg : Nat} {vg : Value} {i k : Int} {e : ByteArray} {cd : Int} {al lg : List ByteArray} (h : InRL w qa va qg vg i k e cd al lg u) (hb : Below u.heap.size u u') : InRL w qa va qg vg i k e cd al lg u' :=
  ⟨h.below.trans (hb.mono h.below.size), (hb.block _ (heap_lt h.wa)).trans h.wa, h.ra.up hb, (hb.block _ (heap_lt h.wg)).trans h.wg, h.rg.up hb, h.o1, h.o2, h.o3, h.o4⟩
theorem InRL.mark {w u u' : World} {qa : Nat} {va : Value} {qg : Nat} {vg : Value} {i k : Int} {e : ByteArray} {cd : Int} {al lg lg' : List ByteArray} (h : InRL w qa va qg vg i k e cd al lg u) (hg : u.grownBy u' vg.ownBlock) (hr : ss.Own u' vg lg') : InRL w qa va qg vg i k e cd al lg' u' := by
  have h2 := h.o2
  have h4 := h.o4
  cases hb : vg.ownBlock with
  | none =>
    rw [hb] at hg
    exact ⟨h.below.grown hg h.below.size (fun j hj => by cases hj), (hg.block _ (heap_lt h.wa) (by simp)).trans h.wa, h.ra.kept hg (by cases va.ownBlock <;> simp), (hg.block _ (heap_lt h.wg) (by simp)).trans h.wg, hr, h.o1, h2, h.o3, h4⟩
  | some b =>
    rw [hb] at hg
    have h5 := h.o3 b hb
    refine ⟨h.below.grown hg h.below.size (fun j hj => by cases hj; omega), (hg.block _ (heap_lt h.wa) (by simp; omega)).trans h.wa, h.ra.kept hg ?_, (hg.block _ (heap_lt h.wg) (by simp; omega)).trans h.wg, hr, h.o1, h2, h.o3, h4⟩
    cases hv : va.ownBlock with
    | none => exact .inl rfl
    | some c => exact .inr (by have := h.o1 c hv; simp; omega)
theorem own_lt {u : World} {base : Nat} {v : Value} {l : List ByteArray} (h : u.ownsRow base 9 1 v l.length (l.map Value.string)) : ∀ b, v.ownBlock = some b → base ≤ b ∧ b < u.heap.size := fun b hb => by
  obtain ⟨h1, cur, h2⟩ := row_block h b hb
  exact ⟨h1, heap_lt h2⟩
open Classical in
theorem new_both (a b : Int) : ∃ (al : List ByteArray) (cd : Int), al.length ≤ 6 ∧ (∀ u, Calls Try.prog 14 #[.int .i64 a, .int .i64 b] u (ScrPost u al 0 0 ⟨#[]⟩ cd)) ∧ ∀ u, Calls Try.prog 15 #[.int .i64 a, .int .i64 b] u (ScrPost u al 0 0 ⟨#[]⟩ cd) := by
  by_cases h : SizeR a b
  · obtain ⟨n, rfl⟩ : ∃ n : Nat, a = (n : Int) := ⟨a.toNat, by have := h.1; omega⟩
    obtain ⟨m, rfl⟩ : ∃ m : Nat, b = (m : Int) := ⟨b.toNat, by have := h.2; omega⟩
    exact ⟨szd [] n m, 0, by rw [szd_length]; have := h.2; omega, fun u => newM_yes n m u h, fun u => newI_yes n m u h⟩
  · exact ⟨[], 1, by simp, fun u => newM_no a b u h, fun u => newI_no a b u h⟩
set_option maxRecDepth 20000 in
set_option maxHeartbeats 8000000 in
theorem newLaw (w : World) (a b : Int) :
    Calls Try.prog 4 #[.int .i64 a, .int .i64 b] w fun e w' => e = .returned (.bool true) ∧ Below w.heap.size w w' := by
  obtain ⟨al, i, k, e, cd, hal, HM0, HX0⟩ : ∃ (al : List ByteArray) (i k : Int) (e : ByteArray) (cd : Int), al.length ≤ 6 ∧ (∀ u, Calls Try.prog 14 #[.int .i64 a, .int .i64 b] u (ScrPost u al i k e cd)) ∧ ∀ u, Calls Try.prog 15 #[.int .i64 a, .int .i64 b] u (ScrPost u al i k e cd) := by
    obtain ⟨al, cd, h1, h2, h3⟩ := new_both a b
    exact ⟨al, 0, 0, ⟨#[]⟩, cd, h1, h2, h3⟩
  have HM : Hid (∀ u, Calls Try.prog 14 #[.int .i64 a, .int .i64 b] u (ScrPost u al i k e cd)) := HM0
  have HX : Hid (∀ u, Below w.heap.size w u → Calls Try.prog 15 #[.int .i64 a, .int .i64 b] u (ScrPost u al i k e cd)) := fun u _ => HX0 u
  have hal' : al.length ≤ maxLen := Nat.le_trans hal (by decide)
  have hal2 : al.length ≤ 1048576 := Nat.le_trans hal (by decide)
  clear HM0 HX0
  go_enter Try.func4, Try.ntmps4
  go_wp2_with (go_at_call 14; fail)
  refine (HM.out w).mono ?_
  rintro r w3 ⟨va, rfl, hb3, hra⟩
  have ho1 := own_lt hra
  have hra0 : ss.Own w3 va al := row_le hra (Nat.zero_le _)
  clear hra HM
  obtain ⟨pa, ca, rfl⟩ := row_shape hra0
  have ba : Below w3.heap.size w3 (w3.alloc (.cells #[.slice pa al.length ca, .int .i64 i, .int .i64 k, .string e, .int .i64 cd] 32)) := (Below.refl _ _).alloc (Nat.le_refl _) _
  have wa3 : (w3.alloc (.cells #[.slice pa al.length ca, .int .i64 i, .int .i64 k, .string e, .int .i64 cd] 32)).heap[w3.heap.size]? = some (.cells #[.slice pa al.length ca, .int .i64 i, .int .i64 k, .string e, .int .i64 cd] 32 (0, 0)) := heap_alloc_new _ _
  have ra3 := hra0.up ba
  have i3 := hb3.trans (ba.mono hb3.size)
  have ho2 : w.heap.size ≤ w3.heap.size := hb3.size
  clear ba hra0 hb3
  go_wp2_with (go_at_call 15; fail)
  obtain ⟨qa, hqa⟩ : ∃ q, q = w3.heap.size := ⟨_, rfl⟩
  rw [← hqa] at ho1 ho2 wa3 ⊢
  refine calls_w (fun u => Below w.heap.size w u ∧ u.heap[qa]? = some (.cells #[.slice pa al.length ca, .int .i64 i, .int .i64 k, .string e, .int .i64 cd] 32 (0, 0)) ∧ ss.Own u (.slice pa al.length ca) al) ⟨i3, wa3, ra3⟩ ?_
  clear hqa i3 wa3 ra3
  rintro u4 ⟨i4, wa4, ra4⟩
  refine (HX.out u4 i4).mono ?_
  rintro r w5 ⟨vg, rfl, hb5, hrg⟩
  have ho5 := own_lt hrg
  have hq5 := heap_lt wa4
  have rg5 : ss.Own w5 vg al := row_le hrg (Nat.zero_le _)
  clear hrg
  obtain ⟨pg, cg, rfl⟩ := row_shape rg5
  have bg : Below w5.heap.size w5 (w5.alloc (.cells #[.slice pg al.length cg, .int .i64 i, .int .i64 k, .string e, .int .i64 cd] 32)) := (Below.refl _ _).alloc (Nat.le_refl _) _
  have wg6 : (w5.alloc (.cells #[.slice pg al.length cg, .int .i64 i, .int .i64 k, .string e, .int .i64 cd] 32)).heap[w5.heap.size]? = some (.cells #[.slice pg al.length cg, .int .i64 i, .int .i64 k, .string e, .int .i64 cd] 32 (0, 0)) := heap_alloc_new _ _
  have i6 : InRL w qa (.slice pa al.length ca) w5.heap.size (.slice pg al.length cg) i k e cd al al (w5.alloc (.cells #[.slice pg al.length cg, .int .i64 i, .int .i64 k, .string e, .int .i64 cd] 32)) := by
    have h6 := hb5.trans (bg.mono hb5.size)
    exact ⟨i4.trans (h6.mono i4.size), (h6.block _ hq5).trans wa4, ra4.up h6, wg6, rg5.up bg, fun b hb => (ho1 b hb).2, ho2, fun b hb => by have := ho5 b hb; omega, Nat.lt_of_lt_of_le hq5 hb5.size⟩
  have wa6 := i6.wa
  clear ho1 ho2 i4 wa4 ra4 hb5 ho5 hq5 rg5 bg
  go_wp2_with (first | (refine wpList_load_row rfl 32 _ rfl w5.heap.size rfl _ _ _ _ wg6 Try.underlying32 rfl infoLO ?_) | (refine wpList_load_row rfl 32 _ rfl qa rfl _ _ _ _ wa6 Try.underlying32 rfl infoLO ?_) | (go_at_call 16; fail))
  obtain ⟨qg, hqg⟩ : ∃ q, q = w5.heap.size := ⟨_, rfl⟩
  rw [← hqg] at i6 ⊢
  refine calls_w (InRL w qa (.slice pa al.length ca) qg (.slice pg al.length cg) i k e cd al al) i6 ?_
  clear i6 wg6 wa6 hqg
  intro u7 i7
  refine (eqOut_any _ _ i k e cd al u7 hal' i7.rg i7.ra).mono ?_
  rintro r w8 ⟨rfl, hb8⟩
  have i8 := i7.up hb8
  clear i7 hb8
  have hg := i8.wg
  go_wp2_with (first | (refine wpList_load_row rfl 32 _ rfl qg rfl _ _ _ _ hg Try.underlying32 rfl infoLO ?_) | (go_at_call 17; fail))
  refine (markOut_any _ i k e cd al w8 hal2 i8.rg).mono ?_
  rintro r w9 ⟨rfl, hg9, lg, hlg, hmk, hog⟩
  have i9 := i8.mark hg9 hog
  clear hg i8 hg9 hog
  have hg := i9.wg
  go_wp2_with (first | (refine wpList_load_row rfl 32 _ rfl qg rfl _ _ _ _ hg Try.underlying32 rfl infoLO ?_) | (go_at_call 18; fail))
  have HHE : Hid (∀ u, ss.Own u (.slice pg al.length cg) lg → Calls Try.prog 18 #[.agg #[.slice pg al.length cg, .int .i64 i, .int .i64 k, .string e, .int .i64 cd], .int .i64 1] u fun r w' => r = .returned (.int .i64 ((al.length : Int) + 1)) ∧ Below u.heap.size u w') := fun u hu => by
    have := heldOut_any (.slice pg al.length cg) i k e cd lg u (by omega) hu (by rw [hlg]; exact hmk)
    rwa [hlg] at this
  clear hlg hmk
  refine (HHE.out w9 i9.rg).mono ?_
  rintro r w10 ⟨rfl, hb10⟩
  have i10 := i9.up hb10
  clear hg i9 hb10
  have hn1 : decide ((al.length : Int) + 1 < 0) = false := decide_eq_false (by omega)
  have hn2 : (((al.length : Int) + 1) == ((al.length : Int) + 1)) = true := by simp
  go_wp2_with (go_at_call 15; fail)
  refine (HX.out w10 i10.below).mono ?_
  rintro r w11 ⟨vh, rfl, hb11, hrh⟩
  have i11 := i10.up hb11
  have rh11 : ss.Own w11 vh al := row_le hrh (Nat.zero_le _)
  clear i10 hb11 hrh
  obtain ⟨ph, ch, rfl⟩ := row_shape rh11
  have bh : Below w11.heap.size w11 (w11.alloc (.cells #[.slice ph al.length ch, .int .i64 i, .int .i64 k, .string e, .int .i64 cd] 32)) := (Below.refl _ _).alloc (Nat.le_refl _) _
  have wh12 : (w11.alloc (.cells #[.slice ph al.length ch, .int .i64 i, .int .i64 k, .string e, .int .i64 cd] 32)).heap[w11.heap.size]? = some (.cells #[.slice ph al.length ch, .int .i64 i, .int .i64 k, .string e, .int .i64 cd] 32 (0, 0)) := heap_alloc_new _ _
  have i12 := i11.up bh
  have rh12 := rh11.up bh
  have wa12 := i12.wa
  clear i11 rh11 bh
  go_wp2_with (first | (refine wpList_load_row rfl 32 _ rfl w11.heap.size rfl _ _ _ _ wh12 Try.underlying32 rfl infoLO ?_) | (refine wpList_load_row rfl 32 _ rfl qa rfl _ _ _ _ wa12 Try.underlying32 rfl infoLO ?_) | (go_at_call 16; fail))
  refine (eqOut_any _ _ i k e cd al _ hal' rh12 i12.ra).mono ?_
  rintro r w13 ⟨rfl, hb13⟩
  have i13 := i12.up hb13
  clear wh12 wa12 i12 rh12 hb13
  have hg := i13.wg
  go_wp2_with (first | (refine wpList_load_row rfl 32 _ rfl qg rfl _ _ _ _ hg Try.underlying32 rfl infoLO ?_) | (go_at_call 18; fail))
  refine (HHE.out w13 i13.rg).mono ?_
  rintro r w14 ⟨rfl, hb14⟩
  have HBf : Hid (Below w.heap.size w w14) := (i13.up hb14).below
  clear hg i13 hb14 HHE HX
  go_wp2
  go_ret
  exact ⟨rfl, HBf.out⟩
end Go.Proofs.Ytikkohecanmefaa.su
