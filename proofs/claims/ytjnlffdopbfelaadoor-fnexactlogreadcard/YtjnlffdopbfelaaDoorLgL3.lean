/-
  The law that holds the program's LogRead against the model's tells true at every key and text: the two answers are the same, what is written into the program's stays there through another call. Condition: the table of the rounds' numbers lies in its variable.
-/
import Derived.Test.YtjnlffdopbfelaaDoorLgU3
import Derived.Test.YtjnlffdopbfelaaDoorLgRe
namespace Go.Proofs.YtjnlffdopbfelaaDoor.ll
open Go.ChangeShapes Go.WideShapes Go.ChangeAt Go.RowKit
open Go.Proofs.YtjnlffdopbfelaaDoor.wi (heap_lt calls_w wp_w)
open Go.Proofs.YtjnlffdopbfelaaDoor.lg Go.Proofs.YtjnlffdopbfelaaDoor.ss
open Go.Proofs.YtjnlffdopbfelaaDoor.lm (row_shape row_up own_slice row_le row_block ReadPost readM_any logR_yes logR_size logR_form)
open Go.Proofs.YtjnlffdopbfelaaDoor.li (readI_any)
open Go.Proofs.YtjnlffdopbfelaaDoor.sh (macB Tab Tab.up)
set_option linter.unusedVariables false

theorem logR_len (key text : ByteArray) : (logR macB key text).1.length ≤ 60 := by
  by_cases h0 : 8000 < key.size ∨ 8000 < text.size
  · rw [logR_size h0]; simp
  · by_cases h : KeyL key
    · rw [logR_yes h (by omega)]
      exact (readF_right 60 (chainS macB key) 0).1
    · rw [logR_form h0 h]; simp
/-- what is known behind the two answers: their blocks, their rows, and that the second's row lies behind the first's block -/
structure InRL (w : World) (qa : Nat) (va : Value) (qg : Nat) (vg : Value) (i k : Int) (al lg : List ByteArray) (u : World) : Prop where
  below : Below w.heap.size w u
  wa : u.heap[qa]? = some (.cells #[va, .int .i64 i, .int .i64 k] 33 (0, 0))
  ra : ss.Own u va al
  wg : u.heap[qg]? = some (.cells #[vg, .int .i64 i, .int .i64 k] 33 (0, 0))
  rg : ss.Own u vg lg
  o1 : ∀ b, va.ownBlock = some b → b < qa
  o2 : w.heap.size ≤ qa
  o3 : ∀ b, vg.ownBlock = some b → qa < b ∧ b < qg
  o4 : qa < qg
theorem InRL.up {w u u' : World} {qa : Nat} {va : Value} {qg : Nat} {vg : Value} {i k : Int} {al lg : List ByteArray} (h : InRL w qa va qg vg i k al lg u) (hb : Below u.heap.size u u') : InRL w qa va qg vg i k al lg u' :=
  ⟨h.below.trans (hb.mono h.below.size), (hb.block _ (heap_lt h.wa)).trans h.wa, h.ra.up hb, (hb.block _ (heap_lt h.wg)).trans h.wg, h.rg.up hb, h.o1, h.o2, h.o3, h.o4⟩
theorem InRL.mark {w u u' : World} {qa : Nat} {va : Value} {qg : Nat} {vg : Value} {i k : Int} {al lg lg' : List ByteArray} (h : InRL w qa va qg vg i k al lg u) (hg : u.grownBy u' vg.ownBlock) (hr : ss.Own u' vg lg') : InRL w qa va qg vg i k al lg' u' := by
  have h2 := h.o2
  have h4 := h.o4
  cases hb : vg.ownBlock with
  | none =>
    rw [hb] at hg
    exact ⟨h.below.grown hg h.below.size (fun j hj => by cases hj), (hg.block _ (heap_lt h.wa) (by simp)).trans h.wa, h.ra.kept hg (by cases va.ownBlock <;> simp), (hg.block _ (heap_lt h.wg) (by simp)).trans h.wg, hr, h.o1, h2, h.o3, h4⟩
  | some b =>
    rw [hb] at hg
    have h5 := h.o3 b hb
    refine ⟨h.below.grown hg h.below.size (fun j hj => by cases hj; omega), (hg.block _ (heap_lt h.wa) (by simp; omega)).trans h.wa, h.ra.kept hg ?_, (hg.block _ (heap_lt h.wg) (by simp; omega)).trans h.wg, hr, h.o1, h2, h.o3, h4⟩
    cases hv : va.ownBlock with
    | none => exact .inl rfl
    | some c => exact .inr (by have := h.o1 c hv; simp; omega)
theorem own_lt {u : World} {base : Nat} {v : Value} {l : List ByteArray} (h : u.ownsRow base 9 1 v l.length (l.map Value.string)) : ∀ b, v.ownBlock = some b → base ≤ b ∧ b < u.heap.size := fun b hb => by
  obtain ⟨h1, cur, h2⟩ := row_block h b hb
  exact ⟨h1, heap_lt h2⟩
set_option maxRecDepth 20000 in
set_option maxHeartbeats 8000000 in
theorem readLaw (w : World) (key : ByteArray) (hk : key.size ≤ maxLen) (text : ByteArray) (ht : text.size ≤ maxLen) (hT : Tab w) :
    Calls Tryd.prog 6 #[.string key, .string text] w fun e w' => e = .returned (.bool true) ∧ Below w.heap.size w w' := by
  have HB : Hid (Below w.heap.size w w) := Below.refl _ _
  have hal := logR_len key text
  obtain ⟨al, i, k, hL⟩ : ∃ l i k, logR macB key text = (l, i, k) := ⟨_, _, _, rfl⟩
  rw [hL] at hal
  dsimp only at hal
  have HM : Hid (∀ u, Calls Tryd.prog 18 #[.string key, .string text] u (ReadPost u (al, i, k))) := fun u => by
    have := readM_any key text u hk ht
    rwa [hL] at this
  have HX : Hid (∀ u, Below w.heap.size w u → Calls Tryd.prog 19 #[.string key, .string text] u (ReadPost u (al, i, k))) := fun u hu => by
    have := readI_any key text u hk ht (hT.up hu)
    rwa [hL] at this
  have hal' : al.length ≤ maxLen := Nat.le_trans hal (by decide)
  have hal2 : al.length ≤ 1048576 := Nat.le_trans hal (by decide)
  clear hL hT
  unfold maxLen at hk ht
  by_cases h1 : 1048576 < key.size
  · go_enter Tryd.func6, Tryd.ntmps6
    go_wp2
    go_ret
    exact ⟨rfl, HB.out⟩
  · by_cases h2 : 1048576 < text.size
    · go_enter Tryd.func6, Tryd.ntmps6
      go_wp2
      go_ret
      exact ⟨rfl, HB.out⟩
    · go_enter Tryd.func6, Tryd.ntmps6
      go_wp2_with (go_at_call 18; fail)
      refine (HM.out w).mono ?_
      rintro r w3 ⟨va, rfl, hb3, hra⟩
      have ho1 := own_lt hra
      have hra0 : ss.Own w3 va al := row_le hra (Nat.zero_le _)
      clear hra HM
      obtain ⟨pa, ca, rfl⟩ := row_shape hra0
      have ba : Below w3.heap.size w3 (w3.alloc (.cells #[.slice pa al.length ca, .int .i64 i, .int .i64 k] 33)) := (Below.refl _ _).alloc (Nat.le_refl _) _
      have wa3 : (w3.alloc (.cells #[.slice pa al.length ca, .int .i64 i, .int .i64 k] 33)).heap[w3.heap.size]? = some (.cells #[.slice pa al.length ca, .int .i64 i, .int .i64 k] 33 (0, 0)) := heap_alloc_new _ _
      have ra3 := hra0.up ba
      have i3 := hb3.trans (ba.mono hb3.size)
      have ho2 : w.heap.size ≤ w3.heap.size := hb3.size
      clear ba hra0 hb3
      go_wp2_with (go_at_call 19; fail)
      obtain ⟨qa, hqa⟩ : ∃ q, q = w3.heap.size := ⟨_, rfl⟩
      rw [← hqa] at ho1 ho2 wa3 ⊢
      refine calls_w (fun u => Below w.heap.size w u ∧ u.heap[qa]? = some (.cells #[.slice pa al.length ca, .int .i64 i, .int .i64 k] 33 (0, 0)) ∧ ss.Own u (.slice pa al.length ca) al) ⟨i3, wa3, ra3⟩ ?_
      clear hqa i3 wa3 ra3
      rintro u4 ⟨i4, wa4, ra4⟩
      refine (HX.out u4 i4).mono ?_
      rintro r w5 ⟨vg, rfl, hb5, hrg⟩
      have ho5 := own_lt hrg
      have hq5 := heap_lt wa4
      have rg5 : ss.Own w5 vg al := row_le hrg (Nat.zero_le _)
      clear hrg
      obtain ⟨pg, cg, rfl⟩ := row_shape rg5
      have bg : Below w5.heap.size w5 (w5.alloc (.cells #[.slice pg al.length cg, .int .i64 i, .int .i64 k] 33)) := (Below.refl _ _).alloc (Nat.le_refl _) _
      have wg6 : (w5.alloc (.cells #[.slice pg al.length cg, .int .i64 i, .int .i64 k] 33)).heap[w5.heap.size]? = some (.cells #[.slice pg al.length cg, .int .i64 i, .int .i64 k] 33 (0, 0)) := heap_alloc_new _ _
      have i6 : InRL w qa (.slice pa al.length ca) w5.heap.size (.slice pg al.length cg) i k al al (w5.alloc (.cells #[.slice pg al.length cg, .int .i64 i, .int .i64 k] 33)) := by
        have h6 := hb5.trans (bg.mono hb5.size)
        exact ⟨i4.trans (h6.mono i4.size), (h6.block _ hq5).trans wa4, ra4.up h6, wg6, rg5.up bg, fun b hb => (ho1 b hb).2, ho2, fun b hb => by have := ho5 b hb; omega, Nat.lt_of_lt_of_le hq5 hb5.size⟩
      have wa6 := i6.wa
      clear ho1 ho2 i4 wa4 ra4 hb5 ho5 hq5 rg5 bg
      go_wp2_with (first | (refine wpList_load_row rfl 33 _ rfl w5.heap.size rfl _ _ _ _ wg6 Tryd.underlying33 rfl infoLO ?_) | (refine wpList_load_row rfl 33 _ rfl qa rfl _ _ _ _ wa6 Tryd.underlying33 rfl infoLO ?_) | (go_at_call 20; fail))
      obtain ⟨qg, hqg⟩ : ∃ q, q = w5.heap.size := ⟨_, rfl⟩
      rw [← hqg] at i6 ⊢
      refine calls_w (InRL w qa (.slice pa al.length ca) qg (.slice pg al.length cg) i k al al) i6 ?_
      clear i6 wg6 wa6 hqg
      intro u7 i7
      refine (eqLog_any _ _ i k al u7 hal' i7.rg i7.ra).mono ?_
      rintro r w8 ⟨rfl, hb8⟩
      have i8 := i7.up hb8
      clear i7 hb8
      have hg := i8.wg
      go_wp2_with (first | (refine wpList_load_row rfl 33 _ rfl qg rfl _ _ _ _ hg Tryd.underlying33 rfl infoLO ?_) | (go_at_call 21; fail))
      refine (markLog_any _ i k al w8 hal2 i8.rg).mono ?_
      rintro r w9 ⟨rfl, hg9, lg, hlg, hmk, hog⟩
      have i9 := i8.mark hg9 hog
      clear hg i8 hg9 hog
      have hg := i9.wg
      go_wp2_with (first | (refine wpList_load_row rfl 33 _ rfl qg rfl _ _ _ _ hg Tryd.underlying33 rfl infoLO ?_) | (go_at_call 22; fail))
      have HHE : Hid (∀ u, ss.Own u (.slice pg al.length cg) lg → Calls Tryd.prog 22 #[.agg #[.slice pg al.length cg, .int .i64 i, .int .i64 k], .int .i64 1] u fun r w' => r = .returned (.int .i64 ((al.length : Int) + 1)) ∧ Below u.heap.size u w') := fun u hu => by
        have := heldLog_any (.slice pg al.length cg) i k lg u (by omega) hu (by rw [hlg]; exact hmk)
        rwa [hlg] at this
      clear hlg hmk
      refine (HHE.out w9 i9.rg).mono ?_
      rintro r w10 ⟨rfl, hb10⟩
      have i10 := i9.up hb10
      clear hg i9 hb10
      have hn1 : decide ((al.length : Int) + 1 < 0) = false := decide_eq_false (by omega)
      have hn2 : (((al.length : Int) + 1) == ((al.length : Int) + 1)) = true := by simp
      go_wp2_with (go_at_call 19; fail)
      refine (HX.out w10 i10.below).mono ?_
      rintro r w11 ⟨vh, rfl, hb11, hrh⟩
      have i11 := i10.up hb11
      have rh11 : ss.Own w11 vh al := row_le hrh (Nat.zero_le _)
      clear i10 hb11 hrh
      obtain ⟨ph, ch, rfl⟩ := row_shape rh11
      have bh : Below w11.heap.size w11 (w11.alloc (.cells #[.slice ph al.length ch, .int .i64 i, .int .i64 k] 33)) := (Below.refl _ _).alloc (Nat.le_refl _) _
      have wh12 : (w11.alloc (.cells #[.slice ph al.length ch, .int .i64 i, .int .i64 k] 33)).heap[w11.heap.size]? = some (.cells #[.slice ph al.length ch, .int .i64 i, .int .i64 k] 33 (0, 0)) := heap_alloc_new _ _
      have i12 := i11.up bh
      have rh12 := rh11.up bh
      have wa12 := i12.wa
      clear i11 rh11 bh
      go_wp2_with (first | (refine wpList_load_row rfl 33 _ rfl w11.heap.size rfl _ _ _ _ wh12 Tryd.underlying33 rfl infoLO ?_) | (refine wpList_load_row rfl 33 _ rfl qa rfl _ _ _ _ wa12 Tryd.underlying33 rfl infoLO ?_) | (go_at_call 20; fail))
      refine (eqLog_any _ _ i k al _ hal' rh12 i12.ra).mono ?_
      rintro r w13 ⟨rfl, hb13⟩
      have i13 := i12.up hb13
      clear wh12 wa12 i12 rh12 hb13
      have hg := i13.wg
      go_wp2_with (first | (refine wpList_load_row rfl 33 _ rfl qg rfl _ _ _ _ hg Tryd.underlying33 rfl infoLO ?_) | (go_at_call 22; fail))
      refine (HHE.out w13 i13.rg).mono ?_
      rintro r w14 ⟨rfl, hb14⟩
      have HBf : Hid (Below w.heap.size w w14) := (i13.up hb14).below
      clear hg i13 hb14 HHE HX
      go_wp2
      go_ret
      exact ⟨rfl, HBf.out⟩
end Go.Proofs.YtjnlffdopbfelaaDoor.ll
