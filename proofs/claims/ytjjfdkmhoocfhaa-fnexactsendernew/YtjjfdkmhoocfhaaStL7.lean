/-
  The walk of the law that holds the program's SenderNew against the model's: true at every text; what is written into the program's answer stays there through another call. No condition.
-/
import Derived.Test.YtjjfdkmhoocfhaaStM
import Derived.Test.YtjjfdkmhoocfhaaStN1
import Derived.Test.YtjjfdkmhoocfhaaStV4
namespace Go.Proofs.Ytjjfdkmhoocfhaa.st
open Go.ChangeShapes Go.WideShapes Go.ChangeAt Go.RowKit
open Go.Proofs.Ytjjfdkmhoocfhaa.wi (heap_lt calls_w wp_w)
open Classical
set_option linter.unusedVariables false

theorem new_both (t : ByteArray) (ht : t.size ≤ maxLen) : ∃ al : List Ln, al.length ≤ 1 ∧ (∀ u, Calls Try.prog 24 #[.string t] u (SndPost u al)) ∧ ∀ u, Calls Try.prog 25 #[.string t] u (SndPost u al) := by
  by_cases h : 400 < t.size
  · exact ⟨[], by simp, fun u => newM_no t u ht h, fun u => newI_no t u ht h⟩
  · exact ⟨[(0, t)], by simp, fun u => newM_yes t u (by omega), fun u => newI_yes t u (by omega)⟩
abbrev C1 : Value → Array Value := fun v => #[v]
set_option maxRecDepth 20000 in
set_option maxHeartbeats 8000000 in
theorem lawSenderNew (w : World) (t : ByteArray) (ht : t.size ≤ maxLen) :
    Calls Try.prog 6 #[.string t] w fun r w' => r = .returned (.bool true) ∧ Below w.heap.size w w' := by
  obtain ⟨al, hal, HM0, HX0⟩ := new_both t ht
  have HM : Hid (∀ u, Calls Try.prog 24 #[.string t] u (SndPost u al)) := HM0
  have HX : Hid (∀ u, Calls Try.prog 25 #[.string t] u (SndPost u al)) := HX0
  have hal' : al.length ≤ maxLen := Nat.le_trans hal (by decide)
  have hal2 : al.length ≤ 1000 := Nat.le_trans hal (by decide)
  have ht9 := ht
  unfold maxLen at ht9
  have HB0 : Hid (Below w.heap.size w w) := Below.refl _ _
  clear HM0 HX0
  by_cases h20 : 1048576 < t.size
  · go_enter Try.func6, Try.ntmps6
    go_wp2
    go_ret
    exact ⟨rfl, HB0.out⟩
  · go_enter Try.func6, Try.ntmps6
    go_wp2_with (go_at_call 24; fail)
    refine (HM.out w).mono ?_
    rintro r w3 ⟨va, rfl, hb3, hra⟩
    have ho1 := own_lt hra
    have hra0 : OwnX w3 va al := OwnX.of hra
    clear hra HM
    have i3 := hb3.trans ((rw.up_alloc w3 (.cells #[va] 49)).mono hb3.size)
    have wa3 : rw.At (w3.alloc (.cells #[va] 49)) w3.heap.size #[va] 49 := rw.At.new _ _ _
    have ra3 := hra0.up (rw.up_alloc w3 (.cells #[va] 49))
    have ho2 : w.heap.size ≤ w3.heap.size := hb3.size
    obtain ⟨pa, ca, rfl⟩ := hra0.shape
    clear hra0 hb3
    go_wp2_with (go_at_call 25; fail)
    obtain ⟨qa, hqa⟩ : ∃ q, q = w3.heap.size := ⟨_, rfl⟩
    rw [← hqa] at ho1 ho2 wa3 ⊢
    refine calls_w (fun u => Below w.heap.size w u ∧ rw.At u qa #[.slice pa al.length ca] 49 ∧ OwnX u (.slice pa al.length ca) al) ⟨i3, wa3, ra3⟩ ?_
    clear hqa i3 wa3 ra3
    rintro u4 ⟨i4, wa4, ra4⟩
    refine (HX.out u4).mono ?_
    rintro r w5 ⟨vg, rfl, hb5, hrg⟩
    have ho5 := own_lt hrg
    have hq5 := wa4.lt
    have rg5 : OwnX w5 vg al := OwnX.of hrg
    clear hrg
    obtain ⟨pg, cg, rfl⟩ := rg5.shape
    have i6 : InRS w C1 49 qa (.slice pa al.length ca) w5.heap.size (.slice pg al.length cg) al al (w5.alloc (.cells #[.slice pg al.length cg] 49)) := by
      have bg := rw.up_alloc w5 (.cells #[.slice pg al.length cg] 49)
      have h6 := hb5.trans (bg.mono hb5.size)
      exact ⟨i4.trans (h6.mono i4.size), wa4.up h6, ra4.up h6, rw.At.new _ _ _, rg5.up bg, fun b hb => (ho1 b hb).2, ho2, fun b hb => by have := ho5 b hb; omega, Nat.lt_of_lt_of_le hq5 hb5.size⟩
    have c0 := i6.wa.cell 0
    have c1 := i6.wg.cell 0
    clear ho1 ho2 i4 wa4 ra4 hb5 ho5 hq5 rg5
    go_wp2_with (go_at_call 23; fail)
    obtain ⟨qg, hqg⟩ : ∃ q, q = w5.heap.size := ⟨_, rfl⟩
    rw [← hqg] at i6 ⊢
    refine calls_w (InRS w C1 49 qa (.slice pa al.length ca) qg (.slice pg al.length cg) al al) i6 ?_
    clear i6 c0 c1 hqg
    intro u7 i7
    refine (eqSnd_any _ _ al u7 hal' i7.rg.slice i7.ra.slice).mono ?_
    rintro r w8 ⟨rfl, hb8⟩
    have i8 := i7.up hb8
    clear i7 hb8
    have c1 : w8.cell? ⟨qg, 0, none⟩ = some (.slice pg al.length cg) := i8.wg.cell 0
    go_wp2_with (go_at_call 26; fail)
    refine (markSnd_any _ al w8 hal2 i8.rg).mono ?_
    rintro r w9 ⟨rfl, hg9, lg, hlg, hmk, hog⟩
    have i9 := i8.mark hg9 hog
    clear c1 i8 hg9 hog
    have c1 : w9.cell? ⟨qg, 0, none⟩ = some (.slice pg al.length cg) := i9.wg.cell 0
    go_wp2_with (go_at_call 27; fail)
    have HHE : Hid (∀ u, OwnX u (.slice pg al.length cg) lg → Calls Try.prog 27 #[.agg #[.slice pg al.length cg], .int .i64 1] u fun r w' => r = .returned (.int .i64 (2 * (al.length : Int) + 1)) ∧ Below u.heap.size u w') := fun u hu => by
      have := heldSnd_any (.slice pg al.length cg) lg u (by omega) hu (by rw [hlg]; exact hmk)
      rwa [hlg] at this
    clear hlg hmk
    refine (HHE.out w9 i9.rg).mono ?_
    rintro r w10 ⟨rfl, hb10⟩
    have i10 := i9.up hb10
    clear c1 i9 hb10
    have hn1 : decide (2 * (al.length : Int) + 1 < 0) = false := decide_eq_false (by omega)
    have hn2 : ((2 * (al.length : Int) + 1) == (2 * (al.length : Int) + 1)) = true := by simp
    go_wp2_with (go_at_call 25; fail)
    refine (HX.out w10).mono ?_
    rintro r w11 ⟨vh, rfl, hb11, hrh⟩
    have i11 := i10.up hb11
    have rh11 : OwnX w11 vh al := OwnX.of hrh
    clear i10 hb11 hrh
    obtain ⟨ph, ch, rfl⟩ := rh11.shape
    have bh := rw.up_alloc w11 (.cells #[.slice ph al.length ch] 49)
    have i12 := i11.up bh
    have rh12 := rh11.up bh
    have c0 : (w11.alloc (.cells #[.slice ph al.length ch] 49)).cell? ⟨qa, 0, none⟩ = some (.slice pa al.length ca) := i12.wa.cell 0
    clear i11 rh11 bh
    go_wp2_with (go_at_call 23; fail)
    refine (eqSnd_any _ _ al _ hal' rh12.slice i12.ra.slice).mono ?_
    rintro r w13 ⟨rfl, hb13⟩
    have i13 := i12.up hb13
    clear c0 i12 rh12 hb13
    have c1 : w13.cell? ⟨qg, 0, none⟩ = some (.slice pg al.length cg) := i13.wg.cell 0
    go_wp2_with (go_at_call 27; fail)
    refine (HHE.out w13 i13.rg).mono ?_
    rintro r w14 ⟨rfl, hb14⟩
    have HBf : Hid (Below w.heap.size w w14) := (i13.up hb14).below
    clear c1 i13 hb14 HHE HX
    go_wp2
    go_ret
    exact ⟨rfl, HBf.out⟩
end Go.Proofs.Ytjjfdkmhoocfhaa.st
