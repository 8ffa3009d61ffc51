/-
  The program's openedGram behind a right number: what the plain function tells; no old block turns. Conditions: the two tables and the four errors lie in their variables.
-/
import Derived.Test.YtgchjinbnlclnaaGreatDoorGramI
namespace Go.Proofs.YtgchjinbnlclnaaGreatDoor.gm
open Go.ChangeShapes Go.WideShapes Go.ChangeAt Go.RowKit
open Go.Proofs.YtgchjinbnlclnaaGreatDoor.wi (RightG gramI_any gramM_any heap_lt wp_w calls_w)
open Go.Proofs.YtgchjinbnlclnaaGreatDoor.np (getV numV)
open Classical
set_option linter.unusedVariables false

set_option maxHeartbeats 8000000 in
theorem opened_num (key text : ByteArray) (w : World) (hk : key.size ≤ 8000) (ht : text.size ≤ 8000) {a1 a2 a3 a4 : Addr} (hE : ei.Errs w a1 a2 a3 a4) (h1 : KeyR key) (n a : Int) (hg : getV text 0 = (n, a, 0)) (h2 : ¬ (0 ≤ n ∧ n ≤ 804401)) :
    Calls Tryz.prog 28 #[.string key, .string text] w (OpPost w (noG 3)) := by
  have HK := fun u => keyI_any key u (Nat.le_trans hk (by decide))
  rw [decide_eq_true h1] at HK
  have HR := fun u => readNum_out text n a 0 hg ht u
  rw [gi.errV_ok] at HR
  obtain ⟨_, _, _, _, hi⟩ := nk.num_canon hg
  have HW : Hid (∀ u', Below w.heap.size w u' → Calls Tryz.prog 29 #[.iface 148 (.pointer (some a2))] u' fun e' w' => e' = .returned (.int .i64 3) ∧ Below u'.heap.size u' w') := fun u' hu => (ei.why_b (hE.up hu)).mono fun e w' ⟨h, h'⟩ => ⟨h, by rw [h']; exact Below.refl _ _⟩
  have HV : Hid (∀ u, Below w.heap.size w u → u.cell? ⟨1, 0, none⟩ = some (.iface 148 (.pointer (some a2)))) := fun u hu => (hE.up hu).vb
  have hlt : 1 < w.heap.size := World.block_lt_of_cell? w _ hE.vb
  have n1 : ¬ w.heap.size = 1 := by omega
  have n2 : ¬ 1 = w.heap.size := by omega
  clear hE hlt hg
  go_enter Tryz.func28, Tryz.ntmps28
  go_wp2_with (first | (go_at_call 17; (with_reducible refine (HK _).mono ?_); rintro r w' ⟨rfl, hw'⟩; obtain rfl := hw'.symm) | (go_at_call 45; (with_reducible refine (HR _).mono ?_); rintro r w' ⟨rfl, hw'⟩; obtain rfl := hw'.symm) | (go_at_call 46; fail))
  refine calls_w (InO w) (inO_start w) ?_
  intro u0 i0
  refine (gramOf_any n u0 hi).mono ?_
  rintro r w1 ⟨rfl, hb1⟩
  have i1 := i0.up hb1
  clear i0 hb1
  go_wp2_with (go_at_call 11; fail)
  refine (gramI_any (gS n) (gE n) (gC n) ⟨#[]⟩ w1 (Nat.zero_le _)).mono ?_
  rw [decide_eq_false (fun hh => h2 (right_of_num.1 hh).1)]
  rintro r w2 ⟨rfl, hb2⟩
  have i2 := i1.up hb2
  clear i1 hb2
  go_wp2_with fail
  have va := HV.out _ i2.1
  obtain ⟨⟨c0, c1, c2, c3⟩, f0, f1, f2, f3⟩ := gram_cells i2.2
  have HI : Hid (InO w w2) := i2
  clear i2 HV HK HR
  go_region
  go_wp2
  exact bodyPost_ret (res_two Tryz.results28 _ _ w.heap.size _ _ rfl rfl (set4 HI.out.2) rfl) rfl ⟨below_set4 HI.out.1.drew (Nat.le_refl _), _, rfl, HW.out⟩

/-- behind the box: its answer's block -/
structure InOB (w : World) (q : Nat) (T : ByteArray) (c : Int) (u : World) : Prop where
  base : InO w u
  box : u.heap[q]? = some (.cells #[.string T, .int .i64 0, .int .i64 c] 58 (0, 0))
theorem InOB.up {w u u' : World} {q : Nat} {T : ByteArray} {c : Int} (h : InOB w q T c u) (hb : Below u.heap.size u u') : InOB w q T c u' := ⟨h.base.up hb, (hb.block _ (heap_lt h.box)).trans h.box⟩
theorem InOB.cells {w u : World} {q : Nat} {T : ByteArray} {c : Int} (h : InOB w q T c u) : u.cell? ⟨q, 0, none⟩ = some (.string T) ∧ u.cell? ⟨q, 1, none⟩ = some (.int .i64 0) ∧ u.cell? ⟨q, 2, none⟩ = some (.int .i64 c) := by
  refine ⟨?_, ?_, ?_⟩ <;> simp [World.cell?, h.box]
/-- behind the gram: its block -/
def InOG (w : World) (q : Nat) (T : ByteArray) (s e c : Int) (g : Nat) (u : World) : Prop := InO w u ∧ u.heap[g]? = some (.cells #[.int .i64 s, .int .i64 e, .int .i64 c, .string T] 24 (0, 0))
theorem InOG.up {w u u' : World} {q : Nat} {T : ByteArray} {s e c : Int} {g : Nat} (h : InOG w q T s e c g u) (hb : Below u.heap.size u u') : InOG w q T s e c g u' := ⟨h.1.up hb, (hb.block _ (heap_lt h.2)).trans h.2⟩
theorem openA_small {key : ByteArray} {n : Int} {b T : ByteArray} {c : Int} (h : cc.openA key n b = (T, c)) (hb : b.size ≤ maxLen) : T.size ≤ maxLen := by
  unfold cc.openA at h
  split at h
  · cases h; exact Nat.zero_le _
  · split at h
    · cases h; exact Nat.zero_le _
    · split at h
      · cases h; exact Nat.zero_le _
      · split at h
        · cases h
          rw [cc.hideB_size, ByteArray.size_extract]
          omega
        · cases h; exact Nat.zero_le _
set_option maxHeartbeats 8000000 in
theorem opened_box (key text : ByteArray) (w : World) (hk : key.size ≤ 8000) (ht : text.size ≤ 8000) {a1 a2 a3 a4 : Addr} (hE : ei.Errs w a1 a2 a3 a4) (hT : cc.Both w) (h1 : KeyR key) (n a : Int) (hg : getV text 0 = (n, a, 0)) (h2 : 0 ≤ n ∧ n ≤ 804401) (T : ByteArray) (c : Int) (ho : cc.openA key n (text.extract a.toNat text.size) = (T, c)) :
    Calls Tryz.prog 28 #[.string key, .string text] w (OpPost w (openG key text)) := by
  have HK := fun u => keyI_any key u (Nat.le_trans hk (by decide))
  rw [decide_eq_true h1] at HK
  have HR := fun u => readNum_out text n a 0 hg ht u
  rw [gi.errV_ok] at HR
  obtain ⟨k, rfl, hkl, _, hi⟩ := nk.num_canon hg
  have hsz : ¬ (8000 < key.size ∨ 8000 < text.size) := by omega
  rw [Int.toNat_natCast] at ho
  have HO : Hid (∀ u, Below w.heap.size w u → Calls Tryz.prog 47 #[.string key, .int .i64 n, .string (text.extract k text.size)] u fun e w' => e = .returned (.agg #[.string T, .int .i64 0, .int .i64 c]) ∧ Below u.heap.size u w') := fun u hu => cc.implOpen_out key n _ T c ho u (Nat.le_trans hk (by decide)) (by rw [ByteArray.size_extract]; unfold maxLen; omega) (hT.up hu)
  have HTs : Hid (T.size ≤ maxLen) := openA_small ho (by rw [ByteArray.size_extract]; unfold maxLen; omega)
  have HG : Hid (∀ u, Calls Tryz.prog 46 #[.int .i64 n] u fun r w' => r = .returned (.agg #[.int .i64 (gS n), .int .i64 (gE n), .int .i64 (gC n), .string ⟨#[]⟩]) ∧ Below u.heap.size u w') := fun u => gramOf_any n u hi
  have HA1 : Hid (c ≠ 0 → openG key text = noG c) := fun hc => openG_box hsz h1 hg h2 (by rw [Int.toNat_natCast]; exact ho) hc
  have HA2 : Hid (c = 0 → 800 < T.size → openG key text = noG 1) := fun hc hl => openG_long hsz h1 hg h2 (by rw [Int.toNat_natCast, ho, hc]) hl
  have HA3 : Hid (c = 0 → ¬ 800 < T.size → openG key text = ((gS n, gE n, gC n, T), 0)) := fun hc hl => openG_ok hsz h1 hg h2 (by rw [Int.toNat_natCast, ho, hc]) hl
  obtain ⟨A, hA⟩ : ∃ A, A = openG key text := ⟨_, rfl⟩
  rw [← hA] at HA1 HA2 HA3 ⊢
  clear hA hg ho hsz
  go_enter Tryz.func28, Tryz.ntmps28
  go_wp2_with (first | (go_at_call 17; (with_reducible refine (HK _).mono ?_); rintro r w' ⟨rfl, hw'⟩; obtain rfl := hw'.symm) | (go_at_call 45; (with_reducible refine (HR _).mono ?_); rintro r w' ⟨rfl, hw'⟩; obtain rfl := hw'.symm) | (go_at_call 46; fail))
  refine calls_w (InO w) (inO_start w) ?_
  intro u0 i0
  refine (HG.out u0).mono ?_
  rintro r w1 ⟨rfl, hb1⟩
  have i1 := i0.up hb1
  clear i0 hb1
  go_wp2_with (go_at_call 11; fail)
  refine (gramI_any (gS n) (gE n) (gC n) ⟨#[]⟩ w1 (Nat.zero_le _)).mono ?_
  rw [decide_eq_true (show RightG (gS n) (gE n) (gC n) (⟨#[]⟩ : ByteArray).size from right_of_num.2 ⟨h2, Nat.zero_le _⟩)]
  rintro r w2 ⟨rfl, hb2⟩
  have i2 := i1.up hb2
  clear i1 hb2 HK HR
  have hkl2 : (k : Int) ≤ (text.size : Int) := by omega
  go_wp2_with (go_at_call 47; fail)
  refine (HO.out w2 i2.1).mono ?_
  rintro r w3 ⟨rfl, hb3⟩
  have i3 := i2.up hb3
  clear i2 hb3 HO
  by_cases hc : c = 0
  · subst hc
    have hm : w.heap.size < w3.heap.size := heap_lt i3.2
    have i4 : InOB w w3.heap.size T 0 (w3.alloc (.cells #[.string T, .int .i64 0, .int .i64 0] 58)) := ⟨i3.up ((Below.refl _ _).alloc (Nat.le_refl _) _), heap_alloc_new _ _⟩
    go_wp2_with (go_at_call 46; fail)
    obtain ⟨q, hq⟩ : ∃ q, q = w3.heap.size := ⟨_, rfl⟩
    rw [← hq] at hm i4 ⊢
    refine calls_w (InOB w q T 0) i4 ?_
    clear i3 i4 hq
    intro u4 i4
    refine (HG.out u4).mono ?_
    rintro r w5 ⟨rfl, hb5⟩
    have i5 := i4.up hb5
    have hm5 : q < w5.heap.size := heap_lt i5.box
    clear i4 hb5 HG
    obtain ⟨b0, b1, b2⟩ := i5.cells
    have n1 : ¬ w5.heap.size = q := by omega
    have n2 : ¬ q = w5.heap.size := by omega
    go_wp2_with (go_at_call 11; fail)
    have i6 : InOG w q T (gS n) (gE n) (gC n) w5.heap.size (w5.alloc (.cells #[.int .i64 (gS n), .int .i64 (gE n), .int .i64 (gC n), .string T] 24)) := ⟨i5.base.up ((Below.refl _ _).alloc (Nat.le_refl _) _), heap_alloc_new _ _⟩
    obtain ⟨g, hgq⟩ : ∃ g, g = w5.heap.size := ⟨_, rfl⟩
    rw [← hgq] at i6 hm5 ⊢
    refine calls_w (InOG w q T (gS n) (gE n) (gC n) g) i6 ?_
    clear i6 i5 n1 n2 b0 b1 b2 hgq
    intro u6 i6
    have hTs : T.size ≤ maxLen := HTs.out
    refine (gramI_any (gS n) (gE n) (gC n) T u6 hTs).mono ?_
    rintro r w7 ⟨rfl, hb7⟩
    have i7 := i6.up hb7
    clear i6 hb7
    have n1 : ¬ w.heap.size = g := by omega
    have n2 : ¬ g = w.heap.size := by omega
    by_cases hl : 800 < T.size
    · rw [decide_eq_false (show ¬ RightG (gS n) (gE n) (gC n) T.size from fun hh => by have := (right_of_num.1 hh).2; omega)]
      have hAA := HA2.out (by trivial) hl
      subst hAA
      clear HA1 HA2 HA3
      have HW : Hid (∀ u', Below w.heap.size w u' → Calls Tryz.prog 29 #[.iface 148 (.pointer (some a1))] u' fun e' w' => e' = .returned (.int .i64 1) ∧ Below u'.heap.size u' w') := fun u' hu => (ei.why_a (hE.up hu)).mono fun e w' ⟨h, h'⟩ => ⟨h, by rw [h']; exact Below.refl _ _⟩
      have va := (hE.up i7.1.1).va
      have hlt : 0 < w.heap.size := World.block_lt_of_cell? w _ hE.va
      have n3 : ¬ w.heap.size = 0 := by omega
      have n4 : ¬ 0 = w.heap.size := by omega
      obtain ⟨⟨c0, c1, c2, c3⟩, f0, f1, f2, f3⟩ := gram_cells i7.1.2
      have HI : Hid (InO w w7) := i7.1
      clear i7 hE hT hlt
      go_wp2
      go_region
      go_wp2
      exact bodyPost_ret (res_two Tryz.results28 _ _ w.heap.size _ _ rfl rfl (set4 HI.out.2) rfl) rfl ⟨below_set4 HI.out.1.drew (Nat.le_refl _), _, rfl, HW.out⟩
    · rw [decide_eq_true (show RightG (gS n) (gE n) (gC n) T.size from right_of_num.2 ⟨h2, by omega⟩)]
      have hAA := HA3.out (by trivial) hl
      subst hAA
      clear HA1 HA2 HA3
      have HW : Hid (∀ u', Below w.heap.size w u' → Calls Tryz.prog 29 #[.nilIface] u' fun e' w' => e' = .returned (.int .i64 0) ∧ Below u'.heap.size u' w') := fun u' hu => ei.why_nil (hE.up hu)
      obtain ⟨⟨c0, c1, c2, c3⟩, f0, f1, f2, f3⟩ := gram_cells i7.1.2
      obtain ⟨⟨d0, d1, d2, d3⟩, _⟩ := gram_cells i7.2
      have HI : Hid (InO w w7) := i7.1
      clear i7 hE hT
      go_wp2
      exact bodyPost_ret (res_two Tryz.results28 _ _ w.heap.size _ _ rfl rfl (set4 HI.out.2) rfl) rfl ⟨below_set4 HI.out.1 (Nat.le_refl _), _, rfl, HW.out⟩
  · have hAA := HA1.out hc
    subst hAA
    clear HA1 HA2 HA3
    have hq : (c == 0) = false := by simp [hc]
    have HW : Hid (∀ u', Below w.heap.size w u' → Calls Tryz.prog 29 #[.iface 78 (.agg #[.int .i64 c])] u' fun e' w' => e' = .returned (.int .i64 c) ∧ Below u'.heap.size u' w') := fun u' hu => ei.why_fault (hE.up hu) c
    have hm : w.heap.size < w3.heap.size := heap_lt i3.2
    have i4 : InOB w w3.heap.size T c (w3.alloc (.cells #[.string T, .int .i64 0, .int .i64 c] 58)) := ⟨i3.up ((Below.refl _ _).alloc (Nat.le_refl _) _), heap_alloc_new _ _⟩
    clear i3 HG hE hT
    go_wp2
    obtain ⟨q, hq'⟩ : ∃ q, q = w3.heap.size := ⟨_, rfl⟩
    rw [← hq'] at hm i4 ⊢
    refine wp_w (InOB w q T c) i4 ?_
    clear i4 hq'
    intro u4 i4
    obtain ⟨b0, b1, b2⟩ := i4.cells
    obtain ⟨⟨c0, c1, c2, c3⟩, f0, f1, f2, f3⟩ := gram_cells i4.base.2
    have n1 : ¬ w.heap.size = q := by omega
    have n2 : ¬ q = w.heap.size := by omega
    have HI : Hid (InO w u4) := i4.base
    clear i4
    go_region
    go_wp2
    exact bodyPost_ret (res_two Tryz.results28 _ _ w.heap.size _ _ rfl rfl (set4 HI.out.2) rfl) rfl ⟨below_set4 HI.out.1.drew (Nat.le_refl _), _, rfl, HW.out⟩
end Go.Proofs.YtgchjinbnlclnaaGreatDoor.gm
