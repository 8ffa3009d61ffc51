/-
  The law on deltas: its walk. No condition.
-/
import Derived.Test.YtmbeanimjmfddaaStG0
import Derived.Deep.Cut
namespace Go.Proofs.Ytmbeanimjmfddaa.sd
open Go.ChangeShapes Go.WideShapes Go.ChangeAt Go.RowKit
open Go.Proofs.Ytmbeanimjmfddaa.dr
open Go.Proofs.Ytmbeanimjmfddaa.dn
open Go.Proofs.Ytmbeanimjmfddaa.wi (heap_lt calls_w wp_w)
set_option linter.unusedVariables false

theorem deltaV_shape {m : Int} {x : ByteArray} {n : Int} {b : ByteArray} {v : Value} (h : st.DeltaV m x n b v) : ∃ (f to k : Int) (tl : ByteArray), v = .agg #[.int .i64 f, .int .i64 to, .int .i64 k, .string tl] ∧ (tl.size ≤ b.size) := by
  by_cases s : st.StR m x ∧ st.StR n b
  · exact ⟨_, _, _, _, h.1 s.1 s.2, by rw [ByteArray.size_extract]; omega⟩
  · exact ⟨_, _, _, _, h.2 s, Nat.zero_le _⟩
theorem deltaV_one {m : Int} {x : ByteArray} {n : Int} {b : ByteArray} {v v' : Value} (h : st.DeltaV m x n b v) (h' : st.DeltaV m x n b v') : v' = v := by
  by_cases s : st.StR m x ∧ st.StR n b
  · rw [h.1 s.1 s.2, h'.1 s.1 s.2]
  · rw [h.2 s, h'.2 s]
theorem b401 {t : ByteArray} (h : t.size ≤ 401) : t.size ≤ maxLen := Nat.le_trans h (by decide)
set_option maxRecDepth 20000 in
set_option maxHeartbeats 8000000 in
theorem lawDelta (w : World) (a0 : Option Addr) (len0 cap0 : Nat) (a1 : Option Addr) (len1 cap1 : Nat) (h0 : Codes w w.heap.size a0 len0) (h1 : Codes w w.heap.size a1 len1) :
    Calls Try.prog 3 #[.slice a0 len0 cap0, .slice a1 len1 cap1] w fun e w' => e = .returned (.bool true) ∧ Below w.heap.size w w' := by
  have n0 := h0.1
  have n1 := h1.1
  go_enter Try.func3, Try.ntmps3
  go_wp2_with (go_at_call 6; fail)
  refine (drawDeltaOf_any a0 len0 cap0 w h0).mono ?_
  rintro e w1 ⟨m, x, n, b, rfl, hm, hx, hn, hb, hb1⟩
  have hw0 := hb1
  clear hb1
  obtain ⟨A, eA⟩ : ∃ A, A = w1.heap.size := ⟨_, rfl⟩
  obtain ⟨B, eB⟩ : ∃ B, B = w1.heap.size + 1 := ⟨_, rfl⟩
  have hup : Below w1.heap.size w1 ((w1.alloc (.cells #[.int .i64 m, .string x] 24)).alloc (.cells #[.int .i64 n, .string b] 24)) := ((Below.refl _ _).alloc (Nat.le_refl _) _).alloc (by simp) _
  have hA : rw.At ((w1.alloc (.cells #[.int .i64 m, .string x] 24)).alloc (.cells #[.int .i64 n, .string b] 24)) A #[.int .i64 m, .string x] 24 := by rw [eA]; exact (rw.At.new _ _ _).up (rw.up_alloc _ _)
  have hB : rw.At ((w1.alloc (.cells #[.int .i64 m, .string x] 24)).alloc (.cells #[.int .i64 n, .string b] 24)) B #[.int .i64 n, .string b] 24 := by rw [eB, ← World.size_alloc w1 (.cells #[.int .i64 m, .string x] 24)]; exact rw.At.new _ _ _
  have hw : Below w.heap.size w ((w1.alloc (.cells #[.int .i64 m, .string x] 24)).alloc (.cells #[.int .i64 n, .string b] 24)) := hw0.trans (hup.mono hw0.size)
  clear hup hw0
  have HP : Hid (A = w1.heap.size ∧ B = w1.heap.size + 1) := ⟨eA, eB⟩
  clear eA eB
  have ca0 := hA.cell 0
  have ca1 := hA.cell 1
  have cb0 := hB.cell 0
  have cb1 := hB.cell 1
  go_wp2_with (go_at_call 7; fail)
  rw [← HP.out.2, ← HP.out.1]
  clear HP ca0 ca1 cb0 cb1
  refine calls_w (fun u0 => Below w.heap.size w u0 ∧ rw.At u0 A #[.int .i64 m, .string x] 24 ∧ rw.At u0 B #[.int .i64 n, .string b] 24) ⟨hw, hA, hB⟩ ?_
  clear hw hA hB
  rintro u1 ⟨hw, hA, hB⟩
  refine (st.deltaOfI_any m x n b u1 (b401 hx) (b401 hb)).mono ?_
  rintro e w2 ⟨v, rfl, hv, hb2⟩
  obtain ⟨f, to, k, tl, rfl, htl⟩ := deltaV_shape hv
  have hw0 := hw.trans (hb2.mono hw.size)
  replace hA := hA.up hb2
  replace hB := hB.up hb2
  clear hw hb2
  obtain ⟨U, eU⟩ : ∃ U, U = w2.heap.size := ⟨_, rfl⟩
  have hup : Below w2.heap.size w2 (w2.alloc (.cells #[.int .i64 f, .int .i64 to, .int .i64 k, .string tl] 28)) := rw.up_alloc _ _
  replace hA := hA.up hup
  replace hB := hB.up hup
  have hU : rw.At (w2.alloc (.cells #[.int .i64 f, .int .i64 to, .int .i64 k, .string tl] 28)) U #[.int .i64 f, .int .i64 to, .int .i64 k, .string tl] 28 := by rw [eU]; exact rw.At.new _ _ _
  have hw : Below w.heap.size w (w2.alloc (.cells #[.int .i64 f, .int .i64 to, .int .i64 k, .string tl] 28)) := hw0.trans (hup.mono hw0.size)
  clear hup hw0
  have HP : Hid (U = w2.heap.size) := eU
  clear eU
  have ca0 := hA.cell 0
  have ca1 := hA.cell 1
  have cb0 := hB.cell 0
  have cb1 := hB.cell 1
  have cu0 := hU.cell 0
  have cu1 := hU.cell 1
  have cu2 := hU.cell 2
  have cu3 := hU.cell 3
  go_wp2_with (go_at_call 8; fail)
  rw [← HP.out]
  clear HP ca0 ca1 cb0 cb1 cu0 cu1 cu2 cu3
  refine calls_w (fun u0 => Below w.heap.size w u0 ∧ rw.At u0 A #[.int .i64 m, .string x] 24 ∧ rw.At u0 B #[.int .i64 n, .string b] 24 ∧ rw.At u0 U #[.int .i64 f, .int .i64 to, .int .i64 k, .string tl] 28) ⟨hw, hA, hB, hU⟩ ?_
  clear hw hA hB hU
  rintro u2 ⟨hw, hA, hB, hU⟩
  refine (drawDeltaOn_any a1 len1 cap1 u2 (codes_later h1 hw)).mono ?_
  rintro e w3 ⟨m2, x2, f2, to2, k2, tl2, rfl, hm2, hx2, htl2, hb3⟩
  have hw0 := hw.trans (hb3.mono hw.size)
  replace hA := hA.up hb3
  replace hB := hB.up hb3
  replace hU := hU.up hb3
  clear hw hb3
  obtain ⟨S, eS⟩ : ∃ S, S = w3.heap.size := ⟨_, rfl⟩
  obtain ⟨V, eV⟩ : ∃ V, V = w3.heap.size + 1 := ⟨_, rfl⟩
  have hup : Below w3.heap.size w3 ((w3.alloc (.cells #[.int .i64 m2, .string x2] 24)).alloc (.cells #[.int .i64 f2, .int .i64 to2, .int .i64 k2, .string tl2] 28)) := ((Below.refl _ _).alloc (Nat.le_refl _) _).alloc (by simp) _
  replace hA := hA.up hup
  replace hB := hB.up hup
  replace hU := hU.up hup
  have hS : rw.At ((w3.alloc (.cells #[.int .i64 m2, .string x2] 24)).alloc (.cells #[.int .i64 f2, .int .i64 to2, .int .i64 k2, .string tl2] 28)) S #[.int .i64 m2, .string x2] 24 := by rw [eS]; exact (rw.At.new _ _ _).up (rw.up_alloc _ _)
  have hV : rw.At ((w3.alloc (.cells #[.int .i64 m2, .string x2] 24)).alloc (.cells #[.int .i64 f2, .int .i64 to2, .int .i64 k2, .string tl2] 28)) V #[.int .i64 f2, .int .i64 to2, .int .i64 k2, .string tl2] 28 := by rw [eV, ← World.size_alloc w3 (.cells #[.int .i64 m2, .string x2] 24)]; exact rw.At.new _ _ _
  have hw : Below w.heap.size w ((w3.alloc (.cells #[.int .i64 m2, .string x2] 24)).alloc (.cells #[.int .i64 f2, .int .i64 to2, .int .i64 k2, .string tl2] 28)) := hw0.trans (hup.mono hw0.size)
  clear hup hw0
  have HP : Hid (S = w3.heap.size ∧ V = w3.heap.size + 1) := ⟨eS, eV⟩
  clear eS eV
  go_wp2_with (go_at_call 9; fail)
  rw [← HP.out.2, ← HP.out.1]
  clear HP
  refine calls_w (fun u0 => Below w.heap.size w u0 ∧ rw.At u0 A #[.int .i64 m, .string x] 24 ∧ rw.At u0 B #[.int .i64 n, .string b] 24 ∧ rw.At u0 U #[.int .i64 f, .int .i64 to, .int .i64 k, .string tl] 28 ∧ rw.At u0 S #[.int .i64 m2, .string x2] 24 ∧ rw.At u0 V #[.int .i64 f2, .int .i64 to2, .int .i64 k2, .string tl2] 28) ⟨hw, hA, hB, hU, hS, hV⟩ ?_
  clear hw hA hB hU hS hV
  rintro u3 ⟨hw, hA, hB, hU, hS, hV⟩
  refine (drawReceiverHear_any a1 len1 cap1 u3 (codes_later h1 hw)).mono ?_
  rintro e w4 ⟨m3, x3, f3, to3, k3, tl3, rfl, hm3, hx3, htl3, hb4⟩
  have hw0 := hw.trans (hb4.mono hw.size)
  replace hA := hA.up hb4
  replace hB := hB.up hb4
  replace hU := hU.up hb4
  replace hS := hS.up hb4
  replace hV := hV.up hb4
  clear hw hb4
  obtain ⟨R, eR⟩ : ∃ R, R = w4.heap.size := ⟨_, rfl⟩
  obtain ⟨T, eT⟩ : ∃ T, T = w4.heap.size + 1 := ⟨_, rfl⟩
  have hup : Below w4.heap.size w4 ((w4.alloc (.cells #[.int .i64 m3, .string x3] 33)).alloc (.cells #[.int .i64 f3, .int .i64 to3, .int .i64 k3, .string tl3] 28)) := ((Below.refl _ _).alloc (Nat.le_refl _) _).alloc (by simp) _
  replace hA := hA.up hup
  replace hB := hB.up hup
  replace hU := hU.up hup
  replace hS := hS.up hup
  replace hV := hV.up hup
  have hR : rw.At ((w4.alloc (.cells #[.int .i64 m3, .string x3] 33)).alloc (.cells #[.int .i64 f3, .int .i64 to3, .int .i64 k3, .string tl3] 28)) R #[.int .i64 m3, .string x3] 33 := by rw [eR]; exact (rw.At.new _ _ _).up (rw.up_alloc _ _)
  have hT : rw.At ((w4.alloc (.cells #[.int .i64 m3, .string x3] 33)).alloc (.cells #[.int .i64 f3, .int .i64 to3, .int .i64 k3, .string tl3] 28)) T #[.int .i64 f3, .int .i64 to3, .int .i64 k3, .string tl3] 28 := by rw [eT, ← World.size_alloc w4 (.cells #[.int .i64 m3, .string x3] 33)]; exact rw.At.new _ _ _
  have hw : Below w.heap.size w ((w4.alloc (.cells #[.int .i64 m3, .string x3] 33)).alloc (.cells #[.int .i64 f3, .int .i64 to3, .int .i64 k3, .string tl3] 28)) := hw0.trans (hup.mono hw0.size)
  clear hup hw0
  have HP : Hid (R = w4.heap.size ∧ T = w4.heap.size + 1) := ⟨eR, eT⟩
  clear eR eT
  have cr0 := hR.cell 0
  have cr1 := hR.cell 1
  have ct0 := hT.cell 0
  have ct1 := hT.cell 1
  have ct2 := hT.cell 2
  have ct3 := hT.cell 3
  obtain ⟨X3, T3, Y3, HY3, HM, HX⟩ := st.hear_more m3 x3 f3 to3 k3 tl3 (b401 hx3) (b401 htl3)
  go_wp2_with (go_at_call 10; fail)
  rw [← HP.out.2, ← HP.out.1]
  clear HP cr0 cr1 ct0 ct1 ct2 ct3
  refine calls_w (fun u0 => Below w.heap.size w u0 ∧ rw.At u0 A #[.int .i64 m, .string x] 24 ∧ rw.At u0 B #[.int .i64 n, .string b] 24 ∧ rw.At u0 U #[.int .i64 f, .int .i64 to, .int .i64 k, .string tl] 28 ∧ rw.At u0 S #[.int .i64 m2, .string x2] 24 ∧ rw.At u0 V #[.int .i64 f2, .int .i64 to2, .int .i64 k2, .string tl2] 28 ∧ rw.At u0 R #[.int .i64 m3, .string x3] 33 ∧ rw.At u0 T #[.int .i64 f3, .int .i64 to3, .int .i64 k3, .string tl3] 28) ⟨hw, hA, hB, hU, hS, hV, hR, hT⟩ ?_
  clear hw hA hB hU hS hV hR hT
  rintro u4 ⟨hw, hA, hB, hU, hS, hV, hR, hT⟩
  refine (HX u4).mono ?_
  rintro e w5 ⟨rfl, hb5⟩
  have hw0 := hw.trans (hb5.mono hw.size)
  replace hA := hA.up hb5
  replace hB := hB.up hb5
  replace hU := hU.up hb5
  replace hS := hS.up hb5
  replace hV := hV.up hb5
  replace hR := hR.up hb5
  replace hT := hT.up hb5
  clear hw hb5
  obtain ⟨Y, eY⟩ : ∃ Y, Y = w5.heap.size := ⟨_, rfl⟩
  have hup : Below w5.heap.size w5 (w5.alloc (.cells #[.int .i64 X3, .string T3, .int .i64 Y3] 37)) := rw.up_alloc _ _
  replace hA := hA.up hup
  replace hB := hB.up hup
  replace hU := hU.up hup
  replace hS := hS.up hup
  replace hV := hV.up hup
  replace hR := hR.up hup
  replace hT := hT.up hup
  have hY : rw.At (w5.alloc (.cells #[.int .i64 X3, .string T3, .int .i64 Y3] 37)) Y #[.int .i64 X3, .string T3, .int .i64 Y3] 37 := by rw [eY]; exact rw.At.new _ _ _
  have hw : Below w.heap.size w (w5.alloc (.cells #[.int .i64 X3, .string T3, .int .i64 Y3] 37)) := hw0.trans (hup.mono hw0.size)
  clear hup hw0
  have HP : Hid (Y = w5.heap.size) := eY
  clear eY
  go_wp2_with fail
  rw [← HP.out]
  clear HP
  refine wp_w (fun u0 => Below w.heap.size w u0 ∧ rw.At u0 A #[.int .i64 m, .string x] 24 ∧ rw.At u0 B #[.int .i64 n, .string b] 24 ∧ rw.At u0 U #[.int .i64 f, .int .i64 to, .int .i64 k, .string tl] 28 ∧ rw.At u0 S #[.int .i64 m2, .string x2] 24 ∧ rw.At u0 V #[.int .i64 f2, .int .i64 to2, .int .i64 k2, .string tl2] 28 ∧ rw.At u0 R #[.int .i64 m3, .string x3] 33 ∧ rw.At u0 T #[.int .i64 f3, .int .i64 to3, .int .i64 k3, .string tl3] 28 ∧ rw.At u0 Y #[.int .i64 X3, .string T3, .int .i64 Y3] 37) ⟨hw, hA, hB, hU, hS, hV, hR, hT, hY⟩ ?_
  clear hw hA hB hU hS hV hR hT hY
  rintro W ⟨hw, hA, hB, hU, hS, hV, hR, hT, hY⟩
  obtain ⟨X2, T2, Y2, HM2, HX2⟩ := st.on_both m2 x2 f2 to2 k2 tl2 (b401 hx2) (b401 htl2)
  have HMD : Hid (∀ u, Calls Try.prog 11 #[.agg #[.int .i64 m, .string x], .agg #[.int .i64 n, .string b]] u fun e w' => e = .returned (.agg #[.int .i64 f, .int .i64 to, .int .i64 k, .string tl]) ∧ Below u.heap.size u w') := fun u => (st.deltaOfM_any m x n b u (b401 hx) (b401 hb)).mono fun e w' h => by
    obtain ⟨v, he, h1, h2⟩ := h
    exact ⟨by rw [he, deltaV_one hv h1], h2⟩
  have HH2 : Hid (∀ u, Calls Try.prog 13 #[.agg #[.int .i64 m2, .string x2], .agg #[.int .i64 f2, .int .i64 to2, .int .i64 k2, .string tl2]] u fun e w' => e = .returned (.agg #[.int .i64 X2, .string T2, .int .i64 Y2]) ∧ Below u.heap.size u w') := HX2
  have HH3 : Hid (∀ u, Calls Try.prog 14 #[.agg #[.int .i64 m2, .string x2], .agg #[.int .i64 f2, .int .i64 to2, .int .i64 k2, .string tl2]] u fun e w' => e = .returned (.agg #[.int .i64 X2, .string T2, .int .i64 Y2]) ∧ Below u.heap.size u w') := HM2
  have HH4 : Hid (∀ u, Calls Try.prog 15 #[.agg #[.int .i64 m3, .string x3], .agg #[.int .i64 f3, .int .i64 to3, .int .i64 k3, .string tl3]] u fun e w' => e = .returned (.agg #[.int .i64 X3, .string T3, .int .i64 Y3]) ∧ Below u.heap.size u w') := HM
  have HV : Hid (st.DeltaV m x n b (.agg #[.int .i64 f, .int .i64 to, .int .i64 k, .string tl])) := hv
  have HW : Hid (Below w.heap.size w W ∧ rw.At W A #[.int .i64 m, .string x] 24 ∧ rw.At W B #[.int .i64 n, .string b] 24 ∧ rw.At W U #[.int .i64 f, .int .i64 to, .int .i64 k, .string tl] 28 ∧ rw.At W S #[.int .i64 m2, .string x2] 24 ∧ rw.At W V #[.int .i64 f2, .int .i64 to2, .int .i64 k2, .string tl2] 28 ∧ rw.At W R #[.int .i64 m3, .string x3] 33 ∧ rw.At W T #[.int .i64 f3, .int .i64 to3, .int .i64 k3, .string tl3] 28 ∧ rw.At W Y #[.int .i64 X3, .string T3, .int .i64 Y3] 37) := ⟨hw, hA, hB, hU, hS, hV, hR, hT, hY⟩
  have HS : Hid (∀ u, rw.Bel W u → (u.cell? ⟨A, 0, none⟩ = some (.int .i64 m) ∧ u.cell? ⟨A, 1, none⟩ = some (.string x) ∧ u.cell? ⟨B, 0, none⟩ = some (.int .i64 n) ∧ u.cell? ⟨B, 1, none⟩ = some (.string b) ∧ u.cell? ⟨U, 0, none⟩ = some (.int .i64 f) ∧ u.cell? ⟨U, 1, none⟩ = some (.int .i64 to) ∧ u.cell? ⟨U, 2, none⟩ = some (.int .i64 k) ∧ u.cell? ⟨U, 3, none⟩ = some (.string tl) ∧ u.cell? ⟨S, 0, none⟩ = some (.int .i64 m2) ∧ u.cell? ⟨S, 1, none⟩ = some (.string x2) ∧ u.cell? ⟨V, 0, none⟩ = some (.int .i64 f2) ∧ u.cell? ⟨V, 1, none⟩ = some (.int .i64 to2) ∧ u.cell? ⟨V, 2, none⟩ = some (.int .i64 k2) ∧ u.cell? ⟨V, 3, none⟩ = some (.string tl2) ∧ u.cell? ⟨R, 0, none⟩ = some (.int .i64 m3) ∧ u.cell? ⟨R, 1, none⟩ = some (.string x3) ∧ u.cell? ⟨T, 0, none⟩ = some (.int .i64 f3) ∧ u.cell? ⟨T, 1, none⟩ = some (.int .i64 to3) ∧ u.cell? ⟨T, 2, none⟩ = some (.int .i64 k3) ∧ u.cell? ⟨T, 3, none⟩ = some (.string tl3) ∧ u.cell? ⟨Y, 0, none⟩ = some (.int .i64 X3) ∧ u.cell? ⟨Y, 1, none⟩ = some (.string T3) ∧ u.cell? ⟨Y, 2, none⟩ = some (.int .i64 Y3))) := fun u h => ⟨(hA.up h).cell 0, (hA.up h).cell 1, (hB.up h).cell 0, (hB.up h).cell 1, (hU.up h).cell 0, (hU.up h).cell 1, (hU.up h).cell 2, (hU.up h).cell 3, (hS.up h).cell 0, (hS.up h).cell 1, (hV.up h).cell 0, (hV.up h).cell 1, (hV.up h).cell 2, (hV.up h).cell 3, (hR.up h).cell 0, (hR.up h).cell 1, (hT.up h).cell 0, (hT.up h).cell 1, (hT.up h).cell 2, (hT.up h).cell 3, (hY.up h).cell 0, (hY.up h).cell 1, (hY.up h).cell 2⟩
  clear HM2 HX2 HM HX hv h0 h1 hA hB hU hS hV hR hT hY
  have i0 : rw.Bel W W := Below.refl _ _
  go_cut [80] from 43 (fun o u => o = .bool false ∧ rw.Bel W u)
  case first =>
    by_cases hY0 : Y3 = 0
    · have hlt := HY3 hY0
      have hY1 : (Y3 == 0) = true := by simp [hY0]
      have hX1 : decide (X3 ≤ m3) = false := by simp; omega
      clear hY0
      refine wp_region_noPanic ?_
      refine wp_region_held_drew (S := fun u => u.cell? ⟨A, 0, none⟩ = some (.int .i64 m) ∧ u.cell? ⟨A, 1, none⟩ = some (.string x) ∧ u.cell? ⟨B, 0, none⟩ = some (.int .i64 n) ∧ u.cell? ⟨B, 1, none⟩ = some (.string b) ∧ u.cell? ⟨U, 0, none⟩ = some (.int .i64 f) ∧ u.cell? ⟨U, 1, none⟩ = some (.int .i64 to) ∧ u.cell? ⟨U, 2, none⟩ = some (.int .i64 k) ∧ u.cell? ⟨U, 3, none⟩ = some (.string tl) ∧ u.cell? ⟨S, 0, none⟩ = some (.int .i64 m2) ∧ u.cell? ⟨S, 1, none⟩ = some (.string x2) ∧ u.cell? ⟨V, 0, none⟩ = some (.int .i64 f2) ∧ u.cell? ⟨V, 1, none⟩ = some (.int .i64 to2) ∧ u.cell? ⟨V, 2, none⟩ = some (.int .i64 k2) ∧ u.cell? ⟨V, 3, none⟩ = some (.string tl2) ∧ u.cell? ⟨R, 0, none⟩ = some (.int .i64 m3) ∧ u.cell? ⟨R, 1, none⟩ = some (.string x3) ∧ u.cell? ⟨T, 0, none⟩ = some (.int .i64 f3) ∧ u.cell? ⟨T, 1, none⟩ = some (.int .i64 to3) ∧ u.cell? ⟨T, 2, none⟩ = some (.int .i64 k3) ∧ u.cell? ⟨T, 3, none⟩ = some (.string tl3) ∧ u.cell? ⟨Y, 0, none⟩ = some (.int .i64 X3) ∧ u.cell? ⟨Y, 1, none⟩ = some (.string T3) ∧ u.cell? ⟨Y, 2, none⟩ = some (.int .i64 Y3)) (by kernel_rfl) (HS.out _ (i0.up (rw.up_drew _))) (fun _ => ?_)
      refine rw.region_w (fun u => rw.Bel W u) (i0.up (rw.up_drew _)) ?_
      clear i0
      intro u i
      have hHeld : (u.cell? ⟨A, 0, none⟩ = some (.int .i64 m) ∧ u.cell? ⟨A, 1, none⟩ = some (.string x) ∧ u.cell? ⟨B, 0, none⟩ = some (.int .i64 n) ∧ u.cell? ⟨B, 1, none⟩ = some (.string b) ∧ u.cell? ⟨U, 0, none⟩ = some (.int .i64 f) ∧ u.cell? ⟨U, 1, none⟩ = some (.int .i64 to) ∧ u.cell? ⟨U, 2, none⟩ = some (.int .i64 k) ∧ u.cell? ⟨U, 3, none⟩ = some (.string tl) ∧ u.cell? ⟨S, 0, none⟩ = some (.int .i64 m2) ∧ u.cell? ⟨S, 1, none⟩ = some (.string x2) ∧ u.cell? ⟨V, 0, none⟩ = some (.int .i64 f2) ∧ u.cell? ⟨V, 1, none⟩ = some (.int .i64 to2) ∧ u.cell? ⟨V, 2, none⟩ = some (.int .i64 k2) ∧ u.cell? ⟨V, 3, none⟩ = some (.string tl2) ∧ u.cell? ⟨R, 0, none⟩ = some (.int .i64 m3) ∧ u.cell? ⟨R, 1, none⟩ = some (.string x3) ∧ u.cell? ⟨T, 0, none⟩ = some (.int .i64 f3) ∧ u.cell? ⟨T, 1, none⟩ = some (.int .i64 to3) ∧ u.cell? ⟨T, 2, none⟩ = some (.int .i64 k3) ∧ u.cell? ⟨T, 3, none⟩ = some (.string tl3) ∧ u.cell? ⟨Y, 0, none⟩ = some (.int .i64 X3) ∧ u.cell? ⟨Y, 1, none⟩ = some (.string T3) ∧ u.cell? ⟨Y, 2, none⟩ = some (.int .i64 Y3)) := HS.out u i
      refine wpAnyH_take (i := 0) (oi := { dst := some 43, op := Op.load 28 (Operand.tmp 7), type := 28, pos := "laws.go:342", after := #[], guard := none }) (v := ?_) rfl (by kernel_rfl) (by kernel_rfl) (by kernel_rfl) (fun _ _ _ h => h) (Or.inl ⟨by rfl, ?_⟩) hHeld ?_
      rotate_left
      · rintro w ⟨z0, z1, z2, z3, z4, z5, z6, z7, z8, z9, z10, z11, z12, z13, z14, z15, z16, z17, z18, z19, z20, z21, z22⟩; go_simp; (try with_reducible rfl)
      try simp only [Act.put, List.setIfInBounds_toArray, List.set_cons_zero, List.set_cons_succ]
      refine wpAnyH_take (i := 1) (oi := { dst := some 44, op := Op.load 24 (Operand.tmp 5), type := 24, pos := "laws.go:342", after := #[], guard := none }) (v := ?_) rfl (by kernel_rfl) (by kernel_rfl) (by kernel_rfl) (fun _ _ _ h => h) (Or.inl ⟨by rfl, ?_⟩) hHeld ?_
      rotate_left
      · rintro w ⟨z0, z1, z2, z3, z4, z5, z6, z7, z8, z9, z10, z11, z12, z13, z14, z15, z16, z17, z18, z19, z20, z21, z22⟩; go_simp; (try with_reducible rfl)
      try simp only [Act.put, List.setIfInBounds_toArray, List.set_cons_zero, List.set_cons_succ]
      refine wpAnyH_take (i := 2) (oi := { dst := some 45, op := Op.load 24 (Operand.tmp 6), type := 24, pos := "laws.go:342", after := #[], guard := none }) (v := ?_) rfl (by kernel_rfl) (by kernel_rfl) (by kernel_rfl) (fun _ _ _ h => h) (Or.inl ⟨by rfl, ?_⟩) hHeld ?_
      rotate_left
      · rintro w ⟨z0, z1, z2, z3, z4, z5, z6, z7, z8, z9, z10, z11, z12, z13, z14, z15, z16, z17, z18, z19, z20, z21, z22⟩; go_simp; (try with_reducible rfl)
      try simp only [Act.put, List.setIfInBounds_toArray, List.set_cons_zero, List.set_cons_succ]
      refine wpAnyH_ready (rs := [3]) (by kernel_rfl) (by simp) ?_
      refine AllReadyH.cons rfl (fun K hK => ?_) AllReadyH.nil
      go_simp
      go_at_call 11
      refine (HMD.out _).mono ?_
      rintro r7 w7 ⟨rfl, hb⟩
      go_wp2_with fail
      refine hK.out _ _ (HS.out _ (i.up hb)) (fun _ => ?_)
      clear hK K hHeld
      try simp only [Act.put, List.setIfInBounds_toArray, List.set_cons_zero, List.set_cons_succ]
      refine rw.region_w (fun u => rw.Bel W u) (i.up hb) ?_
      clear i hb
      intro u i
      have hHeld : (u.cell? ⟨A, 0, none⟩ = some (.int .i64 m) ∧ u.cell? ⟨A, 1, none⟩ = some (.string x) ∧ u.cell? ⟨B, 0, none⟩ = some (.int .i64 n) ∧ u.cell? ⟨B, 1, none⟩ = some (.string b) ∧ u.cell? ⟨U, 0, none⟩ = some (.int .i64 f) ∧ u.cell? ⟨U, 1, none⟩ = some (.int .i64 to) ∧ u.cell? ⟨U, 2, none⟩ = some (.int .i64 k) ∧ u.cell? ⟨U, 3, none⟩ = some (.string tl) ∧ u.cell? ⟨S, 0, none⟩ = some (.int .i64 m2) ∧ u.cell? ⟨S, 1, none⟩ = some (.string x2) ∧ u.cell? ⟨V, 0, none⟩ = some (.int .i64 f2) ∧ u.cell? ⟨V, 1, none⟩ = some (.int .i64 to2) ∧ u.cell? ⟨V, 2, none⟩ = some (.int .i64 k2) ∧ u.cell? ⟨V, 3, none⟩ = some (.string tl2) ∧ u.cell? ⟨R, 0, none⟩ = some (.int .i64 m3) ∧ u.cell? ⟨R, 1, none⟩ = some (.string x3) ∧ u.cell? ⟨T, 0, none⟩ = some (.int .i64 f3) ∧ u.cell? ⟨T, 1, none⟩ = some (.int .i64 to3) ∧ u.cell? ⟨T, 2, none⟩ = some (.int .i64 k3) ∧ u.cell? ⟨T, 3, none⟩ = some (.string tl3) ∧ u.cell? ⟨Y, 0, none⟩ = some (.int .i64 X3) ∧ u.cell? ⟨Y, 1, none⟩ = some (.string T3) ∧ u.cell? ⟨Y, 2, none⟩ = some (.int .i64 Y3)) := HS.out u i
      refine wpAnyH_take (i := 4) (oi := { dst := some 47, op := Op.binOp BinOp.neq 28 (Operand.tmp 43) (Operand.tmp 46) 28, type := 4, pos := "laws.go:342", after := #[{ on := 0, ground := Ground.data }, { on := 3, ground := Ground.data }], guard := none }) (v := ?_) rfl (by kernel_rfl) (by kernel_rfl) (by kernel_rfl) (fun _ _ _ h => h) (Or.inl ⟨by rfl, ?_⟩) hHeld ?_
      rotate_left
      · rintro w ⟨z0, z1, z2, z3, z4, z5, z6, z7, z8, z9, z10, z11, z12, z13, z14, z15, z16, z17, z18, z19, z20, z21, z22⟩; go_simp; (try with_reducible rfl)
      try simp only [Act.put, List.setIfInBounds_toArray, List.set_cons_zero, List.set_cons_succ]
      refine wpAnyH_take (i := 5) (oi := { dst := some 48, op := Op.move (Operand.tmp 47), type := 4, pos := "laws.go:342", after := #[{ on := 4, ground := Ground.data }, { on := 3, ground := Ground.chain }], guard := none }) (v := ?_) rfl (by kernel_rfl) (by kernel_rfl) (by kernel_rfl) (fun _ _ _ h => h) (Or.inl ⟨by rfl, ?_⟩) hHeld ?_
      rotate_left
      · rintro w ⟨z0, z1, z2, z3, z4, z5, z6, z7, z8, z9, z10, z11, z12, z13, z14, z15, z16, z17, z18, z19, z20, z21, z22⟩; go_simp; (try with_reducible rfl)
      try simp only [Act.put, List.setIfInBounds_toArray, List.set_cons_zero, List.set_cons_succ]
      refine wpAnyH_take (i := 6) (oi := { dst := some 49, op := Op.load 24 (Operand.tmp 8), type := 24, pos := "laws.go:342", after := #[{ on := 5, ground := Ground.guard }], guard := some (5, false) }) (v := ?_) rfl (by kernel_rfl) (by kernel_rfl) (by kernel_rfl) (fun _ _ _ h => h) (Or.inl ⟨by rfl, ?_⟩) hHeld ?_
      rotate_left
      · rintro w ⟨z0, z1, z2, z3, z4, z5, z6, z7, z8, z9, z10, z11, z12, z13, z14, z15, z16, z17, z18, z19, z20, z21, z22⟩; go_simp; (try with_reducible rfl)
      try simp only [Act.put, List.setIfInBounds_toArray, List.set_cons_zero, List.set_cons_succ]
      refine wpAnyH_take (i := 7) (oi := { dst := some 50, op := Op.load 28 (Operand.tmp 9), type := 28, pos := "laws.go:342", after := #[{ on := 5, ground := Ground.guard }], guard := some (5, false) }) (v := ?_) rfl (by kernel_rfl) (by kernel_rfl) (by kernel_rfl) (fun _ _ _ h => h) (Or.inl ⟨by rfl, ?_⟩) hHeld ?_
      rotate_left
      · rintro w ⟨z0, z1, z2, z3, z4, z5, z6, z7, z8, z9, z10, z11, z12, z13, z14, z15, z16, z17, z18, z19, z20, z21, z22⟩; go_simp; (try with_reducible rfl)
      try simp only [Act.put, List.setIfInBounds_toArray, List.set_cons_zero, List.set_cons_succ]
      refine wpAnyH_take (i := 9) (oi := { dst := some 52, op := Op.load 24 (Operand.tmp 8), type := 24, pos := "laws.go:342", after := #[{ on := 5, ground := Ground.guard }], guard := some (5, false) }) (v := ?_) rfl (by kernel_rfl) (by kernel_rfl) (by kernel_rfl) (fun _ _ _ h => h) (Or.inl ⟨by rfl, ?_⟩) hHeld ?_
      rotate_left
      · rintro w ⟨z0, z1, z2, z3, z4, z5, z6, z7, z8, z9, z10, z11, z12, z13, z14, z15, z16, z17, z18, z19, z20, z21, z22⟩; go_simp; (try with_reducible rfl)
      try simp only [Act.put, List.setIfInBounds_toArray, List.set_cons_zero, List.set_cons_succ]
      refine wpAnyH_take (i := 10) (oi := { dst := some 53, op := Op.load 28 (Operand.tmp 9), type := 28, pos := "laws.go:342", after := #[{ on := 5, ground := Ground.guard }], guard := some (5, false) }) (v := ?_) rfl (by kernel_rfl) (by kernel_rfl) (by kernel_rfl) (fun _ _ _ h => h) (Or.inl ⟨by rfl, ?_⟩) hHeld ?_
      rotate_left
      · rintro w ⟨z0, z1, z2, z3, z4, z5, z6, z7, z8, z9, z10, z11, z12, z13, z14, z15, z16, z17, z18, z19, z20, z21, z22⟩; go_simp; (try with_reducible rfl)
      try simp only [Act.put, List.setIfInBounds_toArray, List.set_cons_zero, List.set_cons_succ]
      refine wpAnyH_ready (rs := [8]) (by kernel_rfl) (by simp) ?_
      refine AllReadyH.cons rfl (fun K hK => ?_) AllReadyH.nil
      go_simp
      go_at_call 13
      refine (HH2.out _).mono ?_
      rintro r7 w7 ⟨rfl, hb⟩
      go_wp2_with fail
      refine hK.out _ _ (HS.out _ (i.up hb)) (fun _ => ?_)
      clear hK K hHeld
      try simp only [Act.put, List.setIfInBounds_toArray, List.set_cons_zero, List.set_cons_succ]
      refine rw.region_w (fun u => rw.Bel W u) (i.up hb) ?_
      clear i hb
      intro u i
      have hHeld : (u.cell? ⟨A, 0, none⟩ = some (.int .i64 m) ∧ u.cell? ⟨A, 1, none⟩ = some (.string x) ∧ u.cell? ⟨B, 0, none⟩ = some (.int .i64 n) ∧ u.cell? ⟨B, 1, none⟩ = some (.string b) ∧ u.cell? ⟨U, 0, none⟩ = some (.int .i64 f) ∧ u.cell? ⟨U, 1, none⟩ = some (.int .i64 to) ∧ u.cell? ⟨U, 2, none⟩ = some (.int .i64 k) ∧ u.cell? ⟨U, 3, none⟩ = some (.string tl) ∧ u.cell? ⟨S, 0, none⟩ = some (.int .i64 m2) ∧ u.cell? ⟨S, 1, none⟩ = some (.string x2) ∧ u.cell? ⟨V, 0, none⟩ = some (.int .i64 f2) ∧ u.cell? ⟨V, 1, none⟩ = some (.int .i64 to2) ∧ u.cell? ⟨V, 2, none⟩ = some (.int .i64 k2) ∧ u.cell? ⟨V, 3, none⟩ = some (.string tl2) ∧ u.cell? ⟨R, 0, none⟩ = some (.int .i64 m3) ∧ u.cell? ⟨R, 1, none⟩ = some (.string x3) ∧ u.cell? ⟨T, 0, none⟩ = some (.int .i64 f3) ∧ u.cell? ⟨T, 1, none⟩ = some (.int .i64 to3) ∧ u.cell? ⟨T, 2, none⟩ = some (.int .i64 k3) ∧ u.cell? ⟨T, 3, none⟩ = some (.string tl3) ∧ u.cell? ⟨Y, 0, none⟩ = some (.int .i64 X3) ∧ u.cell? ⟨Y, 1, none⟩ = some (.string T3) ∧ u.cell? ⟨Y, 2, none⟩ = some (.int .i64 Y3)) := HS.out u i
      refine wpAnyH_ready (rs := [11]) (by kernel_rfl) (by simp) ?_
      refine AllReadyH.cons rfl (fun K hK => ?_) AllReadyH.nil
      go_simp
      go_at_call 14
      refine (HH3.out _).mono ?_
      rintro r7 w7 ⟨rfl, hb⟩
      go_wp2_with fail
      refine hK.out _ _ (HS.out _ (i.up hb)) (fun _ => ?_)
      clear hK K hHeld
      try simp only [Act.put, List.setIfInBounds_toArray, List.set_cons_zero, List.set_cons_succ]
      refine rw.region_w (fun u => rw.Bel W u) (i.up hb) ?_
      clear i hb
      intro u i
      have hHeld : (u.cell? ⟨A, 0, none⟩ = some (.int .i64 m) ∧ u.cell? ⟨A, 1, none⟩ = some (.string x) ∧ u.cell? ⟨B, 0, none⟩ = some (.int .i64 n) ∧ u.cell? ⟨B, 1, none⟩ = some (.string b) ∧ u.cell? ⟨U, 0, none⟩ = some (.int .i64 f) ∧ u.cell? ⟨U, 1, none⟩ = some (.int .i64 to) ∧ u.cell? ⟨U, 2, none⟩ = some (.int .i64 k) ∧ u.cell? ⟨U, 3, none⟩ = some (.string tl) ∧ u.cell? ⟨S, 0, none⟩ = some (.int .i64 m2) ∧ u.cell? ⟨S, 1, none⟩ = some (.string x2) ∧ u.cell? ⟨V, 0, none⟩ = some (.int .i64 f2) ∧ u.cell? ⟨V, 1, none⟩ = some (.int .i64 to2) ∧ u.cell? ⟨V, 2, none⟩ = some (.int .i64 k2) ∧ u.cell? ⟨V, 3, none⟩ = some (.string tl2) ∧ u.cell? ⟨R, 0, none⟩ = some (.int .i64 m3) ∧ u.cell? ⟨R, 1, none⟩ = some (.string x3) ∧ u.cell? ⟨T, 0, none⟩ = some (.int .i64 f3) ∧ u.cell? ⟨T, 1, none⟩ = some (.int .i64 to3) ∧ u.cell? ⟨T, 2, none⟩ = some (.int .i64 k3) ∧ u.cell? ⟨T, 3, none⟩ = some (.string tl3) ∧ u.cell? ⟨Y, 0, none⟩ = some (.int .i64 X3) ∧ u.cell? ⟨Y, 1, none⟩ = some (.string T3) ∧ u.cell? ⟨Y, 2, none⟩ = some (.int .i64 Y3)) := HS.out u i
      refine wpAnyH_ready (rs := [12]) (by kernel_rfl) (by simp) ?_
      refine AllReadyH.cons rfl (fun K hK => ?_) AllReadyH.nil
      go_simp
      go_at_call 12
      refine (st.lwR_any _ _ _ _).mono ?_
      rintro r7 w7 ⟨rfl, hb⟩
      go_wp2_with fail
      refine hK.out _ _ (HS.out _ (i.up hb)) (fun _ => ?_)
      clear hK K hHeld
      try simp only [Act.put, List.setIfInBounds_toArray, List.set_cons_zero, List.set_cons_succ]
      refine rw.region_w (fun u => rw.Bel W u) (i.up hb) ?_
      clear i hb
      intro u i
      have hHeld : (u.cell? ⟨A, 0, none⟩ = some (.int .i64 m) ∧ u.cell? ⟨A, 1, none⟩ = some (.string x) ∧ u.cell? ⟨B, 0, none⟩ = some (.int .i64 n) ∧ u.cell? ⟨B, 1, none⟩ = some (.string b) ∧ u.cell? ⟨U, 0, none⟩ = some (.int .i64 f) ∧ u.cell? ⟨U, 1, none⟩ = some (.int .i64 to) ∧ u.cell? ⟨U, 2, none⟩ = some (.int .i64 k) ∧ u.cell? ⟨U, 3, none⟩ = some (.string tl) ∧ u.cell? ⟨S, 0, none⟩ = some (.int .i64 m2) ∧ u.cell? ⟨S, 1, none⟩ = some (.string x2) ∧ u.cell? ⟨V, 0, none⟩ = some (.int .i64 f2) ∧ u.cell? ⟨V, 1, none⟩ = some (.int .i64 to2) ∧ u.cell? ⟨V, 2, none⟩ = some (.int .i64 k2) ∧ u.cell? ⟨V, 3, none⟩ = some (.string tl2) ∧ u.cell? ⟨R, 0, none⟩ = some (.int .i64 m3) ∧ u.cell? ⟨R, 1, none⟩ = some (.string x3) ∧ u.cell? ⟨T, 0, none⟩ = some (.int .i64 f3) ∧ u.cell? ⟨T, 1, none⟩ = some (.int .i64 to3) ∧ u.cell? ⟨T, 2, none⟩ = some (.int .i64 k3) ∧ u.cell? ⟨T, 3, none⟩ = some (.string tl3) ∧ u.cell? ⟨Y, 0, none⟩ = some (.int .i64 X3) ∧ u.cell? ⟨Y, 1, none⟩ = some (.string T3) ∧ u.cell? ⟨Y, 2, none⟩ = some (.int .i64 Y3)) := HS.out u i
      refine wpAnyH_take (i := 13) (oi := { dst := some 56, op := Op.unOp UnOp.not 4 (Operand.tmp 55), type := 4, pos := "laws.go:342", after := #[{ on := 12, ground := Ground.data }, { on := 5, ground := Ground.guard }], guard := some (5, false) }) (v := ?_) rfl (by kernel_rfl) (by kernel_rfl) (by kernel_rfl) (fun _ _ _ h => h) (Or.inl ⟨by rfl, ?_⟩) hHeld ?_
      rotate_left
      · rintro w ⟨z0, z1, z2, z3, z4, z5, z6, z7, z8, z9, z10, z11, z12, z13, z14, z15, z16, z17, z18, z19, z20, z21, z22⟩; go_simp; (try with_reducible rfl)
      try simp only [Act.put, List.setIfInBounds_toArray, List.set_cons_zero, List.set_cons_succ]
      refine wpAnyH_take (i := 14) (oi := { dst := some 57, op := Op.pick (Operand.tmp 48) (Operand.const (Value.bool true)) (Operand.tmp 56), type := 4, pos := "laws.go:342", after := #[{ on := 5, ground := Ground.data }, { on := 13, ground := Ground.data }], guard := none }) (v := ?_) rfl (by kernel_rfl) (by kernel_rfl) (by kernel_rfl) (fun _ _ _ h => h) (Or.inl ⟨by rfl, ?_⟩) hHeld ?_
      rotate_left
      · rintro w ⟨z0, z1, z2, z3, z4, z5, z6, z7, z8, z9, z10, z11, z12, z13, z14, z15, z16, z17, z18, z19, z20, z21, z22⟩; go_simp; (try with_reducible rfl)
      try simp only [Act.put, List.setIfInBounds_toArray, List.set_cons_zero, List.set_cons_succ]
      refine wpAnyH_take (i := 15) (oi := { dst := some 58, op := Op.move (Operand.tmp 57), type := 4, pos := "laws.go:342", after := #[{ on := 14, ground := Ground.data }, { on := 12, ground := Ground.chain }], guard := none }) (v := ?_) rfl (by kernel_rfl) (by kernel_rfl) (by kernel_rfl) (fun _ _ _ h => h) (Or.inl ⟨by rfl, ?_⟩) hHeld ?_
      rotate_left
      · rintro w ⟨z0, z1, z2, z3, z4, z5, z6, z7, z8, z9, z10, z11, z12, z13, z14, z15, z16, z17, z18, z19, z20, z21, z22⟩; go_simp; (try with_reducible rfl)
      try simp only [Act.put, List.setIfInBounds_toArray, List.set_cons_zero, List.set_cons_succ]
      refine wpAnyH_take (i := 16) (oi := { dst := some 59, op := Op.load 37 (Operand.tmp 12), type := 37, pos := "laws.go:342", after := #[{ on := 15, ground := Ground.guard }], guard := some (15, false) }) (v := ?_) rfl (by kernel_rfl) (by kernel_rfl) (by kernel_rfl) (fun _ _ _ h => h) (Or.inl ⟨by rfl, ?_⟩) hHeld ?_
      rotate_left
      · rintro w ⟨z0, z1, z2, z3, z4, z5, z6, z7, z8, z9, z10, z11, z12, z13, z14, z15, z16, z17, z18, z19, z20, z21, z22⟩; go_simp; (try with_reducible rfl)
      try simp only [Act.put, List.setIfInBounds_toArray, List.set_cons_zero, List.set_cons_succ]
      refine wpAnyH_take (i := 17) (oi := { dst := some 60, op := Op.load 33 (Operand.tmp 10), type := 33, pos := "laws.go:342", after := #[{ on := 15, ground := Ground.guard }], guard := some (15, false) }) (v := ?_) rfl (by kernel_rfl) (by kernel_rfl) (by kernel_rfl) (fun _ _ _ h => h) (Or.inl ⟨by rfl, ?_⟩) hHeld ?_
      rotate_left
      · rintro w ⟨z0, z1, z2, z3, z4, z5, z6, z7, z8, z9, z10, z11, z12, z13, z14, z15, z16, z17, z18, z19, z20, z21, z22⟩; go_simp; (try with_reducible rfl)
      try simp only [Act.put, List.setIfInBounds_toArray, List.set_cons_zero, List.set_cons_succ]
      refine wpAnyH_take (i := 18) (oi := { dst := some 61, op := Op.load 28 (Operand.tmp 11), type := 28, pos := "laws.go:342", after := #[{ on := 15, ground := Ground.guard }], guard := some (15, false) }) (v := ?_) rfl (by kernel_rfl) (by kernel_rfl) (by kernel_rfl) (fun _ _ _ h => h) (Or.inl ⟨by rfl, ?_⟩) hHeld ?_
      rotate_left
      · rintro w ⟨z0, z1, z2, z3, z4, z5, z6, z7, z8, z9, z10, z11, z12, z13, z14, z15, z16, z17, z18, z19, z20, z21, z22⟩; go_simp; (try with_reducible rfl)
      try simp only [Act.put, List.setIfInBounds_toArray, List.set_cons_zero, List.set_cons_succ]
      refine wpAnyH_ready (rs := [19]) (by kernel_rfl) (by simp) ?_
      refine AllReadyH.cons rfl (fun K hK => ?_) AllReadyH.nil
      go_simp
      go_at_call 15
      refine (HH4.out _).mono ?_
      rintro r7 w7 ⟨rfl, hb⟩
      go_wp2_with fail
      refine hK.out _ _ (HS.out _ (i.up hb)) (fun _ => ?_)
      clear hK K hHeld
      try simp only [Act.put, List.setIfInBounds_toArray, List.set_cons_zero, List.set_cons_succ]
      refine rw.region_w (fun u => rw.Bel W u) (i.up hb) ?_
      clear i hb
      intro u i
      have hHeld : (u.cell? ⟨A, 0, none⟩ = some (.int .i64 m) ∧ u.cell? ⟨A, 1, none⟩ = some (.string x) ∧ u.cell? ⟨B, 0, none⟩ = some (.int .i64 n) ∧ u.cell? ⟨B, 1, none⟩ = some (.string b) ∧ u.cell? ⟨U, 0, none⟩ = some (.int .i64 f) ∧ u.cell? ⟨U, 1, none⟩ = some (.int .i64 to) ∧ u.cell? ⟨U, 2, none⟩ = some (.int .i64 k) ∧ u.cell? ⟨U, 3, none⟩ = some (.string tl) ∧ u.cell? ⟨S, 0, none⟩ = some (.int .i64 m2) ∧ u.cell? ⟨S, 1, none⟩ = some (.string x2) ∧ u.cell? ⟨V, 0, none⟩ = some (.int .i64 f2) ∧ u.cell? ⟨V, 1, none⟩ = some (.int .i64 to2) ∧ u.cell? ⟨V, 2, none⟩ = some (.int .i64 k2) ∧ u.cell? ⟨V, 3, none⟩ = some (.string tl2) ∧ u.cell? ⟨R, 0, none⟩ = some (.int .i64 m3) ∧ u.cell? ⟨R, 1, none⟩ = some (.string x3) ∧ u.cell? ⟨T, 0, none⟩ = some (.int .i64 f3) ∧ u.cell? ⟨T, 1, none⟩ = some (.int .i64 to3) ∧ u.cell? ⟨T, 2, none⟩ = some (.int .i64 k3) ∧ u.cell? ⟨T, 3, none⟩ = some (.string tl3) ∧ u.cell? ⟨Y, 0, none⟩ = some (.int .i64 X3) ∧ u.cell? ⟨Y, 1, none⟩ = some (.string T3) ∧ u.cell? ⟨Y, 2, none⟩ = some (.int .i64 Y3)) := HS.out u i
      refine wpAnyH_ready (rs := [20]) (by kernel_rfl) (by simp) ?_
      refine AllReadyH.cons rfl (fun K hK => ?_) AllReadyH.nil
      go_simp
      go_at_call 12
      refine (st.lwR_any _ _ _ _).mono ?_
      rintro r7 w7 ⟨rfl, hb⟩
      go_wp2_with fail
      refine hK.out _ _ (HS.out _ (i.up hb)) (fun _ => ?_)
      clear hK K hHeld
      try simp only [Act.put, List.setIfInBounds_toArray, List.set_cons_zero, List.set_cons_succ]
      refine rw.region_w (fun u => rw.Bel W u) (i.up hb) ?_
      clear i hb
      intro u i
      have hHeld : (u.cell? ⟨A, 0, none⟩ = some (.int .i64 m) ∧ u.cell? ⟨A, 1, none⟩ = some (.string x) ∧ u.cell? ⟨B, 0, none⟩ = some (.int .i64 n) ∧ u.cell? ⟨B, 1, none⟩ = some (.string b) ∧ u.cell? ⟨U, 0, none⟩ = some (.int .i64 f) ∧ u.cell? ⟨U, 1, none⟩ = some (.int .i64 to) ∧ u.cell? ⟨U, 2, none⟩ = some (.int .i64 k) ∧ u.cell? ⟨U, 3, none⟩ = some (.string tl) ∧ u.cell? ⟨S, 0, none⟩ = some (.int .i64 m2) ∧ u.cell? ⟨S, 1, none⟩ = some (.string x2) ∧ u.cell? ⟨V, 0, none⟩ = some (.int .i64 f2) ∧ u.cell? ⟨V, 1, none⟩ = some (.int .i64 to2) ∧ u.cell? ⟨V, 2, none⟩ = some (.int .i64 k2) ∧ u.cell? ⟨V, 3, none⟩ = some (.string tl2) ∧ u.cell? ⟨R, 0, none⟩ = some (.int .i64 m3) ∧ u.cell? ⟨R, 1, none⟩ = some (.string x3) ∧ u.cell? ⟨T, 0, none⟩ = some (.int .i64 f3) ∧ u.cell? ⟨T, 1, none⟩ = some (.int .i64 to3) ∧ u.cell? ⟨T, 2, none⟩ = some (.int .i64 k3) ∧ u.cell? ⟨T, 3, none⟩ = some (.string tl3) ∧ u.cell? ⟨Y, 0, none⟩ = some (.int .i64 X3) ∧ u.cell? ⟨Y, 1, none⟩ = some (.string T3) ∧ u.cell? ⟨Y, 2, none⟩ = some (.int .i64 Y3)) := HS.out u i
      refine wpAnyH_take (i := 21) (oi := { dst := some 64, op := Op.unOp UnOp.not 4 (Operand.tmp 63), type := 4, pos := "laws.go:342", after := #[{ on := 20, ground := Ground.data }, { on := 15, ground := Ground.guard }], guard := some (15, false) }) (v := ?_) rfl (by kernel_rfl) (by kernel_rfl) (by kernel_rfl) (fun _ _ _ h => h) (Or.inl ⟨by rfl, ?_⟩) hHeld ?_
      rotate_left
      · rintro w ⟨z0, z1, z2, z3, z4, z5, z6, z7, z8, z9, z10, z11, z12, z13, z14, z15, z16, z17, z18, z19, z20, z21, z22⟩; go_simp; (try with_reducible rfl)
      try simp only [Act.put, List.setIfInBounds_toArray, List.set_cons_zero, List.set_cons_succ]
      refine wpAnyH_take (i := 22) (oi := { dst := some 65, op := Op.pick (Operand.tmp 58) (Operand.const (Value.bool true)) (Operand.tmp 64), type := 4, pos := "laws.go:342", after := #[{ on := 15, ground := Ground.data }, { on := 21, ground := Ground.data }], guard := none }) (v := ?_) rfl (by kernel_rfl) (by kernel_rfl) (by kernel_rfl) (fun _ _ _ h => h) (Or.inl ⟨by rfl, ?_⟩) hHeld ?_
      rotate_left
      · rintro w ⟨z0, z1, z2, z3, z4, z5, z6, z7, z8, z9, z10, z11, z12, z13, z14, z15, z16, z17, z18, z19, z20, z21, z22⟩; go_simp; (try with_reducible rfl)
      try simp only [Act.put, List.setIfInBounds_toArray, List.set_cons_zero, List.set_cons_succ]
      refine wpAnyH_take (i := 23) (oi := { dst := some 66, op := Op.move (Operand.tmp 65), type := 4, pos := "laws.go:342", after := #[{ on := 22, ground := Ground.data }, { on := 20, ground := Ground.chain }], guard := none }) (v := ?_) rfl (by kernel_rfl) (by kernel_rfl) (by kernel_rfl) (fun _ _ _ h => h) (Or.inl ⟨by rfl, ?_⟩) hHeld ?_
      rotate_left
      · rintro w ⟨z0, z1, z2, z3, z4, z5, z6, z7, z8, z9, z10, z11, z12, z13, z14, z15, z16, z17, z18, z19, z20, z21, z22⟩; go_simp; (try with_reducible rfl)
      try simp only [Act.put, List.setIfInBounds_toArray, List.set_cons_zero, List.set_cons_succ]
      refine wpAnyH_take (i := 24) (oi := { dst := some 67, op := Op.fieldAddr 37 (Operand.tmp 12) 1, type := 0, pos := "laws.go:342", after := #[{ on := 23, ground := Ground.guard }], guard := some (23, false) }) (v := ?_) rfl (by kernel_rfl) (by kernel_rfl) (by kernel_rfl) (fun _ _ _ h => h) (Or.inl ⟨by rfl, ?_⟩) hHeld ?_
      rotate_left
      · rintro w ⟨z0, z1, z2, z3, z4, z5, z6, z7, z8, z9, z10, z11, z12, z13, z14, z15, z16, z17, z18, z19, z20, z21, z22⟩; go_simp; (try with_reducible rfl)
      try simp only [Act.put, List.setIfInBounds_toArray, List.set_cons_zero, List.set_cons_succ]
      refine wpAnyH_take (i := 25) (oi := { dst := some 68, op := Op.load 2 (Operand.tmp 67), type := 2, pos := "laws.go:342", after := #[{ on := 24, ground := Ground.data }, { on := 23, ground := Ground.guard }], guard := some (23, false) }) (v := ?_) rfl (by kernel_rfl) (by kernel_rfl) (by kernel_rfl) (fun _ _ _ h => h) (Or.inl ⟨by rfl, ?_⟩) hHeld ?_
      rotate_left
      · rintro w ⟨z0, z1, z2, z3, z4, z5, z6, z7, z8, z9, z10, z11, z12, z13, z14, z15, z16, z17, z18, z19, z20, z21, z22⟩; go_simp; (try with_reducible rfl)
      try simp only [Act.put, List.setIfInBounds_toArray, List.set_cons_zero, List.set_cons_succ]
      refine wpAnyH_take (i := 26) (oi := { dst := some 69, op := Op.binOp BinOp.eql 2 (Operand.tmp 68) (Operand.const (Value.int IntKind.i64 0)) 2, type := 4, pos := "laws.go:342", after := #[{ on := 25, ground := Ground.data }, { on := 23, ground := Ground.guard }], guard := some (23, false) }) (v := ?_) rfl (by kernel_rfl) (by kernel_rfl) (by kernel_rfl) (fun _ _ _ h => h) (Or.inl ⟨by rfl, ?_⟩) hHeld ?_
      rotate_left
      · rintro w ⟨z0, z1, z2, z3, z4, z5, z6, z7, z8, z9, z10, z11, z12, z13, z14, z15, z16, z17, z18, z19, z20, z21, z22⟩; go_simp; (try with_reducible rfl)
      try simp only [Act.put, List.setIfInBounds_toArray, List.set_cons_zero, List.set_cons_succ]
      refine wpAnyH_take (i := 27) (oi := { dst := some 70, op := Op.move (Operand.tmp 69), type := 4, pos := "laws.go:342", after := #[{ on := 26, ground := Ground.data }, { on := 23, ground := Ground.chain }, { on := 23, ground := Ground.guard }], guard := some (23, false) }) (v := ?_) rfl (by kernel_rfl) (by kernel_rfl) (by kernel_rfl) (fun _ _ _ h => h) (Or.inl ⟨by rfl, ?_⟩) hHeld ?_
      rotate_left
      · rintro w ⟨z0, z1, z2, z3, z4, z5, z6, z7, z8, z9, z10, z11, z12, z13, z14, z15, z16, z17, z18, z19, z20, z21, z22⟩; go_simp; (try with_reducible rfl)
      try simp only [Act.put, List.setIfInBounds_toArray, List.set_cons_zero, List.set_cons_succ]
      refine wpAnyH_take (i := 28) (oi := { dst := some 71, op := Op.fieldAddr 37 (Operand.tmp 12) 0, type := 0, pos := "laws.go:342", after := #[{ on := 27, ground := Ground.guard }], guard := some (27, true) }) (v := ?_) rfl (by kernel_rfl) (by kernel_rfl) (by kernel_rfl) (fun _ _ _ h => h) (Or.inl ⟨by rfl, ?_⟩) hHeld ?_
      rotate_left
      · rintro w ⟨z0, z1, z2, z3, z4, z5, z6, z7, z8, z9, z10, z11, z12, z13, z14, z15, z16, z17, z18, z19, z20, z21, z22⟩; go_simp; (try with_reducible rfl)
      try simp only [Act.put, List.setIfInBounds_toArray, List.set_cons_zero, List.set_cons_succ]
      refine wpAnyH_take (i := 29) (oi := { dst := some 72, op := Op.fieldAddr 33 (Operand.tmp 71) 0, type := 0, pos := "laws.go:342", after := #[{ on := 28, ground := Ground.data }, { on := 27, ground := Ground.guard }], guard := some (27, true) }) (v := ?_) rfl (by kernel_rfl) (by kernel_rfl) (by kernel_rfl) (fun _ _ _ h => h) (Or.inl ⟨by rfl, ?_⟩) hHeld ?_
      rotate_left
      · rintro w ⟨z0, z1, z2, z3, z4, z5, z6, z7, z8, z9, z10, z11, z12, z13, z14, z15, z16, z17, z18, z19, z20, z21, z22⟩; go_simp; (try with_reducible rfl)
      try simp only [Act.put, List.setIfInBounds_toArray, List.set_cons_zero, List.set_cons_succ]
      refine wpAnyH_take (i := 30) (oi := { dst := some 73, op := Op.fieldAddr 24 (Operand.tmp 72) 0, type := 0, pos := "laws.go:342", after := #[{ on := 29, ground := Ground.data }, { on := 27, ground := Ground.guard }], guard := some (27, true) }) (v := ?_) rfl (by kernel_rfl) (by kernel_rfl) (by kernel_rfl) (fun _ _ _ h => h) (Or.inl ⟨by rfl, ?_⟩) hHeld ?_
      rotate_left
      · rintro w ⟨z0, z1, z2, z3, z4, z5, z6, z7, z8, z9, z10, z11, z12, z13, z14, z15, z16, z17, z18, z19, z20, z21, z22⟩; go_simp; (try with_reducible rfl)
      try simp only [Act.put, List.setIfInBounds_toArray, List.set_cons_zero, List.set_cons_succ]
      refine wpAnyH_take (i := 31) (oi := { dst := some 74, op := Op.load 2 (Operand.tmp 73), type := 2, pos := "laws.go:342", after := #[{ on := 30, ground := Ground.data }, { on := 27, ground := Ground.guard }], guard := some (27, true) }) (v := ?_) rfl (by kernel_rfl) (by kernel_rfl) (by kernel_rfl) (fun _ _ _ h => h) (Or.inl ⟨by rfl, ?_⟩) hHeld ?_
      rotate_left
      · rintro w ⟨z0, z1, z2, z3, z4, z5, z6, z7, z8, z9, z10, z11, z12, z13, z14, z15, z16, z17, z18, z19, z20, z21, z22⟩; go_simp; (try with_reducible rfl)
      try simp only [Act.put, List.setIfInBounds_toArray, List.set_cons_zero, List.set_cons_succ]
      refine wpAnyH_take (i := 32) (oi := { dst := some 75, op := Op.fieldAddr 33 (Operand.tmp 10) 0, type := 0, pos := "laws.go:342", after := #[{ on := 27, ground := Ground.guard }], guard := some (27, true) }) (v := ?_) rfl (by kernel_rfl) (by kernel_rfl) (by kernel_rfl) (fun _ _ _ h => h) (Or.inl ⟨by rfl, ?_⟩) hHeld ?_
      rotate_left
      · rintro w ⟨z0, z1, z2, z3, z4, z5, z6, z7, z8, z9, z10, z11, z12, z13, z14, z15, z16, z17, z18, z19, z20, z21, z22⟩; go_simp; (try with_reducible rfl)
      try simp only [Act.put, List.setIfInBounds_toArray, List.set_cons_zero, List.set_cons_succ]
      refine wpAnyH_take (i := 33) (oi := { dst := some 76, op := Op.fieldAddr 24 (Operand.tmp 75) 0, type := 0, pos := "laws.go:342", after := #[{ on := 32, ground := Ground.data }, { on := 27, ground := Ground.guard }], guard := some (27, true) }) (v := ?_) rfl (by kernel_rfl) (by kernel_rfl) (by kernel_rfl) (fun _ _ _ h => h) (Or.inl ⟨by rfl, ?_⟩) hHeld ?_
      rotate_left
      · rintro w ⟨z0, z1, z2, z3, z4, z5, z6, z7, z8, z9, z10, z11, z12, z13, z14, z15, z16, z17, z18, z19, z20, z21, z22⟩; go_simp; (try with_reducible rfl)
      try simp only [Act.put, List.setIfInBounds_toArray, List.set_cons_zero, List.set_cons_succ]
      refine wpAnyH_take (i := 34) (oi := { dst := some 77, op := Op.load 2 (Operand.tmp 76), type := 2, pos := "laws.go:342", after := #[{ on := 33, ground := Ground.data }, { on := 27, ground := Ground.guard }], guard := some (27, true) }) (v := ?_) rfl (by kernel_rfl) (by kernel_rfl) (by kernel_rfl) (fun _ _ _ h => h) (Or.inl ⟨by rfl, ?_⟩) hHeld ?_
      rotate_left
      · rintro w ⟨z0, z1, z2, z3, z4, z5, z6, z7, z8, z9, z10, z11, z12, z13, z14, z15, z16, z17, z18, z19, z20, z21, z22⟩; go_simp; (try with_reducible rfl)
      try simp only [Act.put, List.setIfInBounds_toArray, List.set_cons_zero, List.set_cons_succ]
      refine wpAnyH_take (i := 35) (oi := { dst := some 78, op := Op.binOp BinOp.leq 2 (Operand.tmp 74) (Operand.tmp 77) 2, type := 4, pos := "laws.go:342", after := #[{ on := 31, ground := Ground.data }, { on := 34, ground := Ground.data }, { on := 27, ground := Ground.guard }], guard := some (27, true) }) (v := ?_) rfl (by kernel_rfl) (by kernel_rfl) (by kernel_rfl) (fun _ _ _ h => h) (Or.inl ⟨by rfl, ?_⟩) hHeld ?_
      rotate_left
      · rintro w ⟨z0, z1, z2, z3, z4, z5, z6, z7, z8, z9, z10, z11, z12, z13, z14, z15, z16, z17, z18, z19, z20, z21, z22⟩; go_simp; (try with_reducible rfl)
      try simp only [Act.put, List.setIfInBounds_toArray, List.set_cons_zero, List.set_cons_succ]
      refine wpAnyH_take (i := 36) (oi := { dst := some 79, op := Op.pick (Operand.tmp 70) (Operand.tmp 78) (Operand.const (Value.bool false)), type := 4, pos := "laws.go:342", after := #[{ on := 27, ground := Ground.data }, { on := 35, ground := Ground.data }, { on := 23, ground := Ground.guard }], guard := some (23, false) }) (v := ?_) rfl (by kernel_rfl) (by kernel_rfl) (by kernel_rfl) (fun _ _ _ h => h) (Or.inl ⟨by rfl, ?_⟩) hHeld ?_
      rotate_left
      · rintro w ⟨z0, z1, z2, z3, z4, z5, z6, z7, z8, z9, z10, z11, z12, z13, z14, z15, z16, z17, z18, z19, z20, z21, z22⟩; go_simp; (try with_reducible rfl)
      try simp only [Act.put, List.setIfInBounds_toArray, List.set_cons_zero, List.set_cons_succ]
      refine wpAnyH_take (i := 37) (oi := { dst := some 80, op := Op.pick (Operand.tmp 66) (Operand.const (Value.bool true)) (Operand.tmp 79), type := 4, pos := "laws.go:342", after := #[{ on := 23, ground := Ground.data }, { on := 36, ground := Ground.data }], guard := none }) (v := ?_) rfl (by kernel_rfl) (by kernel_rfl) (by kernel_rfl) (fun _ _ _ h => h) (Or.inl ⟨by rfl, ?_⟩) hHeld ?_
      rotate_left
      · rintro w ⟨z0, z1, z2, z3, z4, z5, z6, z7, z8, z9, z10, z11, z12, z13, z14, z15, z16, z17, z18, z19, z20, z21, z22⟩; go_simp; (try with_reducible rfl)
      try simp only [Act.put, List.setIfInBounds_toArray, List.set_cons_zero, List.set_cons_succ]
      refine wpAnyH_done (by kernel_rfl) ?_ _
      refine NoPanic.normal ?_
      clear hHeld
      go_wp2_with fail
      go_meet
      case rel => exact ⟨rfl, i⟩
    · have hY1 : (Y3 == 0) = false := by simp [hY0]
      clear hY0
      refine wp_region_noPanic ?_
      refine wp_region_held_drew (S := fun u => u.cell? ⟨A, 0, none⟩ = some (.int .i64 m) ∧ u.cell? ⟨A, 1, none⟩ = some (.string x) ∧ u.cell? ⟨B, 0, none⟩ = some (.int .i64 n) ∧ u.cell? ⟨B, 1, none⟩ = some (.string b) ∧ u.cell? ⟨U, 0, none⟩ = some (.int .i64 f) ∧ u.cell? ⟨U, 1, none⟩ = some (.int .i64 to) ∧ u.cell? ⟨U, 2, none⟩ = some (.int .i64 k) ∧ u.cell? ⟨U, 3, none⟩ = some (.string tl) ∧ u.cell? ⟨S, 0, none⟩ = some (.int .i64 m2) ∧ u.cell? ⟨S, 1, none⟩ = some (.string x2) ∧ u.cell? ⟨V, 0, none⟩ = some (.int .i64 f2) ∧ u.cell? ⟨V, 1, none⟩ = some (.int .i64 to2) ∧ u.cell? ⟨V, 2, none⟩ = some (.int .i64 k2) ∧ u.cell? ⟨V, 3, none⟩ = some (.string tl2) ∧ u.cell? ⟨R, 0, none⟩ = some (.int .i64 m3) ∧ u.cell? ⟨R, 1, none⟩ = some (.string x3) ∧ u.cell? ⟨T, 0, none⟩ = some (.int .i64 f3) ∧ u.cell? ⟨T, 1, none⟩ = some (.int .i64 to3) ∧ u.cell? ⟨T, 2, none⟩ = some (.int .i64 k3) ∧ u.cell? ⟨T, 3, none⟩ = some (.string tl3) ∧ u.cell? ⟨Y, 0, none⟩ = some (.int .i64 X3) ∧ u.cell? ⟨Y, 1, none⟩ = some (.string T3) ∧ u.cell? ⟨Y, 2, none⟩ = some (.int .i64 Y3)) (by kernel_rfl) (HS.out _ (i0.up (rw.up_drew _))) (fun _ => ?_)
      refine rw.region_w (fun u => rw.Bel W u) (i0.up (rw.up_drew _)) ?_
      clear i0
      intro u i
      have hHeld : (u.cell? ⟨A, 0, none⟩ = some (.int .i64 m) ∧ u.cell? ⟨A, 1, none⟩ = some (.string x) ∧ u.cell? ⟨B, 0, none⟩ = some (.int .i64 n) ∧ u.cell? ⟨B, 1, none⟩ = some (.string b) ∧ u.cell? ⟨U, 0, none⟩ = some (.int .i64 f) ∧ u.cell? ⟨U, 1, none⟩ = some (.int .i64 to) ∧ u.cell? ⟨U, 2, none⟩ = some (.int .i64 k) ∧ u.cell? ⟨U, 3, none⟩ = some (.string tl) ∧ u.cell? ⟨S, 0, none⟩ = some (.int .i64 m2) ∧ u.cell? ⟨S, 1, none⟩ = some (.string x2) ∧ u.cell? ⟨V, 0, none⟩ = some (.int .i64 f2) ∧ u.cell? ⟨V, 1, none⟩ = some (.int .i64 to2) ∧ u.cell? ⟨V, 2, none⟩ = some (.int .i64 k2) ∧ u.cell? ⟨V, 3, none⟩ = some (.string tl2) ∧ u.cell? ⟨R, 0, none⟩ = some (.int .i64 m3) ∧ u.cell? ⟨R, 1, none⟩ = some (.string x3) ∧ u.cell? ⟨T, 0, none⟩ = some (.int .i64 f3) ∧ u.cell? ⟨T, 1, none⟩ = some (.int .i64 to3) ∧ u.cell? ⟨T, 2, none⟩ = some (.int .i64 k3) ∧ u.cell? ⟨T, 3, none⟩ = some (.string tl3) ∧ u.cell? ⟨Y, 0, none⟩ = some (.int .i64 X3) ∧ u.cell? ⟨Y, 1, none⟩ = some (.string T3) ∧ u.cell? ⟨Y, 2, none⟩ = some (.int .i64 Y3)) := HS.out u i
      refine wpAnyH_take (i := 0) (oi := { dst := some 43, op := Op.load 28 (Operand.tmp 7), type := 28, pos := "laws.go:342", after := #[], guard := none }) (v := ?_) rfl (by kernel_rfl) (by kernel_rfl) (by kernel_rfl) (fun _ _ _ h => h) (Or.inl ⟨by rfl, ?_⟩) hHeld ?_
      rotate_left
      · rintro w ⟨z0, z1, z2, z3, z4, z5, z6, z7, z8, z9, z10, z11, z12, z13, z14, z15, z16, z17, z18, z19, z20, z21, z22⟩; go_simp; (try with_reducible rfl)
      try simp only [Act.put, List.setIfInBounds_toArray, List.set_cons_zero, List.set_cons_succ]
      refine wpAnyH_take (i := 1) (oi := { dst := some 44, op := Op.load 24 (Operand.tmp 5), type := 24, pos := "laws.go:342", after := #[], guard := none }) (v := ?_) rfl (by kernel_rfl) (by kernel_rfl) (by kernel_rfl) (fun _ _ _ h => h) (Or.inl ⟨by rfl, ?_⟩) hHeld ?_
      rotate_left
      · rintro w ⟨z0, z1, z2, z3, z4, z5, z6, z7, z8, z9, z10, z11, z12, z13, z14, z15, z16, z17, z18, z19, z20, z21, z22⟩; go_simp; (try with_reducible rfl)
      try simp only [Act.put, List.setIfInBounds_toArray, List.set_cons_zero, List.set_cons_succ]
      refine wpAnyH_take (i := 2) (oi := { dst := some 45, op := Op.load 24 (Operand.tmp 6), type := 24, pos := "laws.go:342", after := #[], guard := none }) (v := ?_) rfl (by kernel_rfl) (by kernel_rfl) (by kernel_rfl) (fun _ _ _ h => h) (Or.inl ⟨by rfl, ?_⟩) hHeld ?_
      rotate_left
      · rintro w ⟨z0, z1, z2, z3, z4, z5, z6, z7, z8, z9, z10, z11, z12, z13, z14, z15, z16, z17, z18, z19, z20, z21, z22⟩; go_simp; (try with_reducible rfl)
      try simp only [Act.put, List.setIfInBounds_toArray, List.set_cons_zero, List.set_cons_succ]
      refine wpAnyH_ready (rs := [3]) (by kernel_rfl) (by simp) ?_
      refine AllReadyH.cons rfl (fun K hK => ?_) AllReadyH.nil
      go_simp
      go_at_call 11
      refine (HMD.out _).mono ?_
      rintro r7 w7 ⟨rfl, hb⟩
      go_wp2_with fail
      refine hK.out _ _ (HS.out _ (i.up hb)) (fun _ => ?_)
      clear hK K hHeld
      try simp only [Act.put, List.setIfInBounds_toArray, List.set_cons_zero, List.set_cons_succ]
      refine rw.region_w (fun u => rw.Bel W u) (i.up hb) ?_
      clear i hb
      intro u i
      have hHeld : (u.cell? ⟨A, 0, none⟩ = some (.int .i64 m) ∧ u.cell? ⟨A, 1, none⟩ = some (.string x) ∧ u.cell? ⟨B, 0, none⟩ = some (.int .i64 n) ∧ u.cell? ⟨B, 1, none⟩ = some (.string b) ∧ u.cell? ⟨U, 0, none⟩ = some (.int .i64 f) ∧ u.cell? ⟨U, 1, none⟩ = some (.int .i64 to) ∧ u.cell? ⟨U, 2, none⟩ = some (.int .i64 k) ∧ u.cell? ⟨U, 3, none⟩ = some (.string tl) ∧ u.cell? ⟨S, 0, none⟩ = some (.int .i64 m2) ∧ u.cell? ⟨S, 1, none⟩ = some (.string x2) ∧ u.cell? ⟨V, 0, none⟩ = some (.int .i64 f2) ∧ u.cell? ⟨V, 1, none⟩ = some (.int .i64 to2) ∧ u.cell? ⟨V, 2, none⟩ = some (.int .i64 k2) ∧ u.cell? ⟨V, 3, none⟩ = some (.string tl2) ∧ u.cell? ⟨R, 0, none⟩ = some (.int .i64 m3) ∧ u.cell? ⟨R, 1, none⟩ = some (.string x3) ∧ u.cell? ⟨T, 0, none⟩ = some (.int .i64 f3) ∧ u.cell? ⟨T, 1, none⟩ = some (.int .i64 to3) ∧ u.cell? ⟨T, 2, none⟩ = some (.int .i64 k3) ∧ u.cell? ⟨T, 3, none⟩ = some (.string tl3) ∧ u.cell? ⟨Y, 0, none⟩ = some (.int .i64 X3) ∧ u.cell? ⟨Y, 1, none⟩ = some (.string T3) ∧ u.cell? ⟨Y, 2, none⟩ = some (.int .i64 Y3)) := HS.out u i
      refine wpAnyH_take (i := 4) (oi := { dst := some 47, op := Op.binOp BinOp.neq 28 (Operand.tmp 43) (Operand.tmp 46) 28, type := 4, pos := "laws.go:342", after := #[{ on := 0, ground := Ground.data }, { on := 3, ground := Ground.data }], guard := none }) (v := ?_) rfl (by kernel_rfl) (by kernel_rfl) (by kernel_rfl) (fun _ _ _ h => h) (Or.inl ⟨by rfl, ?_⟩) hHeld ?_
      rotate_left
      · rintro w ⟨z0, z1, z2, z3, z4, z5, z6, z7, z8, z9, z10, z11, z12, z13, z14, z15, z16, z17, z18, z19, z20, z21, z22⟩; go_simp; (try with_reducible rfl)
      try simp only [Act.put, List.setIfInBounds_toArray, List.set_cons_zero, List.set_cons_succ]
      refine wpAnyH_take (i := 5) (oi := { dst := some 48, op := Op.move (Operand.tmp 47), type := 4, pos := "laws.go:342", after := #[{ on := 4, ground := Ground.data }, { on := 3, ground := Ground.chain }], guard := none }) (v := ?_) rfl (by kernel_rfl) (by kernel_rfl) (by kernel_rfl) (fun _ _ _ h => h) (Or.inl ⟨by rfl, ?_⟩) hHeld ?_
      rotate_left
      · rintro w ⟨z0, z1, z2, z3, z4, z5, z6, z7, z8, z9, z10, z11, z12, z13, z14, z15, z16, z17, z18, z19, z20, z21, z22⟩; go_simp; (try with_reducible rfl)
      try simp only [Act.put, List.setIfInBounds_toArray, List.set_cons_zero, List.set_cons_succ]
      refine wpAnyH_take (i := 6) (oi := { dst := some 49, op := Op.load 24 (Operand.tmp 8), type := 24, pos := "laws.go:342", after := #[{ on := 5, ground := Ground.guard }], guard := some (5, false) }) (v := ?_) rfl (by kernel_rfl) (by kernel_rfl) (by kernel_rfl) (fun _ _ _ h => h) (Or.inl ⟨by rfl, ?_⟩) hHeld ?_
      rotate_left
      · rintro w ⟨z0, z1, z2, z3, z4, z5, z6, z7, z8, z9, z10, z11, z12, z13, z14, z15, z16, z17, z18, z19, z20, z21, z22⟩; go_simp; (try with_reducible rfl)
      try simp only [Act.put, List.setIfInBounds_toArray, List.set_cons_zero, List.set_cons_succ]
      refine wpAnyH_take (i := 7) (oi := { dst := some 50, op := Op.load 28 (Operand.tmp 9), type := 28, pos := "laws.go:342", after := #[{ on := 5, ground := Ground.guard }], guard := some (5, false) }) (v := ?_) rfl (by kernel_rfl) (by kernel_rfl) (by kernel_rfl) (fun _ _ _ h => h) (Or.inl ⟨by rfl, ?_⟩) hHeld ?_
      rotate_left
      · rintro w ⟨z0, z1, z2, z3, z4, z5, z6, z7, z8, z9, z10, z11, z12, z13, z14, z15, z16, z17, z18, z19, z20, z21, z22⟩; go_simp; (try with_reducible rfl)
      try simp only [Act.put, List.setIfInBounds_toArray, List.set_cons_zero, List.set_cons_succ]
      refine wpAnyH_take (i := 9) (oi := { dst := some 52, op := Op.load 24 (Operand.tmp 8), type := 24, pos := "laws.go:342", after := #[{ on := 5, ground := Ground.guard }], guard := some (5, false) }) (v := ?_) rfl (by kernel_rfl) (by kernel_rfl) (by kernel_rfl) (fun _ _ _ h => h) (Or.inl ⟨by rfl, ?_⟩) hHeld ?_
      rotate_left
      · rintro w ⟨z0, z1, z2, z3, z4, z5, z6, z7, z8, z9, z10, z11, z12, z13, z14, z15, z16, z17, z18, z19, z20, z21, z22⟩; go_simp; (try with_reducible rfl)
      try simp only [Act.put, List.setIfInBounds_toArray, List.set_cons_zero, List.set_cons_succ]
      refine wpAnyH_take (i := 10) (oi := { dst := some 53, op := Op.load 28 (Operand.tmp 9), type := 28, pos := "laws.go:342", after := #[{ on := 5, ground := Ground.guard }], guard := some (5, false) }) (v := ?_) rfl (by kernel_rfl) (by kernel_rfl) (by kernel_rfl) (fun _ _ _ h => h) (Or.inl ⟨by rfl, ?_⟩) hHeld ?_
      rotate_left
      · rintro w ⟨z0, z1, z2, z3, z4, z5, z6, z7, z8, z9, z10, z11, z12, z13, z14, z15, z16, z17, z18, z19, z20, z21, z22⟩; go_simp; (try with_reducible rfl)
      try simp only [Act.put, List.setIfInBounds_toArray, List.set_cons_zero, List.set_cons_succ]
      refine wpAnyH_ready (rs := [8]) (by kernel_rfl) (by simp) ?_
      refine AllReadyH.cons rfl (fun K hK => ?_) AllReadyH.nil
      go_simp
      go_at_call 13
      refine (HH2.out _).mono ?_
      rintro r7 w7 ⟨rfl, hb⟩
      go_wp2_with fail
      refine hK.out _ _ (HS.out _ (i.up hb)) (fun _ => ?_)
      clear hK K hHeld
      try simp only [Act.put, List.setIfInBounds_toArray, List.set_cons_zero, List.set_cons_succ]
      refine rw.region_w (fun u => rw.Bel W u) (i.up hb) ?_
      clear i hb
      intro u i
      have hHeld : (u.cell? ⟨A, 0, none⟩ = some (.int .i64 m) ∧ u.cell? ⟨A, 1, none⟩ = some (.string x) ∧ u.cell? ⟨B, 0, none⟩ = some (.int .i64 n) ∧ u.cell? ⟨B, 1, none⟩ = some (.string b) ∧ u.cell? ⟨U, 0, none⟩ = some (.int .i64 f) ∧ u.cell? ⟨U, 1, none⟩ = some (.int .i64 to) ∧ u.cell? ⟨U, 2, none⟩ = some (.int .i64 k) ∧ u.cell? ⟨U, 3, none⟩ = some (.string tl) ∧ u.cell? ⟨S, 0, none⟩ = some (.int .i64 m2) ∧ u.cell? ⟨S, 1, none⟩ = some (.string x2) ∧ u.cell? ⟨V, 0, none⟩ = some (.int .i64 f2) ∧ u.cell? ⟨V, 1, none⟩ = some (.int .i64 to2) ∧ u.cell? ⟨V, 2, none⟩ = some (.int .i64 k2) ∧ u.cell? ⟨V, 3, none⟩ = some (.string tl2) ∧ u.cell? ⟨R, 0, none⟩ = some (.int .i64 m3) ∧ u.cell? ⟨R, 1, none⟩ = some (.string x3) ∧ u.cell? ⟨T, 0, none⟩ = some (.int .i64 f3) ∧ u.cell? ⟨T, 1, none⟩ = some (.int .i64 to3) ∧ u.cell? ⟨T, 2, none⟩ = some (.int .i64 k3) ∧ u.cell? ⟨T, 3, none⟩ = some (.string tl3) ∧ u.cell? ⟨Y, 0, none⟩ = some (.int .i64 X3) ∧ u.cell? ⟨Y, 1, none⟩ = some (.string T3) ∧ u.cell? ⟨Y, 2, none⟩ = some (.int .i64 Y3)) := HS.out u i
      refine wpAnyH_ready (rs := [11]) (by kernel_rfl) (by simp) ?_
      refine AllReadyH.cons rfl (fun K hK => ?_) AllReadyH.nil
      go_simp
      go_at_call 14
      refine (HH3.out _).mono ?_
      rintro r7 w7 ⟨rfl, hb⟩
      go_wp2_with fail
      refine hK.out _ _ (HS.out _ (i.up hb)) (fun _ => ?_)
      clear hK K hHeld
      try simp only [Act.put, List.setIfInBounds_toArray, List.set_cons_zero, List.set_cons_succ]
      refine rw.region_w (fun u => rw.Bel W u) (i.up hb) ?_
      clear i hb
      intro u i
      have hHeld : (u.cell? ⟨A, 0, none⟩ = some (.int .i64 m) ∧ u.cell? ⟨A, 1, none⟩ = some (.string x) ∧ u.cell? ⟨B, 0, none⟩ = some (.int .i64 n) ∧ u.cell? ⟨B, 1, none⟩ = some (.string b) ∧ u.cell? ⟨U, 0, none⟩ = some (.int .i64 f) ∧ u.cell? ⟨U, 1, none⟩ = some (.int .i64 to) ∧ u.cell? ⟨U, 2, none⟩ = some (.int .i64 k) ∧ u.cell? ⟨U, 3, none⟩ = some (.string tl) ∧ u.cell? ⟨S, 0, none⟩ = some (.int .i64 m2) ∧ u.cell? ⟨S, 1, none⟩ = some (.string x2) ∧ u.cell? ⟨V, 0, none⟩ = some (.int .i64 f2) ∧ u.cell? ⟨V, 1, none⟩ = some (.int .i64 to2) ∧ u.cell? ⟨V, 2, none⟩ = some (.int .i64 k2) ∧ u.cell? ⟨V, 3, none⟩ = some (.string tl2) ∧ u.cell? ⟨R, 0, none⟩ = some (.int .i64 m3) ∧ u.cell? ⟨R, 1, none⟩ = some (.string x3) ∧ u.cell? ⟨T, 0, none⟩ = some (.int .i64 f3) ∧ u.cell? ⟨T, 1, none⟩ = some (.int .i64 to3) ∧ u.cell? ⟨T, 2, none⟩ = some (.int .i64 k3) ∧ u.cell? ⟨T, 3, none⟩ = some (.string tl3) ∧ u.cell? ⟨Y, 0, none⟩ = some (.int .i64 X3) ∧ u.cell? ⟨Y, 1, none⟩ = some (.string T3) ∧ u.cell? ⟨Y, 2, none⟩ = some (.int .i64 Y3)) := HS.out u i
      refine wpAnyH_ready (rs := [12]) (by kernel_rfl) (by simp) ?_
      refine AllReadyH.cons rfl (fun K hK => ?_) AllReadyH.nil
      go_simp
      go_at_call 12
      refine (st.lwR_any _ _ _ _).mono ?_
      rintro r7 w7 ⟨rfl, hb⟩
      go_wp2_with fail
      refine hK.out _ _ (HS.out _ (i.up hb)) (fun _ => ?_)
      clear hK K hHeld
      try simp only [Act.put, List.setIfInBounds_toArray, List.set_cons_zero, List.set_cons_succ]
      refine rw.region_w (fun u => rw.Bel W u) (i.up hb) ?_
      clear i hb
      intro u i
      have hHeld : (u.cell? ⟨A, 0, none⟩ = some (.int .i64 m) ∧ u.cell? ⟨A, 1, none⟩ = some (.string x) ∧ u.cell? ⟨B, 0, none⟩ = some (.int .i64 n) ∧ u.cell? ⟨B, 1, none⟩ = some (.string b) ∧ u.cell? ⟨U, 0, none⟩ = some (.int .i64 f) ∧ u.cell? ⟨U, 1, none⟩ = some (.int .i64 to) ∧ u.cell? ⟨U, 2, none⟩ = some (.int .i64 k) ∧ u.cell? ⟨U, 3, none⟩ = some (.string tl) ∧ u.cell? ⟨S, 0, none⟩ = some (.int .i64 m2) ∧ u.cell? ⟨S, 1, none⟩ = some (.string x2) ∧ u.cell? ⟨V, 0, none⟩ = some (.int .i64 f2) ∧ u.cell? ⟨V, 1, none⟩ = some (.int .i64 to2) ∧ u.cell? ⟨V, 2, none⟩ = some (.int .i64 k2) ∧ u.cell? ⟨V, 3, none⟩ = some (.string tl2) ∧ u.cell? ⟨R, 0, none⟩ = some (.int .i64 m3) ∧ u.cell? ⟨R, 1, none⟩ = some (.string x3) ∧ u.cell? ⟨T, 0, none⟩ = some (.int .i64 f3) ∧ u.cell? ⟨T, 1, none⟩ = some (.int .i64 to3) ∧ u.cell? ⟨T, 2, none⟩ = some (.int .i64 k3) ∧ u.cell? ⟨T, 3, none⟩ = some (.string tl3) ∧ u.cell? ⟨Y, 0, none⟩ = some (.int .i64 X3) ∧ u.cell? ⟨Y, 1, none⟩ = some (.string T3) ∧ u.cell? ⟨Y, 2, none⟩ = some (.int .i64 Y3)) := HS.out u i
      refine wpAnyH_take (i := 13) (oi := { dst := some 56, op := Op.unOp UnOp.not 4 (Operand.tmp 55), type := 4, pos := "laws.go:342", after := #[{ on := 12, ground := Ground.data }, { on := 5, ground := Ground.guard }], guard := some (5, false) }) (v := ?_) rfl (by kernel_rfl) (by kernel_rfl) (by kernel_rfl) (fun _ _ _ h => h) (Or.inl ⟨by rfl, ?_⟩) hHeld ?_
      rotate_left
      · rintro w ⟨z0, z1, z2, z3, z4, z5, z6, z7, z8, z9, z10, z11, z12, z13, z14, z15, z16, z17, z18, z19, z20, z21, z22⟩; go_simp; (try with_reducible rfl)
      try simp only [Act.put, List.setIfInBounds_toArray, List.set_cons_zero, List.set_cons_succ]
      refine wpAnyH_take (i := 14) (oi := { dst := some 57, op := Op.pick (Operand.tmp 48) (Operand.const (Value.bool true)) (Operand.tmp 56), type := 4, pos := "laws.go:342", after := #[{ on := 5, ground := Ground.data }, { on := 13, ground := Ground.data }], guard := none }) (v := ?_) rfl (by kernel_rfl) (by kernel_rfl) (by kernel_rfl) (fun _ _ _ h => h) (Or.inl ⟨by rfl, ?_⟩) hHeld ?_
      rotate_left
      · rintro w ⟨z0, z1, z2, z3, z4, z5, z6, z7, z8, z9, z10, z11, z12, z13, z14, z15, z16, z17, z18, z19, z20, z21, z22⟩; go_simp; (try with_reducible rfl)
      try simp only [Act.put, List.setIfInBounds_toArray, List.set_cons_zero, List.set_cons_succ]
      refine wpAnyH_take (i := 15) (oi := { dst := some 58, op := Op.move (Operand.tmp 57), type := 4, pos := "laws.go:342", after := #[{ on := 14, ground := Ground.data }, { on := 12, ground := Ground.chain }], guard := none }) (v := ?_) rfl (by kernel_rfl) (by kernel_rfl) (by kernel_rfl) (fun _ _ _ h => h) (Or.inl ⟨by rfl, ?_⟩) hHeld ?_
      rotate_left
      · rintro w ⟨z0, z1, z2, z3, z4, z5, z6, z7, z8, z9, z10, z11, z12, z13, z14, z15, z16, z17, z18, z19, z20, z21, z22⟩; go_simp; (try with_reducible rfl)
      try simp only [Act.put, List.setIfInBounds_toArray, List.set_cons_zero, List.set_cons_succ]
      refine wpAnyH_take (i := 16) (oi := { dst := some 59, op := Op.load 37 (Operand.tmp 12), type := 37, pos := "laws.go:342", after := #[{ on := 15, ground := Ground.guard }], guard := some (15, false) }) (v := ?_) rfl (by kernel_rfl) (by kernel_rfl) (by kernel_rfl) (fun _ _ _ h => h) (Or.inl ⟨by rfl, ?_⟩) hHeld ?_
      rotate_left
      · rintro w ⟨z0, z1, z2, z3, z4, z5, z6, z7, z8, z9, z10, z11, z12, z13, z14, z15, z16, z17, z18, z19, z20, z21, z22⟩; go_simp; (try with_reducible rfl)
      try simp only [Act.put, List.setIfInBounds_toArray, List.set_cons_zero, List.set_cons_succ]
      refine wpAnyH_take (i := 17) (oi := { dst := some 60, op := Op.load 33 (Operand.tmp 10), type := 33, pos := "laws.go:342", after := #[{ on := 15, ground := Ground.guard }], guard := some (15, false) }) (v := ?_) rfl (by kernel_rfl) (by kernel_rfl) (by kernel_rfl) (fun _ _ _ h => h) (Or.inl ⟨by rfl, ?_⟩) hHeld ?_
      rotate_left
      · rintro w ⟨z0, z1, z2, z3, z4, z5, z6, z7, z8, z9, z10, z11, z12, z13, z14, z15, z16, z17, z18, z19, z20, z21, z22⟩; go_simp; (try with_reducible rfl)
      try simp only [Act.put, List.setIfInBounds_toArray, List.set_cons_zero, List.set_cons_succ]
      refine wpAnyH_take (i := 18) (oi := { dst := some 61, op := Op.load 28 (Operand.tmp 11), type := 28, pos := "laws.go:342", after := #[{ on := 15, ground := Ground.guard }], guard := some (15, false) }) (v := ?_) rfl (by kernel_rfl) (by kernel_rfl) (by kernel_rfl) (fun _ _ _ h => h) (Or.inl ⟨by rfl, ?_⟩) hHeld ?_
      rotate_left
      · rintro w ⟨z0, z1, z2, z3, z4, z5, z6, z7, z8, z9, z10, z11, z12, z13, z14, z15, z16, z17, z18, z19, z20, z21, z22⟩; go_simp; (try with_reducible rfl)
      try simp only [Act.put, List.setIfInBounds_toArray, List.set_cons_zero, List.set_cons_succ]
      refine wpAnyH_ready (rs := [19]) (by kernel_rfl) (by simp) ?_
      refine AllReadyH.cons rfl (fun K hK => ?_) AllReadyH.nil
      go_simp
      go_at_call 15
      refine (HH4.out _).mono ?_
      rintro r7 w7 ⟨rfl, hb⟩
      go_wp2_with fail
      refine hK.out _ _ (HS.out _ (i.up hb)) (fun _ => ?_)
      clear hK K hHeld
      try simp only [Act.put, List.setIfInBounds_toArray, List.set_cons_zero, List.set_cons_succ]
      refine rw.region_w (fun u => rw.Bel W u) (i.up hb) ?_
      clear i hb
      intro u i
      have hHeld : (u.cell? ⟨A, 0, none⟩ = some (.int .i64 m) ∧ u.cell? ⟨A, 1, none⟩ = some (.string x) ∧ u.cell? ⟨B, 0, none⟩ = some (.int .i64 n) ∧ u.cell? ⟨B, 1, none⟩ = some (.string b) ∧ u.cell? ⟨U, 0, none⟩ = some (.int .i64 f) ∧ u.cell? ⟨U, 1, none⟩ = some (.int .i64 to) ∧ u.cell? ⟨U, 2, none⟩ = some (.int .i64 k) ∧ u.cell? ⟨U, 3, none⟩ = some (.string tl) ∧ u.cell? ⟨S, 0, none⟩ = some (.int .i64 m2) ∧ u.cell? ⟨S, 1, none⟩ = some (.string x2) ∧ u.cell? ⟨V, 0, none⟩ = some (.int .i64 f2) ∧ u.cell? ⟨V, 1, none⟩ = some (.int .i64 to2) ∧ u.cell? ⟨V, 2, none⟩ = some (.int .i64 k2) ∧ u.cell? ⟨V, 3, none⟩ = some (.string tl2) ∧ u.cell? ⟨R, 0, none⟩ = some (.int .i64 m3) ∧ u.cell? ⟨R, 1, none⟩ = some (.string x3) ∧ u.cell? ⟨T, 0, none⟩ = some (.int .i64 f3) ∧ u.cell? ⟨T, 1, none⟩ = some (.int .i64 to3) ∧ u.cell? ⟨T, 2, none⟩ = some (.int .i64 k3) ∧ u.cell? ⟨T, 3, none⟩ = some (.string tl3) ∧ u.cell? ⟨Y, 0, none⟩ = some (.int .i64 X3) ∧ u.cell? ⟨Y, 1, none⟩ = some (.string T3) ∧ u.cell? ⟨Y, 2, none⟩ = some (.int .i64 Y3)) := HS.out u i
      refine wpAnyH_ready (rs := [20]) (by kernel_rfl) (by simp) ?_
      refine AllReadyH.cons rfl (fun K hK => ?_) AllReadyH.nil
      go_simp
      go_at_call 12
      refine (st.lwR_any _ _ _ _).mono ?_
      rintro r7 w7 ⟨rfl, hb⟩
      go_wp2_with fail
      refine hK.out _ _ (HS.out _ (i.up hb)) (fun _ => ?_)
      clear hK K hHeld
      try simp only [Act.put, List.setIfInBounds_toArray, List.set_cons_zero, List.set_cons_succ]
      refine rw.region_w (fun u => rw.Bel W u) (i.up hb) ?_
      clear i hb
      intro u i
      have hHeld : (u.cell? ⟨A, 0, none⟩ = some (.int .i64 m) ∧ u.cell? ⟨A, 1, none⟩ = some (.string x) ∧ u.cell? ⟨B, 0, none⟩ = some (.int .i64 n) ∧ u.cell? ⟨B, 1, none⟩ = some (.string b) ∧ u.cell? ⟨U, 0, none⟩ = some (.int .i64 f) ∧ u.cell? ⟨U, 1, none⟩ = some (.int .i64 to) ∧ u.cell? ⟨U, 2, none⟩ = some (.int .i64 k) ∧ u.cell? ⟨U, 3, none⟩ = some (.string tl) ∧ u.cell? ⟨S, 0, none⟩ = some (.int .i64 m2) ∧ u.cell? ⟨S, 1, none⟩ = some (.string x2) ∧ u.cell? ⟨V, 0, none⟩ = some (.int .i64 f2) ∧ u.cell? ⟨V, 1, none⟩ = some (.int .i64 to2) ∧ u.cell? ⟨V, 2, none⟩ = some (.int .i64 k2) ∧ u.cell? ⟨V, 3, none⟩ = some (.string tl2) ∧ u.cell? ⟨R, 0, none⟩ = some (.int .i64 m3) ∧ u.cell? ⟨R, 1, none⟩ = some (.string x3) ∧ u.cell? ⟨T, 0, none⟩ = some (.int .i64 f3) ∧ u.cell? ⟨T, 1, none⟩ = some (.int .i64 to3) ∧ u.cell? ⟨T, 2, none⟩ = some (.int .i64 k3) ∧ u.cell? ⟨T, 3, none⟩ = some (.string tl3) ∧ u.cell? ⟨Y, 0, none⟩ = some (.int .i64 X3) ∧ u.cell? ⟨Y, 1, none⟩ = some (.string T3) ∧ u.cell? ⟨Y, 2, none⟩ = some (.int .i64 Y3)) := HS.out u i
      refine wpAnyH_take (i := 21) (oi := { dst := some 64, op := Op.unOp UnOp.not 4 (Operand.tmp 63), type := 4, pos := "laws.go:342", after := #[{ on := 20, ground := Ground.data }, { on := 15, ground := Ground.guard }], guard := some (15, false) }) (v := ?_) rfl (by kernel_rfl) (by kernel_rfl) (by kernel_rfl) (fun _ _ _ h => h) (Or.inl ⟨by rfl, ?_⟩) hHeld ?_
      rotate_left
      · rintro w ⟨z0, z1, z2, z3, z4, z5, z6, z7, z8, z9, z10, z11, z12, z13, z14, z15, z16, z17, z18, z19, z20, z21, z22⟩; go_simp; (try with_reducible rfl)
      try simp only [Act.put, List.setIfInBounds_toArray, List.set_cons_zero, List.set_cons_succ]
      refine wpAnyH_take (i := 22) (oi := { dst := some 65, op := Op.pick (Operand.tmp 58) (Operand.const (Value.bool true)) (Operand.tmp 64), type := 4, pos := "laws.go:342", after := #[{ on := 15, ground := Ground.data }, { on := 21, ground := Ground.data }], guard := none }) (v := ?_) rfl (by kernel_rfl) (by kernel_rfl) (by kernel_rfl) (fun _ _ _ h => h) (Or.inl ⟨by rfl, ?_⟩) hHeld ?_
      rotate_left
      · rintro w ⟨z0, z1, z2, z3, z4, z5, z6, z7, z8, z9, z10, z11, z12, z13, z14, z15, z16, z17, z18, z19, z20, z21, z22⟩; go_simp; (try with_reducible rfl)
      try simp only [Act.put, List.setIfInBounds_toArray, List.set_cons_zero, List.set_cons_succ]
      refine wpAnyH_take (i := 23) (oi := { dst := some 66, op := Op.move (Operand.tmp 65), type := 4, pos := "laws.go:342", after := #[{ on := 22, ground := Ground.data }, { on := 20, ground := Ground.chain }], guard := none }) (v := ?_) rfl (by kernel_rfl) (by kernel_rfl) (by kernel_rfl) (fun _ _ _ h => h) (Or.inl ⟨by rfl, ?_⟩) hHeld ?_
      rotate_left
      · rintro w ⟨z0, z1, z2, z3, z4, z5, z6, z7, z8, z9, z10, z11, z12, z13, z14, z15, z16, z17, z18, z19, z20, z21, z22⟩; go_simp; (try with_reducible rfl)
      try simp only [Act.put, List.setIfInBounds_toArray, List.set_cons_zero, List.set_cons_succ]
      refine wpAnyH_take (i := 24) (oi := { dst := some 67, op := Op.fieldAddr 37 (Operand.tmp 12) 1, type := 0, pos := "laws.go:342", after := #[{ on := 23, ground := Ground.guard }], guard := some (23, false) }) (v := ?_) rfl (by kernel_rfl) (by kernel_rfl) (by kernel_rfl) (fun _ _ _ h => h) (Or.inl ⟨by rfl, ?_⟩) hHeld ?_
      rotate_left
      · rintro w ⟨z0, z1, z2, z3, z4, z5, z6, z7, z8, z9, z10, z11, z12, z13, z14, z15, z16, z17, z18, z19, z20, z21, z22⟩; go_simp; (try with_reducible rfl)
      try simp only [Act.put, List.setIfInBounds_toArray, List.set_cons_zero, List.set_cons_succ]
      refine wpAnyH_take (i := 25) (oi := { dst := some 68, op := Op.load 2 (Operand.tmp 67), type := 2, pos := "laws.go:342", after := #[{ on := 24, ground := Ground.data }, { on := 23, ground := Ground.guard }], guard := some (23, false) }) (v := ?_) rfl (by kernel_rfl) (by kernel_rfl) (by kernel_rfl) (fun _ _ _ h => h) (Or.inl ⟨by rfl, ?_⟩) hHeld ?_
      rotate_left
      · rintro w ⟨z0, z1, z2, z3, z4, z5, z6, z7, z8, z9, z10, z11, z12, z13, z14, z15, z16, z17, z18, z19, z20, z21, z22⟩; go_simp; (try with_reducible rfl)
      try simp only [Act.put, List.setIfInBounds_toArray, List.set_cons_zero, List.set_cons_succ]
      refine wpAnyH_take (i := 26) (oi := { dst := some 69, op := Op.binOp BinOp.eql 2 (Operand.tmp 68) (Operand.const (Value.int IntKind.i64 0)) 2, type := 4, pos := "laws.go:342", after := #[{ on := 25, ground := Ground.data }, { on := 23, ground := Ground.guard }], guard := some (23, false) }) (v := ?_) rfl (by kernel_rfl) (by kernel_rfl) (by kernel_rfl) (fun _ _ _ h => h) (Or.inl ⟨by rfl, ?_⟩) hHeld ?_
      rotate_left
      · rintro w ⟨z0, z1, z2, z3, z4, z5, z6, z7, z8, z9, z10, z11, z12, z13, z14, z15, z16, z17, z18, z19, z20, z21, z22⟩; go_simp; (try with_reducible rfl)
      try simp only [Act.put, List.setIfInBounds_toArray, List.set_cons_zero, List.set_cons_succ]
      refine wpAnyH_take (i := 27) (oi := { dst := some 70, op := Op.move (Operand.tmp 69), type := 4, pos := "laws.go:342", after := #[{ on := 26, ground := Ground.data }, { on := 23, ground := Ground.chain }, { on := 23, ground := Ground.guard }], guard := some (23, false) }) (v := ?_) rfl (by kernel_rfl) (by kernel_rfl) (by kernel_rfl) (fun _ _ _ h => h) (Or.inl ⟨by rfl, ?_⟩) hHeld ?_
      rotate_left
      · rintro w ⟨z0, z1, z2, z3, z4, z5, z6, z7, z8, z9, z10, z11, z12, z13, z14, z15, z16, z17, z18, z19, z20, z21, z22⟩; go_simp; (try with_reducible rfl)
      try simp only [Act.put, List.setIfInBounds_toArray, List.set_cons_zero, List.set_cons_succ]
      refine wpAnyH_take (i := 28) (oi := { dst := some 71, op := Op.fieldAddr 37 (Operand.tmp 12) 0, type := 0, pos := "laws.go:342", after := #[{ on := 27, ground := Ground.guard }], guard := some (27, true) }) (v := undef) rfl (by kernel_rfl) (by kernel_rfl) (by kernel_rfl) (fun _ _ _ h => h) (Or.inr ⟨by rfl, rfl⟩) hHeld ?_
      try simp only [Act.put, List.setIfInBounds_toArray, List.set_cons_zero, List.set_cons_succ]
      refine wpAnyH_take (i := 29) (oi := { dst := some 72, op := Op.fieldAddr 33 (Operand.tmp 71) 0, type := 0, pos := "laws.go:342", after := #[{ on := 28, ground := Ground.data }, { on := 27, ground := Ground.guard }], guard := some (27, true) }) (v := undef) rfl (by kernel_rfl) (by kernel_rfl) (by kernel_rfl) (fun _ _ _ h => h) (Or.inr ⟨by rfl, rfl⟩) hHeld ?_
      try simp only [Act.put, List.setIfInBounds_toArray, List.set_cons_zero, List.set_cons_succ]
      refine wpAnyH_take (i := 30) (oi := { dst := some 73, op := Op.fieldAddr 24 (Operand.tmp 72) 0, type := 0, pos := "laws.go:342", after := #[{ on := 29, ground := Ground.data }, { on := 27, ground := Ground.guard }], guard := some (27, true) }) (v := undef) rfl (by kernel_rfl) (by kernel_rfl) (by kernel_rfl) (fun _ _ _ h => h) (Or.inr ⟨by rfl, rfl⟩) hHeld ?_
      try simp only [Act.put, List.setIfInBounds_toArray, List.set_cons_zero, List.set_cons_succ]
      refine wpAnyH_take (i := 31) (oi := { dst := some 74, op := Op.load 2 (Operand.tmp 73), type := 2, pos := "laws.go:342", after := #[{ on := 30, ground := Ground.data }, { on := 27, ground := Ground.guard }], guard := some (27, true) }) (v := undef) rfl (by kernel_rfl) (by kernel_rfl) (by kernel_rfl) (fun _ _ _ h => h) (Or.inr ⟨by rfl, rfl⟩) hHeld ?_
      try simp only [Act.put, List.setIfInBounds_toArray, List.set_cons_zero, List.set_cons_succ]
      refine wpAnyH_take (i := 32) (oi := { dst := some 75, op := Op.fieldAddr 33 (Operand.tmp 10) 0, type := 0, pos := "laws.go:342", after := #[{ on := 27, ground := Ground.guard }], guard := some (27, true) }) (v := undef) rfl (by kernel_rfl) (by kernel_rfl) (by kernel_rfl) (fun _ _ _ h => h) (Or.inr ⟨by rfl, rfl⟩) hHeld ?_
      try simp only [Act.put, List.setIfInBounds_toArray, List.set_cons_zero, List.set_cons_succ]
      refine wpAnyH_take (i := 33) (oi := { dst := some 76, op := Op.fieldAddr 24 (Operand.tmp 75) 0, type := 0, pos := "laws.go:342", after := #[{ on := 32, ground := Ground.data }, { on := 27, ground := Ground.guard }], guard := some (27, true) }) (v := undef) rfl (by kernel_rfl) (by kernel_rfl) (by kernel_rfl) (fun _ _ _ h => h) (Or.inr ⟨by rfl, rfl⟩) hHeld ?_
      try simp only [Act.put, List.setIfInBounds_toArray, List.set_cons_zero, List.set_cons_succ]
      refine wpAnyH_take (i := 34) (oi := { dst := some 77, op := Op.load 2 (Operand.tmp 76), type := 2, pos := "laws.go:342", after := #[{ on := 33, ground := Ground.data }, { on := 27, ground := Ground.guard }], guard := some (27, true) }) (v := undef) rfl (by kernel_rfl) (by kernel_rfl) (by kernel_rfl) (fun _ _ _ h => h) (Or.inr ⟨by rfl, rfl⟩) hHeld ?_
      try simp only [Act.put, List.setIfInBounds_toArray, List.set_cons_zero, List.set_cons_succ]
      refine wpAnyH_take (i := 35) (oi := { dst := some 78, op := Op.binOp BinOp.leq 2 (Operand.tmp 74) (Operand.tmp 77) 2, type := 4, pos := "laws.go:342", after := #[{ on := 31, ground := Ground.data }, { on := 34, ground := Ground.data }, { on := 27, ground := Ground.guard }], guard := some (27, true) }) (v := undef) rfl (by kernel_rfl) (by kernel_rfl) (by kernel_rfl) (fun _ _ _ h => h) (Or.inr ⟨by rfl, rfl⟩) hHeld ?_
      try simp only [Act.put, List.setIfInBounds_toArray, List.set_cons_zero, List.set_cons_succ]
      refine wpAnyH_take (i := 36) (oi := { dst := some 79, op := Op.pick (Operand.tmp 70) (Operand.tmp 78) (Operand.const (Value.bool false)), type := 4, pos := "laws.go:342", after := #[{ on := 27, ground := Ground.data }, { on := 35, ground := Ground.data }, { on := 23, ground := Ground.guard }], guard := some (23, false) }) (v := ?_) rfl (by kernel_rfl) (by kernel_rfl) (by kernel_rfl) (fun _ _ _ h => h) (Or.inl ⟨by rfl, ?_⟩) hHeld ?_
      rotate_left
      · rintro w ⟨z0, z1, z2, z3, z4, z5, z6, z7, z8, z9, z10, z11, z12, z13, z14, z15, z16, z17, z18, z19, z20, z21, z22⟩; go_simp; (try with_reducible rfl)
      try simp only [Act.put, List.setIfInBounds_toArray, List.set_cons_zero, List.set_cons_succ]
      refine wpAnyH_take (i := 37) (oi := { dst := some 80, op := Op.pick (Operand.tmp 66) (Operand.const (Value.bool true)) (Operand.tmp 79), type := 4, pos := "laws.go:342", after := #[{ on := 23, ground := Ground.data }, { on := 36, ground := Ground.data }], guard := none }) (v := ?_) rfl (by kernel_rfl) (by kernel_rfl) (by kernel_rfl) (fun _ _ _ h => h) (Or.inl ⟨by rfl, ?_⟩) hHeld ?_
      rotate_left
      · rintro w ⟨z0, z1, z2, z3, z4, z5, z6, z7, z8, z9, z10, z11, z12, z13, z14, z15, z16, z17, z18, z19, z20, z21, z22⟩; go_simp; (try with_reducible rfl)
      try simp only [Act.put, List.setIfInBounds_toArray, List.set_cons_zero, List.set_cons_succ]
      refine wpAnyH_done (by kernel_rfl) ?_ _
      refine NoPanic.normal ?_
      clear hHeld
      go_wp2_with fail
      go_meet
      case rel => exact ⟨rfl, i⟩
  case rest =>
    obtain ⟨rfl, i⟩ := hcut
    have hA := HW.out.2.1.up i
    have hB := HW.out.2.2.1.up i
    have hU := HW.out.2.2.2.1.up i
    have hw : Below w.heap.size w wc := HW.out.1.trans ((show Below W.heap.size W wc from i).mono HW.out.1.size)
    have hP : A < wc.heap.size := hA.lt
    clear HW i HMD HH2 HH3 HH4 HS HY3
    have ca0 := hA.cell 0
    have ca1 := hA.cell 1
    have cb0 := hB.cell 0
    have cb1 := hB.cell 1
    have HA : Hid (Below w.heap.size w wc ∧ rw.At wc A #[.int .i64 m, .string x] 24 ∧ rw.At wc B #[.int .i64 n, .string b] 24 ∧ rw.At wc U #[.int .i64 f, .int .i64 to, .int .i64 k, .string tl] 28) := ⟨hw, hA, hB, hU⟩
    clear hw hA hB hU
    go_upto_region 12 with fail
    any_goals (go_ret; exact ⟨rfl, HA.out.1⟩)
    have s1 : st.StR m x := ⟨⟨by omega, by omega⟩, by omega⟩
    have s2 : st.StR n b := ⟨⟨by omega, by omega⟩, by omega⟩
    have H1 : Hid (∀ u, Calls Try.prog 13 #[.agg #[.int .i64 m, .string x], .agg #[.int .i64 f, .int .i64 to, .int .i64 k, .string tl]] u fun e w' => e = .returned (.agg #[.int .i64 n, .string b, .int .i64 0]) ∧ Below u.heap.size u w') := fun u => st.on_delta m x n b f to k tl HV.out s1 s2 u
    have H2 : Hid (m + 1 ≤ 1000000 → ∀ u, Calls Try.prog 13 #[.agg #[.int .i64 (m + 1), .string x], .agg #[.int .i64 f, .int .i64 to, .int .i64 k, .string tl]] u fun e w' => e = .returned (.agg #[.int .i64 0, .string ⟨#[]⟩, .int .i64 10]) ∧ Below u.heap.size u w') := fun h3 u => st.on_other m x n b f to k tl HV.out s1 s2 h3 u
    have hw1 : IntKind.i64.wrap (m + 1) = m + 1 := by rw [IntKind.wrap_i64]; omega
    have ca2 : ∀ o, (wc.alloc o).cell? ⟨A, 0, none⟩ = some (.int .i64 m) := fun o => (HA.out.2.1.up (rw.up_alloc _ o)).cell 0
    clear s1 s2 HV
    go_upto_region 14 with fail
    obtain ⟨D, hD⟩ : ∃ D, D = wc.heap.size := ⟨_, rfl⟩
    have hB2 : Below wc.heap.size wc (wc.alloc (.cells #[.int .i64 (m + 1), .string x] 24)) := rw.up_alloc _ _
    have hZ : rw.At (wc.alloc (.cells #[.int .i64 (m + 1), .string x] 24)) D #[.int .i64 (m + 1), .string x] 24 := by rw [hD]; exact rw.At.new _ _ _
    have hA := HA.out.2.1.up hB2
    have hB := HA.out.2.2.1.up hB2
    have hU := HA.out.2.2.2.up hB2
    have HW2 : Hid (Below w.heap.size w (wc.alloc (.cells #[.int .i64 (m + 1), .string x] 24))) := HA.out.1.trans (hB2.mono HA.out.1.size)
    rw [← hD]
    clear HA ca0 ca1 ca2 cb0 cb1 hP hB2 hD
    obtain ⟨W2, hW2⟩ : ∃ W2, W2 = wc.alloc (.cells #[.int .i64 (m + 1), .string x] 24) := ⟨_, rfl⟩
    rw [← hW2] at hZ hA hB hU HW2 ⊢
    clear hW2
    have HS : Hid (∀ u, rw.Bel W2 u → (u.cell? ⟨A, 0, none⟩ = some (.int .i64 m) ∧ u.cell? ⟨A, 1, none⟩ = some (.string x) ∧ u.cell? ⟨B, 0, none⟩ = some (.int .i64 n) ∧ u.cell? ⟨B, 1, none⟩ = some (.string b) ∧ u.cell? ⟨U, 0, none⟩ = some (.int .i64 f) ∧ u.cell? ⟨U, 1, none⟩ = some (.int .i64 to) ∧ u.cell? ⟨U, 2, none⟩ = some (.int .i64 k) ∧ u.cell? ⟨U, 3, none⟩ = some (.string tl) ∧ u.cell? ⟨D, 0, none⟩ = some (.int .i64 (m + 1)) ∧ u.cell? ⟨D, 1, none⟩ = some (.string x))) := fun u h => ⟨(hA.up h).cell 0, (hA.up h).cell 1, (hB.up h).cell 0, (hB.up h).cell 1, (hU.up h).cell 0, (hU.up h).cell 1, (hU.up h).cell 2, (hU.up h).cell 3, (hZ.up h).cell 0, (hZ.up h).cell 1⟩
    clear hZ hA hB hU
    have i0 : rw.Bel W2 W2 := Below.refl _ _
    by_cases hM : 1000000 < m + 1
    · have d : decide (1000000 < m + 1) = true := decide_eq_true hM
      refine wp_region_noPanic ?_
      refine wp_region_held_drew (S := fun u => u.cell? ⟨A, 0, none⟩ = some (.int .i64 m) ∧ u.cell? ⟨A, 1, none⟩ = some (.string x) ∧ u.cell? ⟨B, 0, none⟩ = some (.int .i64 n) ∧ u.cell? ⟨B, 1, none⟩ = some (.string b) ∧ u.cell? ⟨U, 0, none⟩ = some (.int .i64 f) ∧ u.cell? ⟨U, 1, none⟩ = some (.int .i64 to) ∧ u.cell? ⟨U, 2, none⟩ = some (.int .i64 k) ∧ u.cell? ⟨U, 3, none⟩ = some (.string tl) ∧ u.cell? ⟨D, 0, none⟩ = some (.int .i64 (m + 1)) ∧ u.cell? ⟨D, 1, none⟩ = some (.string x)) (by kernel_rfl) (HS.out _ (i0.up (rw.up_drew _))) (fun _ => ?_)
      refine rw.region_w (fun u => rw.Bel W2 u) (i0.up (rw.up_drew _)) ?_
      clear i0
      intro u i
      have hHeld : (u.cell? ⟨A, 0, none⟩ = some (.int .i64 m) ∧ u.cell? ⟨A, 1, none⟩ = some (.string x) ∧ u.cell? ⟨B, 0, none⟩ = some (.int .i64 n) ∧ u.cell? ⟨B, 1, none⟩ = some (.string b) ∧ u.cell? ⟨U, 0, none⟩ = some (.int .i64 f) ∧ u.cell? ⟨U, 1, none⟩ = some (.int .i64 to) ∧ u.cell? ⟨U, 2, none⟩ = some (.int .i64 k) ∧ u.cell? ⟨U, 3, none⟩ = some (.string tl) ∧ u.cell? ⟨D, 0, none⟩ = some (.int .i64 (m + 1)) ∧ u.cell? ⟨D, 1, none⟩ = some (.string x)) := HS.out u i
      refine wpAnyH_take (i := 0) (oi := { dst := some 116, op := Op.load 24 (Operand.tmp 5), type := 24, pos := "laws.go:350", after := #[], guard := none }) (v := ?_) rfl (by kernel_rfl) (by kernel_rfl) (by kernel_rfl) (fun _ _ _ h => h) (Or.inl ⟨by rfl, ?_⟩) hHeld ?_
      rotate_left
      · rintro w ⟨z0, z1, z2, z3, z4, z5, z6, z7, z8, z9⟩; go_simp; (try with_reducible rfl)
      try simp only [Act.put, List.setIfInBounds_toArray, List.set_cons_zero, List.set_cons_succ]
      refine wpAnyH_take (i := 1) (oi := { dst := some 117, op := Op.load 28 (Operand.tmp 7), type := 28, pos := "laws.go:350", after := #[], guard := none }) (v := ?_) rfl (by kernel_rfl) (by kernel_rfl) (by kernel_rfl) (fun _ _ _ h => h) (Or.inl ⟨by rfl, ?_⟩) hHeld ?_
      rotate_left
      · rintro w ⟨z0, z1, z2, z3, z4, z5, z6, z7, z8, z9⟩; go_simp; (try with_reducible rfl)
      try simp only [Act.put, List.setIfInBounds_toArray, List.set_cons_zero, List.set_cons_succ]
      refine wpAnyH_take (i := 3) (oi := { dst := some 119, op := Op.load 24 (Operand.tmp 6), type := 24, pos := "laws.go:350", after := #[], guard := none }) (v := ?_) rfl (by kernel_rfl) (by kernel_rfl) (by kernel_rfl) (fun _ _ _ h => h) (Or.inl ⟨by rfl, ?_⟩) hHeld ?_
      rotate_left
      · rintro w ⟨z0, z1, z2, z3, z4, z5, z6, z7, z8, z9⟩; go_simp; (try with_reducible rfl)
      try simp only [Act.put, List.setIfInBounds_toArray, List.set_cons_zero, List.set_cons_succ]
      refine wpAnyH_take (i := 4) (oi := { dst := some 120, op := Op.build 33 #[(0, Operand.tmp 119)], type := 33, pos := "laws.go:350", after := #[{ on := 3, ground := Ground.data }], guard := none }) (v := ?_) rfl (by kernel_rfl) (by kernel_rfl) (by kernel_rfl) (fun _ _ _ h => h) (Or.inl ⟨by rfl, ?_⟩) hHeld ?_
      rotate_left
      · rintro w ⟨z0, z1, z2, z3, z4, z5, z6, z7, z8, z9⟩; go_simp; (try with_reducible rfl)
      try simp only [Act.put, List.setIfInBounds_toArray, List.set_cons_zero, List.set_cons_succ]
      refine wpAnyH_take (i := 5) (oi := { dst := some 121, op := Op.build 37 #[(0, Operand.tmp 120)], type := 37, pos := "laws.go:350", after := #[{ on := 4, ground := Ground.data }], guard := none }) (v := ?_) rfl (by kernel_rfl) (by kernel_rfl) (by kernel_rfl) (fun _ _ _ h => h) (Or.inl ⟨by rfl, ?_⟩) hHeld ?_
      rotate_left
      · rintro w ⟨z0, z1, z2, z3, z4, z5, z6, z7, z8, z9⟩; go_simp; (try with_reducible rfl)
      try simp only [Act.put, List.setIfInBounds_toArray, List.set_cons_zero, List.set_cons_succ]
      refine wpAnyH_ready (rs := [2]) (by kernel_rfl) (by simp) ?_
      refine AllReadyH.cons rfl (fun K hK => ?_) AllReadyH.nil
      go_simp
      go_at_call 13
      refine (H1.out _).mono ?_
      rintro r7 w7 ⟨rfl, hb⟩
      go_wp2_with fail
      refine hK.out _ _ (HS.out _ (i.up hb)) (fun _ => ?_)
      clear hK K hHeld
      try simp only [Act.put, List.setIfInBounds_toArray, List.set_cons_zero, List.set_cons_succ]
      refine rw.region_w (fun u => rw.Bel W2 u) (i.up hb) ?_
      clear i hb
      intro u i
      have hHeld : (u.cell? ⟨A, 0, none⟩ = some (.int .i64 m) ∧ u.cell? ⟨A, 1, none⟩ = some (.string x) ∧ u.cell? ⟨B, 0, none⟩ = some (.int .i64 n) ∧ u.cell? ⟨B, 1, none⟩ = some (.string b) ∧ u.cell? ⟨U, 0, none⟩ = some (.int .i64 f) ∧ u.cell? ⟨U, 1, none⟩ = some (.int .i64 to) ∧ u.cell? ⟨U, 2, none⟩ = some (.int .i64 k) ∧ u.cell? ⟨U, 3, none⟩ = some (.string tl) ∧ u.cell? ⟨D, 0, none⟩ = some (.int .i64 (m + 1)) ∧ u.cell? ⟨D, 1, none⟩ = some (.string x)) := HS.out u i
      refine wpAnyH_take (i := 6) (oi := { dst := some 122, op := Op.binOp BinOp.eql 37 (Operand.tmp 118) (Operand.tmp 121) 37, type := 4, pos := "laws.go:350", after := #[{ on := 2, ground := Ground.data }, { on := 5, ground := Ground.data }], guard := none }) (v := ?_) rfl (by kernel_rfl) (by kernel_rfl) (by kernel_rfl) (fun _ _ _ h => h) (Or.inl ⟨by rfl, ?_⟩) hHeld ?_
      rotate_left
      · rintro w ⟨z0, z1, z2, z3, z4, z5, z6, z7, z8, z9⟩; go_simp; (try with_reducible rfl)
      try simp only [Act.put, List.setIfInBounds_toArray, List.set_cons_zero, List.set_cons_succ]
      refine wpAnyH_take (i := 7) (oi := { dst := some 123, op := Op.move (Operand.tmp 122), type := 4, pos := "laws.go:350", after := #[{ on := 6, ground := Ground.data }, { on := 2, ground := Ground.chain }], guard := none }) (v := ?_) rfl (by kernel_rfl) (by kernel_rfl) (by kernel_rfl) (fun _ _ _ h => h) (Or.inl ⟨by rfl, ?_⟩) hHeld ?_
      rotate_left
      · rintro w ⟨z0, z1, z2, z3, z4, z5, z6, z7, z8, z9⟩; go_simp; (try with_reducible rfl)
      try simp only [Act.put, List.setIfInBounds_toArray, List.set_cons_zero, List.set_cons_succ]
      refine wpAnyH_take (i := 8) (oi := { dst := some 124, op := Op.fieldAddr 24 (Operand.tmp 13) 0, type := 0, pos := "laws.go:350", after := #[{ on := 7, ground := Ground.guard }], guard := some (7, true) }) (v := ?_) rfl (by kernel_rfl) (by kernel_rfl) (by kernel_rfl) (fun _ _ _ h => h) (Or.inl ⟨by rfl, ?_⟩) hHeld ?_
      rotate_left
      · rintro w ⟨z0, z1, z2, z3, z4, z5, z6, z7, z8, z9⟩; go_simp; (try with_reducible rfl)
      try simp only [Act.put, List.setIfInBounds_toArray, List.set_cons_zero, List.set_cons_succ]
      refine wpAnyH_take (i := 9) (oi := { dst := some 125, op := Op.load 2 (Operand.tmp 124), type := 2, pos := "laws.go:350", after := #[{ on := 8, ground := Ground.data }, { on := 7, ground := Ground.guard }], guard := some (7, true) }) (v := ?_) rfl (by kernel_rfl) (by kernel_rfl) (by kernel_rfl) (fun _ _ _ h => h) (Or.inl ⟨by rfl, ?_⟩) hHeld ?_
      rotate_left
      · rintro w ⟨z0, z1, z2, z3, z4, z5, z6, z7, z8, z9⟩; go_simp; (try with_reducible rfl)
      try simp only [Act.put, List.setIfInBounds_toArray, List.set_cons_zero, List.set_cons_succ]
      refine wpAnyH_take (i := 10) (oi := { dst := some 126, op := Op.binOp BinOp.gtr 2 (Operand.tmp 125) (Operand.const (Value.int IntKind.i64 1000000)) 2, type := 4, pos := "laws.go:350", after := #[{ on := 9, ground := Ground.data }, { on := 7, ground := Ground.guard }], guard := some (7, true) }) (v := ?_) rfl (by kernel_rfl) (by kernel_rfl) (by kernel_rfl) (fun _ _ _ h => h) (Or.inl ⟨by rfl, ?_⟩) hHeld ?_
      rotate_left
      · rintro w ⟨z0, z1, z2, z3, z4, z5, z6, z7, z8, z9⟩; go_simp; (try with_reducible rfl)
      try simp only [Act.put, List.setIfInBounds_toArray, List.set_cons_zero, List.set_cons_succ]
      refine wpAnyH_take (i := 11) (oi := { dst := some 127, op := Op.move (Operand.tmp 126), type := 4, pos := "laws.go:350", after := #[{ on := 10, ground := Ground.data }, { on := 7, ground := Ground.chain }, { on := 7, ground := Ground.guard }], guard := some (7, true) }) (v := ?_) rfl (by kernel_rfl) (by kernel_rfl) (by kernel_rfl) (fun _ _ _ h => h) (Or.inl ⟨by rfl, ?_⟩) hHeld ?_
      rotate_left
      · rintro w ⟨z0, z1, z2, z3, z4, z5, z6, z7, z8, z9⟩; go_simp; (try with_reducible rfl)
      try simp only [Act.put, List.setIfInBounds_toArray, List.set_cons_zero, List.set_cons_succ]
      refine wpAnyH_take (i := 12) (oi := { dst := some 128, op := Op.load 24 (Operand.tmp 13), type := 24, pos := "laws.go:350", after := #[{ on := 11, ground := Ground.guard }], guard := some (11, false) }) (v := undef) rfl (by kernel_rfl) (by kernel_rfl) (by kernel_rfl) (fun _ _ _ h => h) (Or.inr ⟨by rfl, rfl⟩) hHeld ?_
      try simp only [Act.put, List.setIfInBounds_toArray, List.set_cons_zero, List.set_cons_succ]
      refine wpAnyH_take (i := 13) (oi := { dst := some 129, op := Op.load 28 (Operand.tmp 7), type := 28, pos := "laws.go:350", after := #[{ on := 11, ground := Ground.guard }], guard := some (11, false) }) (v := undef) rfl (by kernel_rfl) (by kernel_rfl) (by kernel_rfl) (fun _ _ _ h => h) (Or.inr ⟨by rfl, rfl⟩) hHeld ?_
      try simp only [Act.put, List.setIfInBounds_toArray, List.set_cons_zero, List.set_cons_succ]
      refine wpAnyH_take (i := 14) (oi := { dst := some 130, op := Op.call { callee := Callee.value (Operand.func 13), args := #[Operand.tmp 128, Operand.tmp 129], argTypes := #[24, 28] }, type := 37, pos := "laws.go:350", after := #[{ on := 12, ground := Ground.data }, { on := 13, ground := Ground.data }, { on := 11, ground := Ground.chain }, { on := 11, ground := Ground.guard }], guard := some (11, false) }) (v := undef) rfl (by kernel_rfl) (by kernel_rfl) (by kernel_rfl) (fun _ _ _ h => h) (Or.inr ⟨by rfl, rfl⟩) hHeld ?_
      try simp only [Act.put, List.setIfInBounds_toArray, List.set_cons_zero, List.set_cons_succ]
      refine wpAnyH_take (i := 15) (oi := { dst := some 131, op := Op.field 37 (Operand.tmp 130) 1, type := 2, pos := "laws.go:350", after := #[{ on := 14, ground := Ground.data }, { on := 11, ground := Ground.guard }], guard := some (11, false) }) (v := undef) rfl (by kernel_rfl) (by kernel_rfl) (by kernel_rfl) (fun _ _ _ h => h) (Or.inr ⟨by rfl, rfl⟩) hHeld ?_
      try simp only [Act.put, List.setIfInBounds_toArray, List.set_cons_zero, List.set_cons_succ]
      refine wpAnyH_take (i := 16) (oi := { dst := some 132, op := Op.binOp BinOp.eql 2 (Operand.tmp 131) (Operand.const (Value.int IntKind.i64 10)) 2, type := 4, pos := "laws.go:350", after := #[{ on := 15, ground := Ground.data }, { on := 11, ground := Ground.guard }], guard := some (11, false) }) (v := undef) rfl (by kernel_rfl) (by kernel_rfl) (by kernel_rfl) (fun _ _ _ h => h) (Or.inr ⟨by rfl, rfl⟩) hHeld ?_
      try simp only [Act.put, List.setIfInBounds_toArray, List.set_cons_zero, List.set_cons_succ]
      refine wpAnyH_take (i := 17) (oi := { dst := some 133, op := Op.pick (Operand.tmp 127) (Operand.const (Value.bool true)) (Operand.tmp 132), type := 4, pos := "laws.go:350", after := #[{ on := 11, ground := Ground.data }, { on := 16, ground := Ground.data }, { on := 7, ground := Ground.guard }], guard := some (7, true) }) (v := ?_) rfl (by kernel_rfl) (by kernel_rfl) (by kernel_rfl) (fun _ _ _ h => h) (Or.inl ⟨by rfl, ?_⟩) hHeld ?_
      rotate_left
      · rintro w ⟨z0, z1, z2, z3, z4, z5, z6, z7, z8, z9⟩; go_simp; (try with_reducible rfl)
      try simp only [Act.put, List.setIfInBounds_toArray, List.set_cons_zero, List.set_cons_succ]
      refine wpAnyH_take (i := 18) (oi := { dst := some 134, op := Op.pick (Operand.tmp 123) (Operand.tmp 133) (Operand.const (Value.bool false)), type := 4, pos := "laws.go:350", after := #[{ on := 7, ground := Ground.data }, { on := 17, ground := Ground.data }], guard := none }) (v := ?_) rfl (by kernel_rfl) (by kernel_rfl) (by kernel_rfl) (fun _ _ _ h => h) (Or.inl ⟨by rfl, ?_⟩) hHeld ?_
      rotate_left
      · rintro w ⟨z0, z1, z2, z3, z4, z5, z6, z7, z8, z9⟩; go_simp; (try with_reducible rfl)
      try simp only [Act.put, List.setIfInBounds_toArray, List.set_cons_zero, List.set_cons_succ]
      refine wpAnyH_take (i := 19) (oi := { dst := some 4, op := Op.assign (Operand.tmp 134), type := 4, pos := "laws.go:350", after := #[{ on := 18, ground := Ground.data }, { on := 14, ground := Ground.chain }, { on := 0, ground := Ground.phase }, { on := 1, ground := Ground.phase }, { on := 2, ground := Ground.phase }, { on := 3, ground := Ground.phase }, { on := 4, ground := Ground.phase }, { on := 5, ground := Ground.phase }, { on := 6, ground := Ground.phase }, { on := 7, ground := Ground.phase }, { on := 8, ground := Ground.phase }, { on := 9, ground := Ground.phase }, { on := 10, ground := Ground.phase }, { on := 11, ground := Ground.phase }, { on := 12, ground := Ground.phase }, { on := 13, ground := Ground.phase }, { on := 14, ground := Ground.phase }, { on := 15, ground := Ground.phase }, { on := 16, ground := Ground.phase }, { on := 17, ground := Ground.phase }, { on := 18, ground := Ground.phase }], guard := none }) (v := ?_) rfl (by kernel_rfl) (by kernel_rfl) (by kernel_rfl) (fun _ _ _ h => h) (Or.inl ⟨by rfl, ?_⟩) hHeld ?_
      rotate_left
      · rintro w ⟨z0, z1, z2, z3, z4, z5, z6, z7, z8, z9⟩; go_simp; (try with_reducible rfl)
      try simp only [Act.put, List.setIfInBounds_toArray, List.set_cons_zero, List.set_cons_succ]
      refine wpAnyH_done (by kernel_rfl) ?_ _
      refine NoPanic.normal ?_
      clear hHeld HS H1 H2
      have HB : Hid (Below w.heap.size w u) := HW2.out.trans ((show Below W2.heap.size W2 u from i).mono HW2.out.size)
      clear i HW2
      go_wp2
      go_ret
      exact ⟨rfl, HB.out⟩
    · have d : decide (1000000 < m + 1) = false := decide_eq_false hM
      refine wp_region_noPanic ?_
      refine wp_region_held_drew (S := fun u => u.cell? ⟨A, 0, none⟩ = some (.int .i64 m) ∧ u.cell? ⟨A, 1, none⟩ = some (.string x) ∧ u.cell? ⟨B, 0, none⟩ = some (.int .i64 n) ∧ u.cell? ⟨B, 1, none⟩ = some (.string b) ∧ u.cell? ⟨U, 0, none⟩ = some (.int .i64 f) ∧ u.cell? ⟨U, 1, none⟩ = some (.int .i64 to) ∧ u.cell? ⟨U, 2, none⟩ = some (.int .i64 k) ∧ u.cell? ⟨U, 3, none⟩ = some (.string tl) ∧ u.cell? ⟨D, 0, none⟩ = some (.int .i64 (m + 1)) ∧ u.cell? ⟨D, 1, none⟩ = some (.string x)) (by kernel_rfl) (HS.out _ (i0.up (rw.up_drew _))) (fun _ => ?_)
      refine rw.region_w (fun u => rw.Bel W2 u) (i0.up (rw.up_drew _)) ?_
      clear i0
      intro u i
      have hHeld : (u.cell? ⟨A, 0, none⟩ = some (.int .i64 m) ∧ u.cell? ⟨A, 1, none⟩ = some (.string x) ∧ u.cell? ⟨B, 0, none⟩ = some (.int .i64 n) ∧ u.cell? ⟨B, 1, none⟩ = some (.string b) ∧ u.cell? ⟨U, 0, none⟩ = some (.int .i64 f) ∧ u.cell? ⟨U, 1, none⟩ = some (.int .i64 to) ∧ u.cell? ⟨U, 2, none⟩ = some (.int .i64 k) ∧ u.cell? ⟨U, 3, none⟩ = some (.string tl) ∧ u.cell? ⟨D, 0, none⟩ = some (.int .i64 (m + 1)) ∧ u.cell? ⟨D, 1, none⟩ = some (.string x)) := HS.out u i
      refine wpAnyH_take (i := 0) (oi := { dst := some 116, op := Op.load 24 (Operand.tmp 5), type := 24, pos := "laws.go:350", after := #[], guard := none }) (v := ?_) rfl (by kernel_rfl) (by kernel_rfl) (by kernel_rfl) (fun _ _ _ h => h) (Or.inl ⟨by rfl, ?_⟩) hHeld ?_
      rotate_left
      · rintro w ⟨z0, z1, z2, z3, z4, z5, z6, z7, z8, z9⟩; go_simp; (try with_reducible rfl)
      try simp only [Act.put, List.setIfInBounds_toArray, List.set_cons_zero, List.set_cons_succ]
      refine wpAnyH_take (i := 1) (oi := { dst := some 117, op := Op.load 28 (Operand.tmp 7), type := 28, pos := "laws.go:350", after := #[], guard := none }) (v := ?_) rfl (by kernel_rfl) (by kernel_rfl) (by kernel_rfl) (fun _ _ _ h => h) (Or.inl ⟨by rfl, ?_⟩) hHeld ?_
      rotate_left
      · rintro w ⟨z0, z1, z2, z3, z4, z5, z6, z7, z8, z9⟩; go_simp; (try with_reducible rfl)
      try simp only [Act.put, List.setIfInBounds_toArray, List.set_cons_zero, List.set_cons_succ]
      refine wpAnyH_take (i := 3) (oi := { dst := some 119, op := Op.load 24 (Operand.tmp 6), type := 24, pos := "laws.go:350", after := #[], guard := none }) (v := ?_) rfl (by kernel_rfl) (by kernel_rfl) (by kernel_rfl) (fun _ _ _ h => h) (Or.inl ⟨by rfl, ?_⟩) hHeld ?_
      rotate_left
      · rintro w ⟨z0, z1, z2, z3, z4, z5, z6, z7, z8, z9⟩; go_simp; (try with_reducible rfl)
      try simp only [Act.put, List.setIfInBounds_toArray, List.set_cons_zero, List.set_cons_succ]
      refine wpAnyH_take (i := 4) (oi := { dst := some 120, op := Op.build 33 #[(0, Operand.tmp 119)], type := 33, pos := "laws.go:350", after := #[{ on := 3, ground := Ground.data }], guard := none }) (v := ?_) rfl (by kernel_rfl) (by kernel_rfl) (by kernel_rfl) (fun _ _ _ h => h) (Or.inl ⟨by rfl, ?_⟩) hHeld ?_
      rotate_left
      · rintro w ⟨z0, z1, z2, z3, z4, z5, z6, z7, z8, z9⟩; go_simp; (try with_reducible rfl)
      try simp only [Act.put, List.setIfInBounds_toArray, List.set_cons_zero, List.set_cons_succ]
      refine wpAnyH_take (i := 5) (oi := { dst := some 121, op := Op.build 37 #[(0, Operand.tmp 120)], type := 37, pos := "laws.go:350", after := #[{ on := 4, ground := Ground.data }], guard := none }) (v := ?_) rfl (by kernel_rfl) (by kernel_rfl) (by kernel_rfl) (fun _ _ _ h => h) (Or.inl ⟨by rfl, ?_⟩) hHeld ?_
      rotate_left
      · rintro w ⟨z0, z1, z2, z3, z4, z5, z6, z7, z8, z9⟩; go_simp; (try with_reducible rfl)
      try simp only [Act.put, List.setIfInBounds_toArray, List.set_cons_zero, List.set_cons_succ]
      refine wpAnyH_ready (rs := [2]) (by kernel_rfl) (by simp) ?_
      refine AllReadyH.cons rfl (fun K hK => ?_) AllReadyH.nil
      go_simp
      go_at_call 13
      refine (H1.out _).mono ?_
      rintro r7 w7 ⟨rfl, hb⟩
      go_wp2_with fail
      refine hK.out _ _ (HS.out _ (i.up hb)) (fun _ => ?_)
      clear hK K hHeld
      try simp only [Act.put, List.setIfInBounds_toArray, List.set_cons_zero, List.set_cons_succ]
      refine rw.region_w (fun u => rw.Bel W2 u) (i.up hb) ?_
      clear i hb
      intro u i
      have hHeld : (u.cell? ⟨A, 0, none⟩ = some (.int .i64 m) ∧ u.cell? ⟨A, 1, none⟩ = some (.string x) ∧ u.cell? ⟨B, 0, none⟩ = some (.int .i64 n) ∧ u.cell? ⟨B, 1, none⟩ = some (.string b) ∧ u.cell? ⟨U, 0, none⟩ = some (.int .i64 f) ∧ u.cell? ⟨U, 1, none⟩ = some (.int .i64 to) ∧ u.cell? ⟨U, 2, none⟩ = some (.int .i64 k) ∧ u.cell? ⟨U, 3, none⟩ = some (.string tl) ∧ u.cell? ⟨D, 0, none⟩ = some (.int .i64 (m + 1)) ∧ u.cell? ⟨D, 1, none⟩ = some (.string x)) := HS.out u i
      refine wpAnyH_take (i := 6) (oi := { dst := some 122, op := Op.binOp BinOp.eql 37 (Operand.tmp 118) (Operand.tmp 121) 37, type := 4, pos := "laws.go:350", after := #[{ on := 2, ground := Ground.data }, { on := 5, ground := Ground.data }], guard := none }) (v := ?_) rfl (by kernel_rfl) (by kernel_rfl) (by kernel_rfl) (fun _ _ _ h => h) (Or.inl ⟨by rfl, ?_⟩) hHeld ?_
      rotate_left
      · rintro w ⟨z0, z1, z2, z3, z4, z5, z6, z7, z8, z9⟩; go_simp; (try with_reducible rfl)
      try simp only [Act.put, List.setIfInBounds_toArray, List.set_cons_zero, List.set_cons_succ]
      refine wpAnyH_take (i := 7) (oi := { dst := some 123, op := Op.move (Operand.tmp 122), type := 4, pos := "laws.go:350", after := #[{ on := 6, ground := Ground.data }, { on := 2, ground := Ground.chain }], guard := none }) (v := ?_) rfl (by kernel_rfl) (by kernel_rfl) (by kernel_rfl) (fun _ _ _ h => h) (Or.inl ⟨by rfl, ?_⟩) hHeld ?_
      rotate_left
      · rintro w ⟨z0, z1, z2, z3, z4, z5, z6, z7, z8, z9⟩; go_simp; (try with_reducible rfl)
      try simp only [Act.put, List.setIfInBounds_toArray, List.set_cons_zero, List.set_cons_succ]
      refine wpAnyH_take (i := 8) (oi := { dst := some 124, op := Op.fieldAddr 24 (Operand.tmp 13) 0, type := 0, pos := "laws.go:350", after := #[{ on := 7, ground := Ground.guard }], guard := some (7, true) }) (v := ?_) rfl (by kernel_rfl) (by kernel_rfl) (by kernel_rfl) (fun _ _ _ h => h) (Or.inl ⟨by rfl, ?_⟩) hHeld ?_
      rotate_left
      · rintro w ⟨z0, z1, z2, z3, z4, z5, z6, z7, z8, z9⟩; go_simp; (try with_reducible rfl)
      try simp only [Act.put, List.setIfInBounds_toArray, List.set_cons_zero, List.set_cons_succ]
      refine wpAnyH_take (i := 9) (oi := { dst := some 125, op := Op.load 2 (Operand.tmp 124), type := 2, pos := "laws.go:350", after := #[{ on := 8, ground := Ground.data }, { on := 7, ground := Ground.guard }], guard := some (7, true) }) (v := ?_) rfl (by kernel_rfl) (by kernel_rfl) (by kernel_rfl) (fun _ _ _ h => h) (Or.inl ⟨by rfl, ?_⟩) hHeld ?_
      rotate_left
      · rintro w ⟨z0, z1, z2, z3, z4, z5, z6, z7, z8, z9⟩; go_simp; (try with_reducible rfl)
      try simp only [Act.put, List.setIfInBounds_toArray, List.set_cons_zero, List.set_cons_succ]
      refine wpAnyH_take (i := 10) (oi := { dst := some 126, op := Op.binOp BinOp.gtr 2 (Operand.tmp 125) (Operand.const (Value.int IntKind.i64 1000000)) 2, type := 4, pos := "laws.go:350", after := #[{ on := 9, ground := Ground.data }, { on := 7, ground := Ground.guard }], guard := some (7, true) }) (v := ?_) rfl (by kernel_rfl) (by kernel_rfl) (by kernel_rfl) (fun _ _ _ h => h) (Or.inl ⟨by rfl, ?_⟩) hHeld ?_
      rotate_left
      · rintro w ⟨z0, z1, z2, z3, z4, z5, z6, z7, z8, z9⟩; go_simp; (try with_reducible rfl)
      try simp only [Act.put, List.setIfInBounds_toArray, List.set_cons_zero, List.set_cons_succ]
      refine wpAnyH_take (i := 11) (oi := { dst := some 127, op := Op.move (Operand.tmp 126), type := 4, pos := "laws.go:350", after := #[{ on := 10, ground := Ground.data }, { on := 7, ground := Ground.chain }, { on := 7, ground := Ground.guard }], guard := some (7, true) }) (v := ?_) rfl (by kernel_rfl) (by kernel_rfl) (by kernel_rfl) (fun _ _ _ h => h) (Or.inl ⟨by rfl, ?_⟩) hHeld ?_
      rotate_left
      · rintro w ⟨z0, z1, z2, z3, z4, z5, z6, z7, z8, z9⟩; go_simp; (try with_reducible rfl)
      try simp only [Act.put, List.setIfInBounds_toArray, List.set_cons_zero, List.set_cons_succ]
      refine wpAnyH_take (i := 12) (oi := { dst := some 128, op := Op.load 24 (Operand.tmp 13), type := 24, pos := "laws.go:350", after := #[{ on := 11, ground := Ground.guard }], guard := some (11, false) }) (v := ?_) rfl (by kernel_rfl) (by kernel_rfl) (by kernel_rfl) (fun _ _ _ h => h) (Or.inl ⟨by rfl, ?_⟩) hHeld ?_
      rotate_left
      · rintro w ⟨z0, z1, z2, z3, z4, z5, z6, z7, z8, z9⟩; go_simp; (try with_reducible rfl)
      try simp only [Act.put, List.setIfInBounds_toArray, List.set_cons_zero, List.set_cons_succ]
      refine wpAnyH_take (i := 13) (oi := { dst := some 129, op := Op.load 28 (Operand.tmp 7), type := 28, pos := "laws.go:350", after := #[{ on := 11, ground := Ground.guard }], guard := some (11, false) }) (v := ?_) rfl (by kernel_rfl) (by kernel_rfl) (by kernel_rfl) (fun _ _ _ h => h) (Or.inl ⟨by rfl, ?_⟩) hHeld ?_
      rotate_left
      · rintro w ⟨z0, z1, z2, z3, z4, z5, z6, z7, z8, z9⟩; go_simp; (try with_reducible rfl)
      try simp only [Act.put, List.setIfInBounds_toArray, List.set_cons_zero, List.set_cons_succ]
      refine wpAnyH_ready (rs := [14]) (by kernel_rfl) (by simp) ?_
      refine AllReadyH.cons rfl (fun K hK => ?_) AllReadyH.nil
      go_simp
      go_at_call 13
      refine (H2.out (by omega) _).mono ?_
      rintro r7 w7 ⟨rfl, hb⟩
      go_wp2_with fail
      refine hK.out _ _ (HS.out _ (i.up hb)) (fun _ => ?_)
      clear hK K hHeld
      try simp only [Act.put, List.setIfInBounds_toArray, List.set_cons_zero, List.set_cons_succ]
      refine rw.region_w (fun u => rw.Bel W2 u) (i.up hb) ?_
      clear i hb
      intro u i
      have hHeld : (u.cell? ⟨A, 0, none⟩ = some (.int .i64 m) ∧ u.cell? ⟨A, 1, none⟩ = some (.string x) ∧ u.cell? ⟨B, 0, none⟩ = some (.int .i64 n) ∧ u.cell? ⟨B, 1, none⟩ = some (.string b) ∧ u.cell? ⟨U, 0, none⟩ = some (.int .i64 f) ∧ u.cell? ⟨U, 1, none⟩ = some (.int .i64 to) ∧ u.cell? ⟨U, 2, none⟩ = some (.int .i64 k) ∧ u.cell? ⟨U, 3, none⟩ = some (.string tl) ∧ u.cell? ⟨D, 0, none⟩ = some (.int .i64 (m + 1)) ∧ u.cell? ⟨D, 1, none⟩ = some (.string x)) := HS.out u i
      refine wpAnyH_take (i := 15) (oi := { dst := some 131, op := Op.field 37 (Operand.tmp 130) 1, type := 2, pos := "laws.go:350", after := #[{ on := 14, ground := Ground.data }, { on := 11, ground := Ground.guard }], guard := some (11, false) }) (v := ?_) rfl (by kernel_rfl) (by kernel_rfl) (by kernel_rfl) (fun _ _ _ h => h) (Or.inl ⟨by rfl, ?_⟩) hHeld ?_
      rotate_left
      · rintro w ⟨z0, z1, z2, z3, z4, z5, z6, z7, z8, z9⟩; have hfc := fun u => st.fieldC 0 ⟨#[]⟩ 10 u; go_simp; (try with_reducible rfl)
      try simp only [Act.put, List.setIfInBounds_toArray, List.set_cons_zero, List.set_cons_succ]
      refine wpAnyH_take (i := 16) (oi := { dst := some 132, op := Op.binOp BinOp.eql 2 (Operand.tmp 131) (Operand.const (Value.int IntKind.i64 10)) 2, type := 4, pos := "laws.go:350", after := #[{ on := 15, ground := Ground.data }, { on := 11, ground := Ground.guard }], guard := some (11, false) }) (v := ?_) rfl (by kernel_rfl) (by kernel_rfl) (by kernel_rfl) (fun _ _ _ h => h) (Or.inl ⟨by rfl, ?_⟩) hHeld ?_
      rotate_left
      · rintro w ⟨z0, z1, z2, z3, z4, z5, z6, z7, z8, z9⟩; go_simp; (try with_reducible rfl)
      try simp only [Act.put, List.setIfInBounds_toArray, List.set_cons_zero, List.set_cons_succ]
      refine wpAnyH_take (i := 17) (oi := { dst := some 133, op := Op.pick (Operand.tmp 127) (Operand.const (Value.bool true)) (Operand.tmp 132), type := 4, pos := "laws.go:350", after := #[{ on := 11, ground := Ground.data }, { on := 16, ground := Ground.data }, { on := 7, ground := Ground.guard }], guard := some (7, true) }) (v := ?_) rfl (by kernel_rfl) (by kernel_rfl) (by kernel_rfl) (fun _ _ _ h => h) (Or.inl ⟨by rfl, ?_⟩) hHeld ?_
      rotate_left
      · rintro w ⟨z0, z1, z2, z3, z4, z5, z6, z7, z8, z9⟩; go_simp; (try with_reducible rfl)
      try simp only [Act.put, List.setIfInBounds_toArray, List.set_cons_zero, List.set_cons_succ]
      refine wpAnyH_take (i := 18) (oi := { dst := some 134, op := Op.pick (Operand.tmp 123) (Operand.tmp 133) (Operand.const (Value.bool false)), type := 4, pos := "laws.go:350", after := #[{ on := 7, ground := Ground.data }, { on := 17, ground := Ground.data }], guard := none }) (v := ?_) rfl (by kernel_rfl) (by kernel_rfl) (by kernel_rfl) (fun _ _ _ h => h) (Or.inl ⟨by rfl, ?_⟩) hHeld ?_
      rotate_left
      · rintro w ⟨z0, z1, z2, z3, z4, z5, z6, z7, z8, z9⟩; go_simp; (try with_reducible rfl)
      try simp only [Act.put, List.setIfInBounds_toArray, List.set_cons_zero, List.set_cons_succ]
      refine wpAnyH_take (i := 19) (oi := { dst := some 4, op := Op.assign (Operand.tmp 134), type := 4, pos := "laws.go:350", after := #[{ on := 18, ground := Ground.data }, { on := 14, ground := Ground.chain }, { on := 0, ground := Ground.phase }, { on := 1, ground := Ground.phase }, { on := 2, ground := Ground.phase }, { on := 3, ground := Ground.phase }, { on := 4, ground := Ground.phase }, { on := 5, ground := Ground.phase }, { on := 6, ground := Ground.phase }, { on := 7, ground := Ground.phase }, { on := 8, ground := Ground.phase }, { on := 9, ground := Ground.phase }, { on := 10, ground := Ground.phase }, { on := 11, ground := Ground.phase }, { on := 12, ground := Ground.phase }, { on := 13, ground := Ground.phase }, { on := 14, ground := Ground.phase }, { on := 15, ground := Ground.phase }, { on := 16, ground := Ground.phase }, { on := 17, ground := Ground.phase }, { on := 18, ground := Ground.phase }], guard := none }) (v := ?_) rfl (by kernel_rfl) (by kernel_rfl) (by kernel_rfl) (fun _ _ _ h => h) (Or.inl ⟨by rfl, ?_⟩) hHeld ?_
      rotate_left
      · rintro w ⟨z0, z1, z2, z3, z4, z5, z6, z7, z8, z9⟩; go_simp; (try with_reducible rfl)
      try simp only [Act.put, List.setIfInBounds_toArray, List.set_cons_zero, List.set_cons_succ]
      refine wpAnyH_done (by kernel_rfl) ?_ _
      refine NoPanic.normal ?_
      clear hHeld HS H1 H2
      have HB : Hid (Below w.heap.size w u) := HW2.out.trans ((show Below W2.heap.size W2 u from i).mono HW2.out.size)
      clear i HW2
      go_wp2
      go_ret
      exact ⟨rfl, HB.out⟩
end Go.Proofs.Ytmbeanimjmfddaa.sd
