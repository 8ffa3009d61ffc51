/-
  The law FnLog, walked, whatever the two rows of bytes: it tells true. Condition: the table of the rounds' numbers lies in its variable.
-/
import Derived.Test.YthpjpjefncnppaaDoorMg11
import Derived.Test.YthpjpjefncnppaaDoorMg7
import Derived.Test.YthpjpjefncnppaaDoorLgT
import Derived.Test.YthpjpjefncnppaaDoorLgRe
import Derived.Test.YthpjpjefncnppaaDoorLogR
import Derived.Test.YthpjpjefncnppaaDoorLogA
import Derived.Test.YthpjpjefncnppaaDoorLogV
import Derived.Test.YthpjpjefncnppaaDoorLgLn
import Derived.Deep.RegionHeld3
namespace Go.Proofs.YthpjpjefncnppaaDoor.fl
open Go.ChangeShapes Go.WideShapes Go.ChangeAt Go.RowKit
open Go.Proofs.YthpjpjefncnppaaDoor.wi (heap_lt calls_w wp_w)
open Go.Proofs.YthpjpjefncnppaaDoor.dr (Codes)
open Go.Proofs.YthpjpjefncnppaaDoor.dl
open Go.Proofs.YthpjpjefncnppaaDoor.lg Go.Proofs.YthpjpjefncnppaaDoor.ss
open Go.Proofs.YthpjpjefncnppaaDoor.sh (macB Tab Tab.up)
set_option linter.unusedVariables false
set_option linter.unusedSimpArgs false

/-- what is known behind the first reading -/
structure InF (w : World) (v : Value) (l : List ByteArray) (qx : Nat) (vx : Value) (i k : Int) (u : World) : Prop where
  recs : Recs w v l u
  wx : u.heap[qx]? = some (.cells #[vx, .int .i64 i, .int .i64 k] 36 (0, 0))
  sx : SliceIs u vx l
theorem InF.up {w u u' : World} {v : Value} {l : List ByteArray} {qx : Nat} {vx : Value} {i k : Int} (h : InF w v l qx vx i k u) (hb : Below u.heap.size u u') : InF w v l qx vx i k u' := ⟨h.recs.up hb, (hb.block _ (heap_lt h.wx)).trans h.wx, h.sx.up hb⟩
/-- and behind the second -/
structure InG (w : World) (v : Value) (l : List ByteArray) (qx : Nat) (vx : Value) (i k : Int) (qy : Nat) (vy : Value) (iy : Int) (ly : List ByteArray) (u : World) : Prop where
  one : InF w v l qx vx i k u
  wy : u.heap[qy]? = some (.cells #[vy, .int .i64 iy, .int .i64 0] 36 (0, 0))
  sy : SliceIs u vy ly
theorem InG.up {w u u' : World} {v : Value} {l : List ByteArray} {qx : Nat} {vx : Value} {i k : Int} {qy : Nat} {vy : Value} {iy : Int} {ly : List ByteArray} (h : InG w v l qx vx i k qy vy iy ly u) (hb : Below u.heap.size u u') : InG w v l qx vx i k qy vy iy ly u' := ⟨h.one.up hb, (hb.block _ (heap_lt h.wy)).trans h.wy, h.sy.up hb⟩
theorem InG.cells {w u : World} {v : Value} {l : List ByteArray} {qx : Nat} {vx : Value} {i k : Int} {qy : Nat} {vy : Value} {iy : Int} {ly : List ByteArray} (h : InG w v l qx vx i k qy vy iy ly u) : (u.cell? ⟨qx, 0, none⟩ = some vx ∧ u.cell? ⟨qx, 1, none⟩ = some (.int .i64 i) ∧ u.cell? ⟨qx, 2, none⟩ = some (.int .i64 k)) ∧ (u.cell? ⟨qy, 0, none⟩ = some vy ∧ u.cell? ⟨qy, 1, none⟩ = some (.int .i64 iy) ∧ u.cell? ⟨qy, 2, none⟩ = some (.int .i64 0)) := by
  refine ⟨⟨?_, ?_, ?_⟩, ?_, ?_, ?_⟩ <;> simp [World.cell?, h.one.wx, h.wy]
theorem InG.drew {w u : World} {v : Value} {l : List ByteArray} {qx : Nat} {vx : Value} {i k : Int} {qy : Nat} {vy : Value} {iy : Int} {ly : List ByteArray} (h : InG w v l qx vx i k qy vy iy ly u) : InG w v l qx vx i k qy vy iy ly u.drew := h.up ⟨rfl, rfl, rfl, Nat.le_refl _, fun _ _ => rfl⟩
theorem fieldA (n : Int) (c : ByteArray) (u : World) : (Instr.field 41 (.agg #[.int .i64 n, .string c]) 1).run Tryd.prog u = .ok (.string c) u := by kernel_rfl
set_option maxRecDepth 20000 in
set_option maxHeartbeats 8000000 in
theorem logCore (a0 : Option Addr) (len0 cap0 : Nat) (a1 : Option Addr) (len1 cap1 : Nat) (w : World) (c0 : Codes w w.heap.size a0 len0) (c1 : Codes w w.heap.size a1 len1) (hT : Tab w) :
    Calls Tryd.prog 3 #[.slice a0 len0 cap0, .slice a1 len1 cap1] w fun e w' => e = .returned (.bool true) ∧ Below w.heap.size w w' := by
  have HC0 : Hid (∀ u, Below w.heap.size w u → Codes u u.heap.size a0 len0) := fun u hu => dn.codes_later c0 hu
  have HC1 : Hid (∀ u, Below w.heap.size w u → Codes u u.heap.size a1 len1) := fun u hu => dn.codes_later c1 hu
  have HT : Hid (∀ u, Below w.heap.size w u → Tab u) := fun u hu => hT.up hu
  have l0 := c0.1
  have l1 := c1.1
  clear c1 hT
  go_enter Tryd.func3, Tryd.ntmps3
  go_wp2_with (go_at_call 6; fail)
  refine (drawText_any a0 len0 cap0 w c0).mono ?_
  rintro r w1 ⟨key, v, l, rfl, hk, hR1⟩
  clear c0
  obtain ⟨p, cp, rfl⟩ := hR1.shape
  have hti := li.textI_any key _ l w1 (Nat.le_trans hk (by decide)) hR1.sizes.1 hR1.sizes.2 (HT.out w1 hR1.below) hR1.slice
  have hTM : Hid (∀ u, Recs w (.slice p l.length cp) l u → Calls Tryd.prog 12 #[.string key, .slice p l.length cp] u fun r w' => r = .returned (.string (logT macB key l)) ∧ Below u.heap.size u w') := fun u hu => lm.textM_any key _ l u (Nat.le_trans hk (by decide)) hu.sizes.1 hu.sizes.2 hu.slice
  go_wp2_with (go_at_call 7; fail)
  refine hti.mono ?_
  rintro r w2 ⟨rfl, hb2⟩
  have hR2 := hR1.up hb2
  clear hR1 hb2 hti
  go_wp2_with (go_at_call 8; fail)
  refine (drawRead_any a1 len1 cap1 w2 (HC1.out w2 hR2.below)).mono ?_
  rintro r w3 ⟨k, u0, rfl, hk3, hu3, hb3⟩
  have hR3 := hR2.up hb3
  clear hR2 hb3
  go_wp2_with (go_at_call 9; fail)
  refine (drawNext_any a1 len1 cap1 w3 (HC1.out w3 hR3.below)).mono ?_
  rintro r w4 ⟨kc, pc, rc, rfl, hkc, hpc, hrc, hb4⟩
  have hR4 := hR3.up hb4
  clear hR3 hb4
  go_wp2_with (go_at_call 10; fail)
  refine (drawStart_any a0 len0 cap0 w4 (HC0.out w4 hR4.below)).mono ?_
  rintro r w5 ⟨ks, rfl, hks, hb5⟩
  have hR5 := hR4.up hb5
  clear hR4 hb5
  go_wp2_with (go_at_call 11; fail)
  refine (drawAnchor_any a1 len1 cap1 w5 (HC1.out w5 hR5.below)).mono ?_
  rintro r w6 ⟨ka, va, la, n, rfl, hka, hn6, hRa⟩
  have hR6 := hR5.up hRa.below
  obtain ⟨pa, ca, rfl⟩ := hRa.shape
  clear hR5
  obtain ⟨t, ht⟩ : ∃ t, t = logT macB key l := ⟨_, rfl⟩
  have HTe : Hid (t = logT macB key l) := ht
  rw [← ht] at hTM ⊢
  clear ht
  have qt : (t.toList == t.toList) = true := by simp
  go_wp2_with (go_at_call 12; fail)
  refine (hTM.out w6 hR6).mono ?_
  rintro r w7 ⟨rfl, hb7⟩
  have hR7 := hR6.up hb7
  have hRa7 := hRa.up hb7
  clear hR6 hRa hb7 hTM
  obtain ⟨lx, ix, kx, hLx⟩ : ∃ lx ix kx, logR macB k u0 = (lx, ix, kx) := ⟨_, _, _, rfl⟩
  have hlx := ll.logR_len k u0
  rw [hLx] at hlx
  have hx1 := li.readI_any k u0 w7 (Nat.le_trans hk3 (by decide)) (Nat.le_trans hu3 (by decide)) (HT.out w7 hR7.below)
  have HX2 : Hid (∀ u, Calls Tryd.prog 15 #[.string k, .string u0] u (lm.ReadPost u (lx, ix, kx))) := fun u => by
    have := lm.readM_any k u0 u (Nat.le_trans hk3 (by decide)) (Nat.le_trans hu3 (by decide))
    rwa [hLx] at this
  rw [hLx] at hx1
  clear hLx
  go_wp2_with (go_at_call 14; fail)
  refine hx1.mono ?_
  rintro r w8 ⟨vx, rfl, hb8, hox⟩
  have hR8 := hR7.up hb8
  have hRa8 := hRa7.up hb8
  have hsx := lm.own_slice hox
  clear hx1 hR7 hRa7 hb8 hox
  obtain ⟨px, cx, rfl⟩ := hsx.shape
  go_wp2_with (go_at_call 15; fail)
  refine (HX2.out w8).mono ?_
  rintro r w9 ⟨vy, rfl, hb9, hoy⟩
  have hR9 := hR8.up hb9
  have hRa9 := hRa8.up hb9
  have hsx9 := hsx.up hb9
  have hsy := lm.own_slice hoy
  clear HX2 hR8 hRa8 hb9 hoy hsx
  obtain ⟨py, cy, rfl⟩ := hsy.shape
  have hlw := lw.lwLog_any _ _ ix kx lx w9 (Nat.le_trans hlx (by decide)) hsx9 hsy
  clear hsx9 hsy
  go_wp2_with (go_at_call 13; fail)
  refine hlw.mono ?_
  rintro r w10 ⟨rfl, hb10⟩
  have hR10 := hR9.up hb10
  have hRa10 := hRa9.up hb10
  clear hlw hR9 hRa9 hb10
  have hn1 := li.nextI_any kc pc rc w10 (Nat.le_trans hkc (by decide)) (Nat.le_trans hpc (by decide)) (Nat.le_trans hrc (by decide)) (HT.out w10 hR10.below)
  have hn2 := fun u => lm.nextM_any kc pc rc u (Nat.le_trans hkc (by decide)) (Nat.le_trans hpc (by decide)) (Nat.le_trans hrc (by decide))
  generalize chainN macB kc pc rc = cn at *
  have qn : (cn.toList == cn.toList) = true := by simp
  have HN2 : Hid (∀ u, Calls Tryd.prog 17 #[.string kc, .string pc, .string rc] u fun e w' => e = .returned (.string cn) ∧ Below u.heap.size u w') := hn2
  clear hn2
  go_wp2_with (go_at_call 16; fail)
  refine hn1.mono ?_
  rintro r w11 ⟨rfl, hb11⟩
  have hR11 := hR10.up hb11
  have hRa11 := hRa10.up hb11
  clear hn1 hR10 hRa10 hb11
  go_wp2_with (go_at_call 17; fail)
  refine (HN2.out w11).mono ?_
  rintro r w12 ⟨rfl, hb12⟩
  have hR12 := hR11.up hb12
  have hRa12 := hRa11.up hb12
  clear HN2 hR11 hRa11 hb12
  have hs1 := li.startI_any ks w12 (Nat.le_trans hks (by decide)) (HT.out w12 hR12.below)
  have hs2 := fun u => lm.startM_any ks u (Nat.le_trans hks (by decide))
  generalize chainS macB ks = cs at *
  have qs : (cs.toList == cs.toList) = true := by simp
  have HS2 : Hid (∀ u, Calls Tryd.prog 19 #[.string ks] u fun e w' => e = .returned (.string cs) ∧ Below u.heap.size u w') := hs2
  clear hs2
  go_wp2_with (go_at_call 18; fail)
  refine hs1.mono ?_
  rintro r w13 ⟨rfl, hb13⟩
  have hR13 := hR12.up hb13
  have hRa13 := hRa12.up hb13
  clear hs1 hR12 hRa12 hb13
  go_wp2_with (go_at_call 19; fail)
  refine (HS2.out w13).mono ?_
  rintro r w14 ⟨rfl, hb14⟩
  have hR14 := hR13.up hb14
  have hRa14 := hRa13.up hb14
  clear HS2 hR13 hRa13 hb14
  have ha1 := li.anchorI_any ka _ la (n : Int) w14 (Nat.le_trans hka (by decide)) hRa14.sizes.1 hRa14.sizes.2 (HT.out w14 hR14.below) hRa14.slice hRa14.capd
  have HA2 : Hid (∀ u, SliceIs u (.slice pa la.length ca) la → Calls Tryd.prog 21 #[.string ka, .slice pa la.length ca, .int .i64 (n : Int)] u fun r w' => r = .returned (lm.outA (anchorA macB ka la (n : Int))) ∧ Below u.heap.size u w') := fun u hu => lm.anchorM_any ka _ la (n : Int) u (Nat.le_trans hka (by decide)) hRa14.sizes.1 hRa14.sizes.2 hu
  obtain ⟨an, ac, hAn⟩ : ∃ an ac, anchorA macB ka la (n : Int) = (an, ac) := ⟨_, _, rfl⟩
  rw [hAn] at ha1 HA2
  unfold lm.outA at ha1 HA2
  clear hAn
  go_wp2_with (go_at_call 20; fail)
  refine ha1.mono ?_
  rintro r w15 ⟨rfl, hb15⟩
  have hR15 := hR14.up hb15
  have hRa15 := hRa14.up hb15
  clear ha1 hR14 hRa14 hb15
  go_wp2_with (go_at_call 21; fail)
  refine (HA2.out w15 hRa15.slice).mono ?_
  rintro r w16 ⟨rfl, hb16⟩
  have hR16 := hR15.up hb16
  clear HA2 hR15 hRa15 hb16
  have qi : (an == an) = true := by simp
  have qc : (ac.toList == ac.toList) = true := by simp
  by_cases ht0 : t = ⟨#[]⟩
  · have HBf : Hid (Below w.heap.size w w16) := hR16.below
    subst ht0
    clear hR16 HTe HT HC0 HC1
    go_wp2
    go_ret
    exact ⟨rfl, HBf.out⟩
  · have hrl : RecsL key l := by
      by_cases h : RecsL key l
      · exact h
      · exact absurd (HTe.out.trans (logT_no h)) ht0
    have hz8 : (logB macB key l).size ≤ 8000 := by
      by_cases h : (logB macB key l).size ≤ 8000
      · exact h
      · exact absurd (HTe.out.trans (logT_long (by omega))) ht0
    have htB : t = logB macB key l := HTe.out.trans (logT_yes hrl hz8)
    have hl1 : 1 ≤ l.length := by
      rcases Nat.eq_zero_or_pos l.length with h | h
      · exact absurd (by rw [htB, List.eq_nil_of_length_eq_zero h]; rfl) ht0
      · exact h
    obtain ⟨g, hg0⟩ : ∃ g, p = some ⟨g, 0, none⟩ := by
      rcases hR16.row.2 with ⟨h, h2⟩ | ⟨g, c2, cur, h, _⟩
      · omega
      · simp only [Value.slice.injEq] at h
        exact ⟨g, h.1⟩
    subst hg0
    have hts : t.size ≤ 8000 := by rw [htB]; exact hz8
    have ht1 : 1 ≤ t.size := by
      rcases Nat.eq_zero_or_pos t.size with h | h
      · exact absurd (by apply ByteArray.ext; apply Array.ext'; have : t.data.toList.length = 0 := by simpa using h
                         rw [List.eq_nil_of_length_eq_zero this]) ht0
      · exact h
    have hLx : logR macB key t = (l, (t.size : Int), 0) := by
      rw [lm.logR_yes hrl.2.1 hts, htB, read_back lm.macB_32 hrl hz8]
    have hkm : key.size ≤ maxLen := Nat.le_trans hk (by decide)
    have q0 := beqF ht0
    have HX : Hid (∀ u, Below w.heap.size w u → Calls Tryd.prog 14 #[.string key, .string t] u (lm.ReadPost u (l, (t.size : Int), 0))) := fun u hu => by
      have := li.readI_any key t u hkm (Nat.le_trans hts (by decide)) (HT.out u hu)
      rwa [hLx] at this
    have HY : Hid (∀ m0, m0 ≤ t.size → ∃ l' i', (∃ m, l = l' ++ m) ∧ l'.length ≤ 60 ∧ ∀ u, Below w.heap.size w u → Calls Tryd.prog 14 #[.string key, .string (t.extract 0 m0)] u (lm.ReadPost u (l', i', 0))) := fun m0 hm0 => by
      have hsz : (t.extract 0 m0).size ≤ 8000 := by rw [ByteArray.size_extract]; omega
      have hpre : Pre (t.extract 0 m0) t := ⟨t.data.toList.drop m0, by rw [extract_list, List.drop_zero, Nat.sub_zero, List.take_append_drop]⟩
      have hrb : (readL macB key t).1 = l := by rw [htB, read_back lm.macB_32 hrl hz8]
      obtain ⟨m, hm⟩ := readL_pre (mac := macB) (key := key) hpre (by omega)
      refine ⟨(readL macB key (t.extract 0 m0)).1, (readL macB key (t.extract 0 m0)).2, ⟨m, by rw [← hm, hrb]⟩, (readL_right hrl.2.1).2.2, fun u hu => ?_⟩
      have := li.readI_any key (t.extract 0 m0) u hkm (Nat.le_trans hsz (by decide)) (HT.out u hu)
      rwa [lm.logR_yes hrl.2.1 hsz] at this
    have HLA : Hid (∀ u, Below w.heap.size w u → Calls Tryd.prog 22 #[.slice a1 len1 cap1, .int .i64 0, .int .i64 256] u fun e w' => (∃ v : Nat, e = .returned (.int .i64 (v : Int)) ∧ v < 256) ∧ w' = u) := fun u hu => lw.lwAt_any a1 len1 cap1 256 u (HC1.out u hu) (by omega) (by omega)
    clear htB hz8 HTe hLx HC0 HC1
    have qe : t.toList.isEmpty = false := by
      rw [List.isEmpty_eq_false_iff]
      intro e
      rw [ByteArray.toList_eq] at e
      have h0 : t.size = 0 := by rw [← len_data, e]; rfl
      omega
    go_wp2_with (go_at_call 14; fail)
    refine (HX.out w16 hR16.below).mono ?_
    rintro r w17 ⟨vx, rfl, hb17, hox⟩
    have hR17 := hR16.up hb17
    have hsx := lm.own_slice hox
    clear hR16 hb17 hox HX
    obtain ⟨px, cx, rfl⟩ := hsx.shape
    have i18 : InF w (.slice (some ⟨g, 0, none⟩) l.length cp) l w17.heap.size (.slice px l.length cx) (t.size : Int) 0 (w17.alloc (.cells #[.slice px l.length cx, .int .i64 (t.size : Int), .int .i64 0] 36)) := by
      have hb : Below w17.heap.size w17 (w17.alloc (.cells #[.slice px l.length cx, .int .i64 (t.size : Int), .int .i64 0] 36)) := (Below.refl _ _).alloc (Nat.le_refl _) _
      exact ⟨hR17.up hb, heap_alloc_new _ _, hsx.up hb⟩
    clear hR17 hsx
    go_wp2_with (go_at_call 22; fail)
    obtain ⟨qx, hqx⟩ : ∃ q, q = w17.heap.size := ⟨_, rfl⟩
    rw [← hqx] at i18 ⊢
    refine calls_w (InF w (.slice (some ⟨g, 0, none⟩) l.length cp) l qx (.slice px l.length cx) (t.size : Int) 0) i18 ?_
    clear i18 hqx
    intro u18 i18
    refine (HLA.out u18 i18.recs.below).mono ?_
    rintro r w18 ⟨⟨v0, rfl, hv0⟩, hw18⟩
    obtain rfl := hw18.symm
    obtain ⟨m0, hm0, hm1⟩ : ∃ m0 : Nat, (v0 : Int) % (t.size : Int) = (m0 : Int) ∧ m0 < t.size := ⟨v0 % t.size, by rw [Int.natCast_emod], Nat.mod_lt _ (by omega)⟩
    obtain ⟨ly, iy, hpre, hly, hY2⟩ := HY.out m0 (by omega)
    have HY2 : Hid (∀ u, Below w.heap.size w u → Calls Tryd.prog 14 #[.string key, .string (t.extract 0 m0)] u (lm.ReadPost u (ly, iy, 0))) := hY2
    clear hY2 HY HLA
    go_wp2_with (go_at_call 14; fail)
    refine (HY2.out u18 i18.recs.below).mono ?_
    rintro r w19 ⟨vy, rfl, hb19, hoy⟩
    have i19 := i18.up hb19
    have hsy := lm.own_slice hoy
    clear i18 hb19 hoy HY2
    obtain ⟨py, cy, rfl⟩ := hsy.shape
    have i20 : InG w (.slice (some ⟨g, 0, none⟩) l.length cp) l qx (.slice px l.length cx) (t.size : Int) 0 w19.heap.size (.slice py ly.length cy) iy ly (w19.alloc (.cells #[.slice py ly.length cy, .int .i64 iy, .int .i64 0] 36)) := by
      have hb : Below w19.heap.size w19 (w19.alloc (.cells #[.slice py ly.length cy, .int .i64 iy, .int .i64 0] 36)) := (Below.refl _ _).alloc (Nat.le_refl _) _
      exact ⟨i19.up hb, heap_alloc_new _ _, hsy.up hb⟩
    clear i19 hsy
    obtain ⟨qy, hqy⟩ : ∃ q, q = w19.heap.size := ⟨_, rfl⟩
    go_wp2_with fail
    rw [← hqy] at i20 ⊢
    refine wp_w (InG w (.slice (some ⟨g, 0, none⟩) l.length cp) l qx (.slice px l.length cx) (t.size : Int) 0 qy (.slice py ly.length cy) iy ly) i20 ?_
    clear i20 hqy
    intro u21 i21
    have i22 := InG.drew i21
    obtain ⟨d, hd'⟩ : ∃ d, l.length = d + 1 := ⟨l.length - 1, by omega⟩
    have hd : Hid (l.length = d + 1) := hd'
    have hdlt : d < l.length := by omega
    have hdle : d < 1048576 := by have := i21.one.recs.few; omega
    obtain ⟨rd, hrd⟩ : ∃ rd, rd = l.getD d ⟨#[]⟩ := ⟨_, rfl⟩
    have hdI : ((l.length : Int) - 1) = (d : Int) := by omega
    clear hd'
    have hkey := hrl.2.1
    have hpre2 : l.take ly.length = ly := by
      obtain ⟨m, rfl⟩ := hpre
      simp
    have hle : ly.length ≤ l.length := by
      obtain ⟨m, rfl⟩ := hpre
      simp
    have hls := i21.one.recs.sizes
    have HS : Hid (∀ u, InG w (.slice (some ⟨g, 0, none⟩) l.length cp) l qx (.slice px l.length cx) (t.size : Int) 0 qy (.slice py ly.length cy) iy ly u → (((u.cell? ⟨qx, 0, none⟩ = some (.slice px l.length cx) ∧ u.cell? ⟨qx, 1, none⟩ = some (.int .i64 (t.size : Int)) ∧ u.cell? ⟨qx, 2, none⟩ = some (.int .i64 0)) ∧ (u.cell? ⟨qy, 0, none⟩ = some (.slice py ly.length cy) ∧ u.cell? ⟨qy, 1, none⟩ = some (.int .i64 iy) ∧ u.cell? ⟨qy, 2, none⟩ = some (.int .i64 0))) ∧ u.cell? ⟨g, d, none⟩ = some (.string rd))) := fun u hu => by
      refine ⟨hu.cells, ?_⟩
      rw [hrd, hu.one.recs.row.cellAt d (by omega), List.getElem?_map, List.getElem?_eq_getElem hdlt, getD_at hdlt]; rfl
    have HLL : Hid (∀ u, InG w (.slice (some ⟨g, 0, none⟩) l.length cp) l qx (.slice px l.length cx) (t.size : Int) 0 qy (.slice py ly.length cy) iy ly u → Calls Tryd.prog 13 #[.agg #[.slice px l.length cx, .int .i64 (t.size : Int), .int .i64 0], .agg #[.slice (some ⟨g, 0, none⟩) l.length cp, .int .i64 (t.size : Int), .int .i64 0]] u fun r w' => r = .returned (.bool true) ∧ Below u.heap.size u w') := fun u hu => lw.lwLog_any _ _ _ _ l u hls.1 hu.one.sx hu.one.recs.slice
    have HLT : Hid (∀ u, InG w (.slice (some ⟨g, 0, none⟩) l.length cp) l qx (.slice px l.length cx) (t.size : Int) 0 qy (.slice py ly.length cy) iy ly u → Calls Tryd.prog 23 #[.slice py ly.length cy, .slice (some ⟨g, 0, none⟩) ly.length cp] u fun r w' => r = .returned (.bool true) ∧ Below u.heap.size u w') := fun u hu => by
      have hs2 : SliceIs u (.slice (some ⟨g, 0, none⟩) ly.length cp) ly := by
        have h := hu.one.recs.slice
        rcases h with ⟨p2, c2, hl0, _⟩ | ⟨b, off, c2, hb, he, hRw⟩
        · rw [hl0] at hdlt; simp at hdlt
        · simp only [Value.slice.injEq, Option.some.injEq, Addr.mk.injEq] at he
          obtain ⟨⟨rfl, rfl, _⟩, _, rfl⟩ := he
          refine .inr ⟨g, 0, cp, hb, rfl, fun j hj => ?_⟩
          rw [hRw j (by omega), getD_at hj, getD_at (by omega)]
          congr 2
          have := congrArg (fun z => z[j]?) hpre2
          simp only [List.getElem?_take_of_lt hj] at this
          rw [List.getElem?_eq_getElem (by omega), List.getElem?_eq_getElem hj] at this
          exact Option.some.inj this
      have := lw.lwTexts_any _ _ ly ly u (Nat.le_trans hly (by decide)) (Nat.le_trans hly (by decide)) hu.sy hs2
      rwa [decide_eq_true rfl] at this
    have hcz : chain macB key l = chainN macB key (chain macB key (l.take d)) rd := by
      have h := chain_step (mac := macB) (key := key) (l := l) (k := d) hdlt
      rw [hrd, getD_at hdlt, ← h, ← hd.out, List.take_length]
    obtain ⟨cz, hcz2⟩ : ∃ cz, cz = chain macB key l := ⟨_, rfl⟩
    obtain ⟨c1, hc1⟩ : ∃ c1, c1 = chain macB key (l.take d) := ⟨_, rfl⟩
    have HA1 : Hid (∀ u, InG w (.slice (some ⟨g, 0, none⟩) l.length cp) l qx (.slice px l.length cx) (t.size : Int) 0 qy (.slice py ly.length cy) iy ly u → Calls Tryd.prog 20 #[.string key, .slice (some ⟨g, 0, none⟩) l.length cp, .int .i64 (l.length : Int)] u fun r w' => r = .returned (.agg #[.int .i64 (l.length : Int), .string cz]) ∧ Below u.heap.size u w') := fun u hu => by
      have := li.anchorI_any key _ l (l.length : Int) u hkm hls.1 hls.2 (HT.out u hu.one.recs.below) hu.one.recs.slice hu.one.recs.capd
      rw [lm.anchorA_yes hrl (Nat.le_refl _), List.take_length, ← hcz2] at this
      exact this
    have HA0 : Hid (∀ u, InG w (.slice (some ⟨g, 0, none⟩) l.length cp) l qx (.slice px l.length cx) (t.size : Int) 0 qy (.slice py ly.length cy) iy ly u → Calls Tryd.prog 20 #[.string key, .slice (some ⟨g, 0, none⟩) l.length cp, .int .i64 (d : Int)] u fun r w' => r = .returned (.agg #[.int .i64 (d : Int), .string c1]) ∧ Below u.heap.size u w') := fun u hu => by
      have := li.anchorI_any key _ l (d : Int) u hkm hls.1 hls.2 (HT.out u hu.one.recs.below) hu.one.recs.slice hu.one.recs.capd
      rw [lm.anchorA_yes hrl (Nat.le_of_lt hdlt), ← hc1] at this
      exact this
    have hc1s : c1.size ≤ 32 := by rw [hc1]; exact lm.chain_le key _
    have hrs : rd.size ≤ 200 := by rw [hrd, getD_at hdlt]; exact hrl.1 _ (List.getElem_mem _)
    have HN : Hid (∀ u, InG w (.slice (some ⟨g, 0, none⟩) l.length cp) l qx (.slice px l.length cx) (t.size : Int) 0 qy (.slice py ly.length cy) iy ly u → Calls Tryd.prog 16 #[.string key, .string c1, .string rd] u fun e w' => e = .returned (.string cz) ∧ Below u.heap.size u w') := fun u hu => by
      have := li.nextI_any key c1 rd u hkm (Nat.le_trans hc1s (by decide)) (Nat.le_trans hrs (by decide)) (HT.out u hu.one.recs.below)
      rw [hc1, ← hcz, ← hcz2] at this
      rw [hc1]
      exact this
    have fA := fieldA
    have qz : (cz.toList == cz.toList) = true := by simp
    have hwd : IntKind.i64.wrap (d : Int) = (d : Int) := by rw [IntKind.wrap_i64]; omega
    have hdz : (d : Int) < (l.length : Int) := by omega
    have dgt : decide ((l.length : Int) < (ly.length : Int)) = false := decide_eq_false (by omega)
    have hll7 := i21.one.recs.few
    have hcapl := (i21.one.recs.capd _ _ _ rfl).1
    have hcapm := (i21.one.recs.capd _ _ _ rfl).2
    have hlc : ly.length ≤ cp := Nat.le_trans hle hcapl
    clear hcz hcz2 hc1 hrd hpre hpre2 HT hkey hrl
    refine wp_region_noPanic ?_
    refine wp_region_held_drew (S := fun u => ((u.cell? ⟨qx, 0, none⟩ = some (.slice px l.length cx) ∧ u.cell? ⟨qx, 1, none⟩ = some (.int .i64 (t.size : Int)) ∧ u.cell? ⟨qx, 2, none⟩ = some (.int .i64 0)) ∧ (u.cell? ⟨qy, 0, none⟩ = some (.slice py ly.length cy) ∧ u.cell? ⟨qy, 1, none⟩ = some (.int .i64 iy) ∧ u.cell? ⟨qy, 2, none⟩ = some (.int .i64 0))) ∧ u.cell? ⟨g, d, none⟩ = some (.string rd)) (by kernel_rfl) (HS.out _ i22) (fun hHeld => ?_)
    refine wpAnyH_take (i := 0) (oi := { dst := some 115, op := Op.load 36 (Operand.tmp 17), type := 36, pos := "laws.go:221", after := #[], guard := none }) (v := ?_) rfl (by kernel_rfl) (by kernel_rfl) (by kernel_rfl) (fun _ _ _ h => h) (Or.inl ⟨by rfl, ?_⟩) hHeld ?_
    rotate_left
    · rintro w ⟨⟨⟨z0, z1, z2⟩, ⟨y0, y1, y2⟩⟩, x0⟩; go_simp; (try with_reducible rfl)
    try simp only [Act.put, List.setIfInBounds_toArray, List.set_cons_zero, List.set_cons_succ]
    refine wpAnyH_take (i := 1) (oi := { dst := some 116, op := Op.move (Operand.tmp 6), type := 23, pos := "laws.go:221", after := #[], guard := none }) (v := ?_) rfl (by kernel_rfl) (by kernel_rfl) (by kernel_rfl) (fun _ _ _ h => h) (Or.inl ⟨by rfl, ?_⟩) hHeld ?_
    rotate_left
    · rintro w ⟨⟨⟨z0, z1, z2⟩, ⟨y0, y1, y2⟩⟩, x0⟩; go_simp; (try with_reducible rfl)
    try simp only [Act.put, List.setIfInBounds_toArray, List.set_cons_zero, List.set_cons_succ]
    refine wpAnyH_take (i := 2) (oi := { dst := some 117, op := Op.move (Operand.tmp 7), type := 9, pos := "laws.go:221", after := #[], guard := none }) (v := ?_) rfl (by kernel_rfl) (by kernel_rfl) (by kernel_rfl) (fun _ _ _ h => h) (Or.inl ⟨by rfl, ?_⟩) hHeld ?_
    rotate_left
    · rintro w ⟨⟨⟨z0, z1, z2⟩, ⟨y0, y1, y2⟩⟩, x0⟩; go_simp; (try with_reducible rfl)
    try simp only [Act.put, List.setIfInBounds_toArray, List.set_cons_zero, List.set_cons_succ]
    refine wpAnyH_take (i := 3) (oi := { dst := some 118, op := Op.call { callee := Callee.builtin Builtin.len, args := #[Operand.tmp 117], argTypes := #[9] }, type := 3, pos := "laws.go:221", after := #[{ on := 2, ground := Ground.data }], guard := none }) (v := ?_) rfl (by kernel_rfl) (by kernel_rfl) (by kernel_rfl) (fun _ _ _ h => h) (Or.inl ⟨by rfl, ?_⟩) hHeld ?_
    rotate_left
    · rintro w ⟨⟨⟨z0, z1, z2⟩, ⟨y0, y1, y2⟩⟩, x0⟩; go_simp; (try with_reducible rfl)
    try simp only [Act.put, List.setIfInBounds_toArray, List.set_cons_zero, List.set_cons_succ]
    refine wpAnyH_take (i := 4) (oi := { dst := some 119, op := Op.build 36 #[(0, Operand.tmp 116), (1, Operand.tmp 118)], type := 36, pos := "laws.go:221", after := #[{ on := 1, ground := Ground.data }, { on := 3, ground := Ground.data }], guard := none }) (v := ?_) rfl (by kernel_rfl) (by kernel_rfl) (by kernel_rfl) (fun _ _ _ h => h) (Or.inl ⟨by rfl, ?_⟩) hHeld ?_
    rotate_left
    · rintro w ⟨⟨⟨z0, z1, z2⟩, ⟨y0, y1, y2⟩⟩, x0⟩; go_simp; (try with_reducible rfl)
    try simp only [Act.put, List.setIfInBounds_toArray, List.set_cons_zero, List.set_cons_succ]
    refine wpAnyH_ready (rs := [5]) (by kernel_rfl) (by simp) ?_
    refine AllReadyH.cons rfl (fun K hK => ?_) AllReadyH.nil
    go_simp
    go_at_call 13
    refine (HLL.out _ i22).mono ?_
    rintro ek1 uk1 ⟨rfl, hbk1⟩
    have ik1 := (i22).up hbk1
    go_wp2_with fail
    refine hK.out _ _ (HS.out _ ik1) (fun hHeld => ?_)
    clear hbk1
    clear hK K
    try simp only [Act.put, List.setIfInBounds_toArray, List.set_cons_zero, List.set_cons_succ]
    refine wpAnyH_take (i := 6) (oi := { dst := some 121, op := Op.unOp UnOp.not 4 (Operand.tmp 120), type := 4, pos := "laws.go:221", after := #[{ on := 5, ground := Ground.data }], guard := none }) (v := .bool false) rfl (by kernel_rfl) (by kernel_rfl) (by kernel_rfl) (fun _ _ _ h => h) (Or.inl ⟨by rfl, ?_⟩) hHeld ?_
    · rintro w ⟨⟨⟨z0, z1, z2⟩, ⟨y0, y1, y2⟩⟩, x0⟩; go_simp; (try with_reducible rfl)
    try simp only [Act.put, List.setIfInBounds_toArray, List.set_cons_zero, List.set_cons_succ]
    refine wpAnyH_take (i := 7) (oi := { dst := some 122, op := Op.move (Operand.tmp 121), type := 4, pos := "laws.go:221", after := #[{ on := 6, ground := Ground.data }, { on := 5, ground := Ground.chain }], guard := none }) (v := .bool false) rfl (by kernel_rfl) (by kernel_rfl) (by kernel_rfl) (fun _ _ _ h => h) (Or.inl ⟨by rfl, ?_⟩) hHeld ?_
    · rintro w ⟨⟨⟨z0, z1, z2⟩, ⟨y0, y1, y2⟩⟩, x0⟩; go_simp; (try with_reducible rfl)
    try simp only [Act.put, List.setIfInBounds_toArray, List.set_cons_zero, List.set_cons_succ]
    refine wpAnyH_take (i := 8) (oi := { dst := some 123, op := Op.fieldAddr 36 (Operand.tmp 18) 0, type := 0, pos := "laws.go:221", after := #[{ on := 7, ground := Ground.guard }], guard := some (7, false) }) (v := ?_) rfl (by kernel_rfl) (by kernel_rfl) (by kernel_rfl) (fun _ _ _ h => h) (Or.inl ⟨by rfl, ?_⟩) hHeld ?_
    rotate_left
    · rintro w ⟨⟨⟨z0, z1, z2⟩, ⟨y0, y1, y2⟩⟩, x0⟩; go_simp; (try with_reducible rfl)
    try simp only [Act.put, List.setIfInBounds_toArray, List.set_cons_zero, List.set_cons_succ]
    refine wpAnyH_take (i := 9) (oi := { dst := some 124, op := Op.load 23 (Operand.tmp 123), type := 23, pos := "laws.go:221", after := #[{ on := 8, ground := Ground.data }, { on := 7, ground := Ground.guard }], guard := some (7, false) }) (v := ?_) rfl (by kernel_rfl) (by kernel_rfl) (by kernel_rfl) (fun _ _ _ h => h) (Or.inl ⟨by rfl, ?_⟩) hHeld ?_
    rotate_left
    · rintro w ⟨⟨⟨z0, z1, z2⟩, ⟨y0, y1, y2⟩⟩, x0⟩; go_simp; (try with_reducible rfl)
    try simp only [Act.put, List.setIfInBounds_toArray, List.set_cons_zero, List.set_cons_succ]
    refine wpAnyH_take (i := 10) (oi := { dst := some 125, op := Op.call { callee := Callee.builtin Builtin.len, args := #[Operand.tmp 124], argTypes := #[23] }, type := 3, pos := "laws.go:221", after := #[{ on := 9, ground := Ground.data }, { on := 7, ground := Ground.guard }], guard := some (7, false) }) (v := ?_) rfl (by kernel_rfl) (by kernel_rfl) (by kernel_rfl) (fun _ _ _ h => h) (Or.inl ⟨by rfl, ?_⟩) hHeld ?_
    rotate_left
    · rintro w ⟨⟨⟨z0, z1, z2⟩, ⟨y0, y1, y2⟩⟩, x0⟩; go_simp; (try with_reducible rfl)
    try simp only [Act.put, List.setIfInBounds_toArray, List.set_cons_zero, List.set_cons_succ]
    refine wpAnyH_take (i := 11) (oi := { dst := some 126, op := Op.move (Operand.tmp 6), type := 23, pos := "laws.go:221", after := #[{ on := 7, ground := Ground.guard }], guard := some (7, false) }) (v := ?_) rfl (by kernel_rfl) (by kernel_rfl) (by kernel_rfl) (fun _ _ _ h => h) (Or.inl ⟨by rfl, ?_⟩) hHeld ?_
    rotate_left
    · rintro w ⟨⟨⟨z0, z1, z2⟩, ⟨y0, y1, y2⟩⟩, x0⟩; go_simp; (try with_reducible rfl)
    try simp only [Act.put, List.setIfInBounds_toArray, List.set_cons_zero, List.set_cons_succ]
    refine wpAnyH_take (i := 12) (oi := { dst := some 127, op := Op.call { callee := Callee.builtin Builtin.len, args := #[Operand.tmp 126], argTypes := #[23] }, type := 3, pos := "laws.go:221", after := #[{ on := 11, ground := Ground.data }, { on := 7, ground := Ground.guard }], guard := some (7, false) }) (v := ?_) rfl (by kernel_rfl) (by kernel_rfl) (by kernel_rfl) (fun _ _ _ h => h) (Or.inl ⟨by rfl, ?_⟩) hHeld ?_
    rotate_left
    · rintro w ⟨⟨⟨z0, z1, z2⟩, ⟨y0, y1, y2⟩⟩, x0⟩; go_simp; (try with_reducible rfl)
    try simp only [Act.put, List.setIfInBounds_toArray, List.set_cons_zero, List.set_cons_succ]
    refine wpAnyH_take (i := 13) (oi := { dst := some 128, op := Op.binOp BinOp.gtr 3 (Operand.tmp 125) (Operand.tmp 127) 3, type := 4, pos := "laws.go:221", after := #[{ on := 10, ground := Ground.data }, { on := 12, ground := Ground.data }, { on := 7, ground := Ground.guard }], guard := some (7, false) }) (v := .bool false) rfl (by kernel_rfl) (by kernel_rfl) (by kernel_rfl) (fun _ _ _ h => h) (Or.inl ⟨by rfl, ?_⟩) hHeld ?_
    · rintro w ⟨⟨⟨z0, z1, z2⟩, ⟨y0, y1, y2⟩⟩, x0⟩; go_simp; (try with_reducible rfl)
    try simp only [Act.put, List.setIfInBounds_toArray, List.set_cons_zero, List.set_cons_succ]
    refine wpAnyH_take (i := 14) (oi := { dst := some 129, op := Op.pick (Operand.tmp 122) (Operand.const (Value.bool true)) (Operand.tmp 128), type := 4, pos := "laws.go:221", after := #[{ on := 7, ground := Ground.data }, { on := 13, ground := Ground.data }], guard := none }) (v := .bool false) rfl (by kernel_rfl) (by kernel_rfl) (by kernel_rfl) (fun _ _ _ h => h) (Or.inl ⟨by rfl, ?_⟩) hHeld ?_
    · rintro w ⟨⟨⟨z0, z1, z2⟩, ⟨y0, y1, y2⟩⟩, x0⟩; go_simp; (try with_reducible rfl)
    try simp only [Act.put, List.setIfInBounds_toArray, List.set_cons_zero, List.set_cons_succ]
    refine wpAnyH_take (i := 15) (oi := { dst := some 130, op := Op.move (Operand.tmp 129), type := 4, pos := "laws.go:221", after := #[{ on := 14, ground := Ground.data }, { on := 7, ground := Ground.chain }], guard := none }) (v := .bool false) rfl (by kernel_rfl) (by kernel_rfl) (by kernel_rfl) (fun _ _ _ h => h) (Or.inl ⟨by rfl, ?_⟩) hHeld ?_
    · rintro w ⟨⟨⟨z0, z1, z2⟩, ⟨y0, y1, y2⟩⟩, x0⟩; go_simp; (try with_reducible rfl)
    try simp only [Act.put, List.setIfInBounds_toArray, List.set_cons_zero, List.set_cons_succ]
    refine wpAnyH_take (i := 16) (oi := { dst := some 131, op := Op.fieldAddr 36 (Operand.tmp 18) 0, type := 0, pos := "laws.go:221", after := #[{ on := 15, ground := Ground.guard }], guard := some (15, false) }) (v := ?_) rfl (by kernel_rfl) (by kernel_rfl) (by kernel_rfl) (fun _ _ _ h => h) (Or.inl ⟨by rfl, ?_⟩) hHeld ?_
    rotate_left
    · rintro w ⟨⟨⟨z0, z1, z2⟩, ⟨y0, y1, y2⟩⟩, x0⟩; go_simp; (try with_reducible rfl)
    try simp only [Act.put, List.setIfInBounds_toArray, List.set_cons_zero, List.set_cons_succ]
    refine wpAnyH_take (i := 17) (oi := { dst := some 132, op := Op.load 23 (Operand.tmp 131), type := 23, pos := "laws.go:221", after := #[{ on := 16, ground := Ground.data }, { on := 15, ground := Ground.guard }], guard := some (15, false) }) (v := ?_) rfl (by kernel_rfl) (by kernel_rfl) (by kernel_rfl) (fun _ _ _ h => h) (Or.inl ⟨by rfl, ?_⟩) hHeld ?_
    rotate_left
    · rintro w ⟨⟨⟨z0, z1, z2⟩, ⟨y0, y1, y2⟩⟩, x0⟩; go_simp; (try with_reducible rfl)
    try simp only [Act.put, List.setIfInBounds_toArray, List.set_cons_zero, List.set_cons_succ]
    refine wpAnyH_take (i := 18) (oi := { dst := some 133, op := Op.move (Operand.tmp 6), type := 23, pos := "laws.go:221", after := #[{ on := 15, ground := Ground.guard }], guard := some (15, false) }) (v := ?_) rfl (by kernel_rfl) (by kernel_rfl) (by kernel_rfl) (fun _ _ _ h => h) (Or.inl ⟨by rfl, ?_⟩) hHeld ?_
    rotate_left
    · rintro w ⟨⟨⟨z0, z1, z2⟩, ⟨y0, y1, y2⟩⟩, x0⟩; go_simp; (try with_reducible rfl)
    try simp only [Act.put, List.setIfInBounds_toArray, List.set_cons_zero, List.set_cons_succ]
    refine wpAnyH_take (i := 19) (oi := { dst := some 134, op := Op.fieldAddr 36 (Operand.tmp 18) 0, type := 0, pos := "laws.go:221", after := #[{ on := 15, ground := Ground.guard }], guard := some (15, false) }) (v := ?_) rfl (by kernel_rfl) (by kernel_rfl) (by kernel_rfl) (fun _ _ _ h => h) (Or.inl ⟨by rfl, ?_⟩) hHeld ?_
    rotate_left
    · rintro w ⟨⟨⟨z0, z1, z2⟩, ⟨y0, y1, y2⟩⟩, x0⟩; go_simp; (try with_reducible rfl)
    try simp only [Act.put, List.setIfInBounds_toArray, List.set_cons_zero, List.set_cons_succ]
    refine wpAnyH_take (i := 20) (oi := { dst := some 135, op := Op.load 23 (Operand.tmp 134), type := 23, pos := "laws.go:221", after := #[{ on := 19, ground := Ground.data }, { on := 15, ground := Ground.guard }], guard := some (15, false) }) (v := ?_) rfl (by kernel_rfl) (by kernel_rfl) (by kernel_rfl) (fun _ _ _ h => h) (Or.inl ⟨by rfl, ?_⟩) hHeld ?_
    rotate_left
    · rintro w ⟨⟨⟨z0, z1, z2⟩, ⟨y0, y1, y2⟩⟩, x0⟩; go_simp; (try with_reducible rfl)
    try simp only [Act.put, List.setIfInBounds_toArray, List.set_cons_zero, List.set_cons_succ]
    refine wpAnyH_take (i := 21) (oi := { dst := some 136, op := Op.call { callee := Callee.builtin Builtin.len, args := #[Operand.tmp 135], argTypes := #[23] }, type := 3, pos := "laws.go:221", after := #[{ on := 20, ground := Ground.data }, { on := 15, ground := Ground.guard }], guard := some (15, false) }) (v := ?_) rfl (by kernel_rfl) (by kernel_rfl) (by kernel_rfl) (fun _ _ _ h => h) (Or.inl ⟨by rfl, ?_⟩) hHeld ?_
    rotate_left
    · rintro w ⟨⟨⟨z0, z1, z2⟩, ⟨y0, y1, y2⟩⟩, x0⟩; go_simp; (try with_reducible rfl)
    try simp only [Act.put, List.setIfInBounds_toArray, List.set_cons_zero, List.set_cons_succ]
    refine wpAnyH_take (i := 22) (oi := { dst := some 137, op := Op.slice 23 (Operand.tmp 133) none (some (Operand.tmp 136)) none, type := 23, pos := "laws.go:221", after := #[{ on := 18, ground := Ground.data }, { on := 21, ground := Ground.data }, { on := 15, ground := Ground.guard }], guard := some (15, false) }) (v := .slice (some ⟨g, 0, none⟩) ly.length cp) rfl (by kernel_rfl) (by kernel_rfl) (by kernel_rfl) (fun _ _ _ h => h) (Or.inl ⟨by rfl, ?_⟩) hHeld ?_
    · rintro w ⟨⟨⟨z0, z1, z2⟩, ⟨y0, y1, y2⟩⟩, x0⟩; go_simp; (try with_reducible rfl)
    try simp only [Act.put, List.setIfInBounds_toArray, List.set_cons_zero, List.set_cons_succ]
    refine wpAnyH_ready (rs := [23]) (by kernel_rfl) (by simp) ?_
    refine AllReadyH.cons rfl (fun K hK => ?_) AllReadyH.nil
    go_simp
    go_at_call 23
    refine (HLT.out _ ik1).mono ?_
    rintro ek2 uk2 ⟨rfl, hbk2⟩
    have ik2 := (ik1).up hbk2
    go_wp2_with fail
    refine hK.out _ _ (HS.out _ ik2) (fun hHeld => ?_)
    clear hbk2
    clear hK K
    try simp only [Act.put, List.setIfInBounds_toArray, List.set_cons_zero, List.set_cons_succ]
    refine wpAnyH_take (i := 24) (oi := { dst := some 139, op := Op.unOp UnOp.not 4 (Operand.tmp 138), type := 4, pos := "laws.go:221", after := #[{ on := 23, ground := Ground.data }, { on := 15, ground := Ground.guard }], guard := some (15, false) }) (v := .bool false) rfl (by kernel_rfl) (by kernel_rfl) (by kernel_rfl) (fun _ _ _ h => h) (Or.inl ⟨by rfl, ?_⟩) hHeld ?_
    · rintro w ⟨⟨⟨z0, z1, z2⟩, ⟨y0, y1, y2⟩⟩, x0⟩; go_simp; (try with_reducible rfl)
    try simp only [Act.put, List.setIfInBounds_toArray, List.set_cons_zero, List.set_cons_succ]
    refine wpAnyH_take (i := 25) (oi := { dst := some 140, op := Op.pick (Operand.tmp 130) (Operand.const (Value.bool true)) (Operand.tmp 139), type := 4, pos := "laws.go:221", after := #[{ on := 15, ground := Ground.data }, { on := 24, ground := Ground.data }], guard := none }) (v := .bool false) rfl (by kernel_rfl) (by kernel_rfl) (by kernel_rfl) (fun _ _ _ h => h) (Or.inl ⟨by rfl, ?_⟩) hHeld ?_
    · rintro w ⟨⟨⟨z0, z1, z2⟩, ⟨y0, y1, y2⟩⟩, x0⟩; go_simp; (try with_reducible rfl)
    try simp only [Act.put, List.setIfInBounds_toArray, List.set_cons_zero, List.set_cons_succ]
    refine wpAnyH_done (by kernel_rfl) ?_ _
    refine NoPanic.normal ?_
    go_wp2_with fail
    have j0 := InG.drew ik2
    refine wp_region_noPanic ?_
    refine wp_region_held_drew (S := fun u => ((u.cell? ⟨qx, 0, none⟩ = some (.slice px l.length cx) ∧ u.cell? ⟨qx, 1, none⟩ = some (.int .i64 (t.size : Int)) ∧ u.cell? ⟨qx, 2, none⟩ = some (.int .i64 0)) ∧ (u.cell? ⟨qy, 0, none⟩ = some (.slice py ly.length cy) ∧ u.cell? ⟨qy, 1, none⟩ = some (.int .i64 iy) ∧ u.cell? ⟨qy, 2, none⟩ = some (.int .i64 0))) ∧ u.cell? ⟨g, d, none⟩ = some (.string rd)) (by kernel_rfl) (HS.out _ j0) (fun hHeld => ?_)
    refine wpAnyH_take (i := 0) (oi := { dst := some 141, op := Op.move (Operand.tmp 5), type := 9, pos := "laws.go:224", after := #[], guard := none }) (v := ?_) rfl (by kernel_rfl) (by kernel_rfl) (by kernel_rfl) (fun _ _ _ h => h) (Or.inl ⟨by rfl, ?_⟩) hHeld ?_
    rotate_left
    · rintro w ⟨⟨⟨z0, z1, z2⟩, ⟨y0, y1, y2⟩⟩, x0⟩; go_simp; (try with_reducible rfl)
    try simp only [Act.put, List.setIfInBounds_toArray, List.set_cons_zero, List.set_cons_succ]
    refine wpAnyH_take (i := 1) (oi := { dst := some 142, op := Op.move (Operand.tmp 6), type := 23, pos := "laws.go:224", after := #[], guard := none }) (v := ?_) rfl (by kernel_rfl) (by kernel_rfl) (by kernel_rfl) (fun _ _ _ h => h) (Or.inl ⟨by rfl, ?_⟩) hHeld ?_
    rotate_left
    · rintro w ⟨⟨⟨z0, z1, z2⟩, ⟨y0, y1, y2⟩⟩, x0⟩; go_simp; (try with_reducible rfl)
    try simp only [Act.put, List.setIfInBounds_toArray, List.set_cons_zero, List.set_cons_succ]
    refine wpAnyH_take (i := 2) (oi := { dst := some 143, op := Op.move (Operand.tmp 19), type := 2, pos := "laws.go:224", after := #[], guard := none }) (v := ?_) rfl (by kernel_rfl) (by kernel_rfl) (by kernel_rfl) (fun _ _ _ h => h) (Or.inl ⟨by rfl, ?_⟩) hHeld ?_
    rotate_left
    · rintro w ⟨⟨⟨z0, z1, z2⟩, ⟨y0, y1, y2⟩⟩, x0⟩; go_simp; (try with_reducible rfl)
    try simp only [Act.put, List.setIfInBounds_toArray, List.set_cons_zero, List.set_cons_succ]
    refine wpAnyH_take (i := 5) (oi := { dst := some 146, op := Op.move (Operand.tmp 5), type := 9, pos := "laws.go:224", after := #[], guard := none }) (v := ?_) rfl (by kernel_rfl) (by kernel_rfl) (by kernel_rfl) (fun _ _ _ h => h) (Or.inl ⟨by rfl, ?_⟩) hHeld ?_
    rotate_left
    · rintro w ⟨⟨⟨z0, z1, z2⟩, ⟨y0, y1, y2⟩⟩, x0⟩; go_simp; (try with_reducible rfl)
    try simp only [Act.put, List.setIfInBounds_toArray, List.set_cons_zero, List.set_cons_succ]
    refine wpAnyH_take (i := 6) (oi := { dst := some 147, op := Op.move (Operand.tmp 5), type := 9, pos := "laws.go:224", after := #[], guard := none }) (v := ?_) rfl (by kernel_rfl) (by kernel_rfl) (by kernel_rfl) (fun _ _ _ h => h) (Or.inl ⟨by rfl, ?_⟩) hHeld ?_
    rotate_left
    · rintro w ⟨⟨⟨z0, z1, z2⟩, ⟨y0, y1, y2⟩⟩, x0⟩; go_simp; (try with_reducible rfl)
    try simp only [Act.put, List.setIfInBounds_toArray, List.set_cons_zero, List.set_cons_succ]
    refine wpAnyH_take (i := 7) (oi := { dst := some 148, op := Op.move (Operand.tmp 6), type := 23, pos := "laws.go:224", after := #[], guard := none }) (v := ?_) rfl (by kernel_rfl) (by kernel_rfl) (by kernel_rfl) (fun _ _ _ h => h) (Or.inl ⟨by rfl, ?_⟩) hHeld ?_
    rotate_left
    · rintro w ⟨⟨⟨z0, z1, z2⟩, ⟨y0, y1, y2⟩⟩, x0⟩; go_simp; (try with_reducible rfl)
    try simp only [Act.put, List.setIfInBounds_toArray, List.set_cons_zero, List.set_cons_succ]
    refine wpAnyH_take (i := 8) (oi := { dst := some 149, op := Op.move (Operand.tmp 19), type := 2, pos := "laws.go:224", after := #[], guard := none }) (v := ?_) rfl (by kernel_rfl) (by kernel_rfl) (by kernel_rfl) (fun _ _ _ h => h) (Or.inl ⟨by rfl, ?_⟩) hHeld ?_
    rotate_left
    · rintro w ⟨⟨⟨z0, z1, z2⟩, ⟨y0, y1, y2⟩⟩, x0⟩; go_simp; (try with_reducible rfl)
    try simp only [Act.put, List.setIfInBounds_toArray, List.set_cons_zero, List.set_cons_succ]
    refine wpAnyH_take (i := 9) (oi := { dst := some 150, op := Op.binOp BinOp.sub 2 (Operand.tmp 149) (Operand.const (Value.int IntKind.i64 1)) 2, type := 2, pos := "laws.go:224", after := #[{ on := 8, ground := Ground.data }], guard := none }) (v := ?_) rfl (by kernel_rfl) (by kernel_rfl) (by kernel_rfl) (fun _ _ _ h => h) (Or.inl ⟨by rfl, ?_⟩) hHeld ?_
    rotate_left
    · rintro w ⟨⟨⟨z0, z1, z2⟩, ⟨y0, y1, y2⟩⟩, x0⟩; go_simp; (try with_reducible rfl)
    try simp only [Act.put, List.setIfInBounds_toArray, List.set_cons_zero, List.set_cons_succ]
    refine wpAnyH_take (i := 12) (oi := { dst := some 153, op := Op.move (Operand.tmp 6), type := 23, pos := "laws.go:224", after := #[], guard := none }) (v := ?_) rfl (by kernel_rfl) (by kernel_rfl) (by kernel_rfl) (fun _ _ _ h => h) (Or.inl ⟨by rfl, ?_⟩) hHeld ?_
    rotate_left
    · rintro w ⟨⟨⟨z0, z1, z2⟩, ⟨y0, y1, y2⟩⟩, x0⟩; go_simp; (try with_reducible rfl)
    try simp only [Act.put, List.setIfInBounds_toArray, List.set_cons_zero, List.set_cons_succ]
    refine wpAnyH_take (i := 13) (oi := { dst := some 154, op := Op.move (Operand.tmp 19), type := 2, pos := "laws.go:224", after := #[], guard := none }) (v := ?_) rfl (by kernel_rfl) (by kernel_rfl) (by kernel_rfl) (fun _ _ _ h => h) (Or.inl ⟨by rfl, ?_⟩) hHeld ?_
    rotate_left
    · rintro w ⟨⟨⟨z0, z1, z2⟩, ⟨y0, y1, y2⟩⟩, x0⟩; go_simp; (try with_reducible rfl)
    try simp only [Act.put, List.setIfInBounds_toArray, List.set_cons_zero, List.set_cons_succ]
    refine wpAnyH_take (i := 14) (oi := { dst := some 155, op := Op.binOp BinOp.sub 2 (Operand.tmp 154) (Operand.const (Value.int IntKind.i64 1)) 2, type := 2, pos := "laws.go:224", after := #[{ on := 13, ground := Ground.data }], guard := none }) (v := ?_) rfl (by kernel_rfl) (by kernel_rfl) (by kernel_rfl) (fun _ _ _ h => h) (Or.inl ⟨by rfl, ?_⟩) hHeld ?_
    rotate_left
    · rintro w ⟨⟨⟨z0, z1, z2⟩, ⟨y0, y1, y2⟩⟩, x0⟩; go_simp; (try with_reducible rfl)
    try simp only [Act.put, List.setIfInBounds_toArray, List.set_cons_zero, List.set_cons_succ]
    refine wpAnyH_take (i := 15) (oi := { dst := some 156, op := Op.indexAddr 23 (Operand.tmp 153) (Operand.tmp 155), type := 0, pos := "laws.go:224", after := #[{ on := 12, ground := Ground.data }, { on := 14, ground := Ground.data }], guard := none }) (v := .pointer (some ⟨g, d, none⟩)) rfl (by kernel_rfl) (by kernel_rfl) (by kernel_rfl) (fun _ _ _ h => h) (Or.inl ⟨by rfl, ?_⟩) hHeld ?_
    · rintro w ⟨⟨⟨z0, z1, z2⟩, ⟨y0, y1, y2⟩⟩, x0⟩; go_simp; (try with_reducible rfl)
    try simp only [Act.put, List.setIfInBounds_toArray, List.set_cons_zero, List.set_cons_succ]
    refine wpAnyH_take (i := 16) (oi := { dst := some 157, op := Op.load 9 (Operand.tmp 156), type := 9, pos := "laws.go:224", after := #[{ on := 15, ground := Ground.data }], guard := none }) (v := .string rd) rfl (by kernel_rfl) (by kernel_rfl) (by kernel_rfl) (fun _ _ _ h => h) (Or.inl ⟨by rfl, ?_⟩) hHeld ?_
    · rintro w ⟨⟨⟨z0, z1, z2⟩, ⟨y0, y1, y2⟩⟩, x0⟩; go_simp; (try with_reducible rfl)
    try simp only [Act.put, List.setIfInBounds_toArray, List.set_cons_zero, List.set_cons_succ]
    refine wpAnyH_ready (rs := [3]) (by kernel_rfl) (by simp) ?_
    refine AllReadyH.cons rfl (fun K hK => ?_) AllReadyH.nil
    go_simp
    go_at_call 20
    refine (HA1.out _ j0).mono ?_
    rintro em1 um1 ⟨rfl, hbm1⟩
    have im1 := (j0).up hbm1
    go_wp2_with fail
    refine hK.out _ _ (HS.out _ im1) (fun hHeld => ?_)
    clear hbm1
    clear hK K
    try simp only [Act.put, List.setIfInBounds_toArray, List.set_cons_zero, List.set_cons_succ]
    refine wpAnyH_take (i := 4) (oi := { dst := some 145, op := Op.field 41 (Operand.tmp 144) 1, type := 9, pos := "laws.go:224", after := #[{ on := 3, ground := Ground.data }], guard := none }) (v := ?_) rfl (by kernel_rfl) (by kernel_rfl) (by kernel_rfl) (fun _ _ _ h => h) (Or.inl ⟨by rfl, ?_⟩) hHeld ?_
    rotate_left
    · rintro w ⟨⟨⟨z0, z1, z2⟩, ⟨y0, y1, y2⟩⟩, x0⟩; go_simp; (try with_reducible rfl)
    try simp only [Act.put, List.setIfInBounds_toArray, List.set_cons_zero, List.set_cons_succ]
    refine wpAnyH_ready (rs := [10]) (by kernel_rfl) (by simp) ?_
    refine AllReadyH.cons rfl (fun K hK => ?_) AllReadyH.nil
    go_simp
    go_at_call 20
    refine (HA0.out _ im1).mono ?_
    rintro em2 um2 ⟨rfl, hbm2⟩
    have im2 := (im1).up hbm2
    go_wp2_with fail
    refine hK.out _ _ (HS.out _ im2) (fun hHeld => ?_)
    clear hbm2
    clear hK K
    try simp only [Act.put, List.setIfInBounds_toArray, List.set_cons_zero, List.set_cons_succ]
    refine wpAnyH_take (i := 11) (oi := { dst := some 152, op := Op.field 41 (Operand.tmp 151) 1, type := 9, pos := "laws.go:224", after := #[{ on := 10, ground := Ground.data }], guard := none }) (v := ?_) rfl (by kernel_rfl) (by kernel_rfl) (by kernel_rfl) (fun _ _ _ h => h) (Or.inl ⟨by rfl, ?_⟩) hHeld ?_
    rotate_left
    · rintro w ⟨⟨⟨z0, z1, z2⟩, ⟨y0, y1, y2⟩⟩, x0⟩; go_simp; (try with_reducible rfl)
    try simp only [Act.put, List.setIfInBounds_toArray, List.set_cons_zero, List.set_cons_succ]
    refine wpAnyH_ready (rs := [17]) (by kernel_rfl) (by simp) ?_
    refine AllReadyH.cons rfl (fun K hK => ?_) AllReadyH.nil
    go_simp
    go_at_call 16
    refine (HN.out _ im2).mono ?_
    rintro em3 um3 ⟨rfl, hbm3⟩
    have im3 := (im2).up hbm3
    go_wp2_with fail
    refine hK.out _ _ (HS.out _ im3) (fun hHeld => ?_)
    clear hbm3
    clear hK K
    try simp only [Act.put, List.setIfInBounds_toArray, List.set_cons_zero, List.set_cons_succ]
    refine wpAnyH_take (i := 18) (oi := { dst := some 159, op := Op.binOp BinOp.eql 9 (Operand.tmp 145) (Operand.tmp 158) 9, type := 4, pos := "laws.go:224", after := #[{ on := 4, ground := Ground.data }, { on := 17, ground := Ground.data }], guard := none }) (v := .bool true) rfl (by kernel_rfl) (by kernel_rfl) (by kernel_rfl) (fun _ _ _ h => h) (Or.inl ⟨by rfl, ?_⟩) hHeld ?_
    · rintro w ⟨⟨⟨z0, z1, z2⟩, ⟨y0, y1, y2⟩⟩, x0⟩; go_simp; (try with_reducible rfl)
    try simp only [Act.put, List.setIfInBounds_toArray, List.set_cons_zero, List.set_cons_succ]
    refine wpAnyH_take (i := 19) (oi := { dst := some 4, op := Op.assign (Operand.tmp 159), type := 4, pos := "laws.go:224", after := #[{ on := 18, ground := Ground.data }, { on := 17, ground := Ground.chain }, { on := 0, ground := Ground.phase }, { on := 1, ground := Ground.phase }, { on := 2, ground := Ground.phase }, { on := 3, ground := Ground.phase }, { on := 4, ground := Ground.phase }, { on := 5, ground := Ground.phase }, { on := 6, ground := Ground.phase }, { on := 7, ground := Ground.phase }, { on := 8, ground := Ground.phase }, { on := 9, ground := Ground.phase }, { on := 10, ground := Ground.phase }, { on := 11, ground := Ground.phase }, { on := 12, ground := Ground.phase }, { on := 13, ground := Ground.phase }, { on := 14, ground := Ground.phase }, { on := 15, ground := Ground.phase }, { on := 16, ground := Ground.phase }, { on := 17, ground := Ground.phase }, { on := 18, ground := Ground.phase }], guard := none }) (v := .bool true) rfl (by kernel_rfl) (by kernel_rfl) (by kernel_rfl) (fun _ _ _ h => h) (Or.inl ⟨by rfl, ?_⟩) hHeld ?_
    · rintro w ⟨⟨⟨z0, z1, z2⟩, ⟨y0, y1, y2⟩⟩, x0⟩; go_simp; (try with_reducible rfl)
    try simp only [Act.put, List.setIfInBounds_toArray, List.set_cons_zero, List.set_cons_succ]
    refine wpAnyH_done (by kernel_rfl) ?_ _
    refine NoPanic.normal ?_
    go_wp2
    go_ret
    exact ⟨rfl, (im3).one.recs.below⟩
end Go.Proofs.YthpjpjefncnppaaDoor.fl
