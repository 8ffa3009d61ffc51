/-
  The law FnVerify, walked, whatever the two rows of bytes: it tells true. Condition: the table of the rounds' numbers lies in its variable.
-/
import Derived.Test.YtcfekhahibklfaaDoorDrawVerify
import Derived.Test.YtcfekhahibklfaaDoorMg11
import Derived.Test.YtcfekhahibklfaaDoorLgT
import Derived.Test.YtcfekhahibklfaaDoorLgV
import Derived.Test.YtcfekhahibklfaaDoorLgA
import Derived.Test.YtcfekhahibklfaaDoorLogV
import Derived.Test.YtcfekhahibklfaaDoorMg4
import Derived.Test.YtcfekhahibklfaaDoorLgLn
import Derived.Test.YtcfekhahibklfaaDoorMg1
import Derived.Deep.RegionHeld3
namespace Go.Proofs.YtcfekhahibklfaaDoor.fv
open Go.ChangeShapes Go.WideShapes Go.ChangeAt Go.RowKit
open Go.Proofs.YtcfekhahibklfaaDoor.wi (heap_lt calls_w wp_w)
open Go.Proofs.YtcfekhahibklfaaDoor.dr (Codes)
open Go.Proofs.YtcfekhahibklfaaDoor.dl
open Go.Proofs.YtcfekhahibklfaaDoor.lg Go.Proofs.YtcfekhahibklfaaDoor.ss Go.Proofs.YtcfekhahibklfaaDoor.ot
open Go.Proofs.YtcfekhahibklfaaDoor.sh (macB Tab Tab.up)
set_option linter.unusedVariables false
set_option linter.unusedSimpArgs false

theorem textLe (key : ByteArray) (l : List ByteArray) : (logT macB key l).size ≤ maxLen := by
  by_cases h : logT macB key l = ⟨#[]⟩
  · rw [h]; decide
  · obtain ⟨h1, h2⟩ := logT_full h
    rw [logT_yes h1 h2]
    exact Nat.le_trans h2 (by decide)
/-- what is known where an anchor stands in a block -/
structure InA (w : World) (q : Nat) (n : Int) (c : ByteArray) (u : World) : Prop where
  bel : Below w.heap.size w u
  row : u.heap[q]? = some (.cells #[.int .i64 n, .string c] 41 (0, 0))
theorem InA.up {w u u' : World} {q : Nat} {n : Int} {c : ByteArray} (h : InA w q n c u) (hb : Below u.heap.size u u') : InA w q n c u' := ⟨h.bel.trans (hb.mono h.bel.size), (hb.block _ (heap_lt h.row)).trans h.row⟩
theorem InA.drew {w u : World} {q : Nat} {n : Int} {c : ByteArray} (h : InA w q n c u) : InA w q n c u.drew := h.up ⟨rfl, rfl, rfl, Nat.le_refl _, fun _ _ => rfl⟩
theorem InA.cells {w u : World} {q : Nat} {n : Int} {c : ByteArray} (h : InA w q n c u) : u.cell? ⟨q, 0, none⟩ = some (.int .i64 n) ∧ u.cell? ⟨q, 1, none⟩ = some (.string c) := by
  refine ⟨?_, ?_⟩ <;> simp [World.cell?, h.row]
/-- and the records -/
structure InB (w u0 : World) (v : Value) (l : List ByteArray) (q : Nat) (n : Int) (c : ByteArray) (u : World) : Prop where
  one : InA w q n c u
  recs : Recs u0 v l u
theorem InB.up {w u0 u u' : World} {v : Value} {l : List ByteArray} {q : Nat} {n : Int} {c : ByteArray} (h : InB w u0 v l q n c u) (hb : Below u.heap.size u u') : InB w u0 v l q n c u' := ⟨h.one.up hb, h.recs.up hb⟩
theorem InB.drew {w u0 u : World} {v : Value} {l : List ByteArray} {q : Nat} {n : Int} {c : ByteArray} (h : InB w u0 v l q n c u) : InB w u0 v l q n c u.drew := h.up ⟨rfl, rfl, rfl, Nat.le_refl _, fun _ _ => rfl⟩
set_option maxRecDepth 20000 in
set_option maxHeartbeats 8000000 in
theorem verCore (a0 : Option Addr) (len0 cap0 : Nat) (a1 : Option Addr) (len1 cap1 : Nat) (w : World) (c0 : Codes w w.heap.size a0 len0) (c1 : Codes w w.heap.size a1 len1) (hT : Tab w) :
    Calls Tryd.prog 4 #[.slice a0 len0 cap0, .slice a1 len1 cap1] w fun e w' => e = .returned (.bool true) ∧ Below w.heap.size w w' := by
  have HC0 : Hid (∀ u, Below w.heap.size w u → Codes u u.heap.size a0 len0) := fun u hu => dn.codes_later c0 hu
  have HC1 : Hid (∀ u, Below w.heap.size w u → Codes u u.heap.size a1 len1) := fun u hu => dn.codes_later c1 hu
  have HT : Hid (∀ u, Below w.heap.size w u → Tab u) := fun u hu => hT.up hu
  have l0 := c0.1
  have l1 := c1.1
  clear c1 hT
  go_enter Tryd.func4, Tryd.ntmps4
  go_wp2_with (go_at_call 24; fail)
  refine (drawVerify_any a0 len0 cap0 w c0).mono ?_
  rintro r w1 ⟨key, c, t, n, rfl, hk, hc, ht, hb1⟩
  clear c0
  have hkm : key.size ≤ maxLen := Nat.le_trans hk (by decide)
  have hv1 := li.verI_any key t c n w1 hkm (Nat.le_trans ht (by decide)) (Nat.le_trans hc (by decide)) (HT.out w1 hb1)
  have HV2 : Hid (∀ u, Calls Tryd.prog 26 #[.string key, .agg #[.int .i64 n, .string c], .string t] u (lm.VerPost u key n c t)) := fun u => lm.verM_any key t c n u hkm (Nat.le_trans ht (by decide)) (Nat.le_trans hc (by decide))
  go_wp2_with fail
  obtain ⟨q, hq⟩ : ∃ q, q = w1.heap.size := ⟨_, rfl⟩
  have i1 : InA w q n c (w1.alloc (.cells #[.int .i64 n, .string c] 41)) := by
    rw [hq]; exact ⟨hb1.alloc hb1.size _, heap_alloc_new _ _⟩
  rw [← hq]
  refine wp_w (InA w q n c) i1 ?_
  clear i1 hq hb1 hv1
  intro u1 i1
  have i2 := i1.drew
  have htm : t.size ≤ maxLen := Nat.le_trans ht (by decide)
  have hcm : c.size ≤ maxLen := Nat.le_trans hc (by decide)
  have HV1 : Hid (∀ u, InA w q n c u → Calls Tryd.prog 25 #[.string key, .agg #[.int .i64 n, .string c], .string t] u (lm.VerPost u key n c t)) := fun u hu => li.verI_any key t c n u hkm htm hcm (HT.out u hu.bel)
  have HV2' := HV2
  clear HV2
  have HV2 : Hid (∀ u, InA w q n c u → Calls Tryd.prog 26 #[.string key, .agg #[.int .i64 n, .string c], .string t] u (lm.VerPost u key n c t)) := fun u _ => HV2'.out u
  clear HV2'
  have HS : Hid (∀ u, InA w q n c u → u.cell? ⟨q, 0, none⟩ = some (.int .i64 n) ∧ u.cell? ⟨q, 1, none⟩ = some (.string c)) := fun u hu => hu.cells
  refine wp_region_noPanic ?_
  refine wp_region_held_drew (S := fun u => u.cell? ⟨q, 0, none⟩ = some (.int .i64 n) ∧ u.cell? ⟨q, 1, none⟩ = some (.string c)) (by kernel_rfl) (HS.out _ i2) (fun hHeld => ?_)
  refine wpAnyH_take (i := 0) (oi := { dst := some 28, op := Op.move (Operand.tmp 5), type := 9, pos := "laws.go:233", after := #[], guard := none }) (v := ?_) rfl (by kernel_rfl) (by kernel_rfl) (by kernel_rfl) (fun _ _ _ h => h) (Or.inl ⟨by rfl, ?_⟩) hHeld ?_
  rotate_left
  · rintro w ⟨z0, z1⟩; go_simp; (try with_reducible rfl)
  try simp only [Act.put, List.setIfInBounds_toArray, List.set_cons_zero, List.set_cons_succ]
  refine wpAnyH_take (i := 1) (oi := { dst := some 29, op := Op.load 41 (Operand.tmp 6), type := 41, pos := "laws.go:233", after := #[], guard := none }) (v := ?_) rfl (by kernel_rfl) (by kernel_rfl) (by kernel_rfl) (fun _ _ _ h => h) (Or.inl ⟨by rfl, ?_⟩) hHeld ?_
  rotate_left
  · rintro w ⟨z0, z1⟩; go_simp; (try with_reducible rfl)
  try simp only [Act.put, List.setIfInBounds_toArray, List.set_cons_zero, List.set_cons_succ]
  refine wpAnyH_take (i := 2) (oi := { dst := some 30, op := Op.move (Operand.tmp 7), type := 9, pos := "laws.go:233", after := #[], guard := none }) (v := ?_) rfl (by kernel_rfl) (by kernel_rfl) (by kernel_rfl) (fun _ _ _ h => h) (Or.inl ⟨by rfl, ?_⟩) hHeld ?_
  rotate_left
  · rintro w ⟨z0, z1⟩; go_simp; (try with_reducible rfl)
  try simp only [Act.put, List.setIfInBounds_toArray, List.set_cons_zero, List.set_cons_succ]
  refine wpAnyH_take (i := 4) (oi := { dst := some 32, op := Op.move (Operand.tmp 5), type := 9, pos := "laws.go:233", after := #[], guard := none }) (v := ?_) rfl (by kernel_rfl) (by kernel_rfl) (by kernel_rfl) (fun _ _ _ h => h) (Or.inl ⟨by rfl, ?_⟩) hHeld ?_
  rotate_left
  · rintro w ⟨z0, z1⟩; go_simp; (try with_reducible rfl)
  try simp only [Act.put, List.setIfInBounds_toArray, List.set_cons_zero, List.set_cons_succ]
  refine wpAnyH_take (i := 5) (oi := { dst := some 33, op := Op.load 41 (Operand.tmp 6), type := 41, pos := "laws.go:233", after := #[], guard := none }) (v := ?_) rfl (by kernel_rfl) (by kernel_rfl) (by kernel_rfl) (fun _ _ _ h => h) (Or.inl ⟨by rfl, ?_⟩) hHeld ?_
  rotate_left
  · rintro w ⟨z0, z1⟩; go_simp; (try with_reducible rfl)
  try simp only [Act.put, List.setIfInBounds_toArray, List.set_cons_zero, List.set_cons_succ]
  refine wpAnyH_take (i := 6) (oi := { dst := some 34, op := Op.move (Operand.tmp 7), type := 9, pos := "laws.go:233", after := #[], guard := none }) (v := ?_) rfl (by kernel_rfl) (by kernel_rfl) (by kernel_rfl) (fun _ _ _ h => h) (Or.inl ⟨by rfl, ?_⟩) hHeld ?_
  rotate_left
  · rintro w ⟨z0, z1⟩; go_simp; (try with_reducible rfl)
  try simp only [Act.put, List.setIfInBounds_toArray, List.set_cons_zero, List.set_cons_succ]
  refine wpAnyH_ready (rs := [3]) (by kernel_rfl) (by simp) ?_
  refine AllReadyH.cons rfl (fun K hK => ?_) AllReadyH.nil
  go_simp
  go_at_call 25
  refine (HV1.out _ i2).mono ?_
  rintro ep up ⟨dp, rfl, hdp, hbp⟩
  have ip := (i2).up hbp
  go_wp2_with fail
  refine hK.out _ _ (HS.out _ ip) (fun hHeld => ?_)
  clear hbp
  clear hK K
  try simp only [Act.put, List.setIfInBounds_toArray, List.set_cons_zero, List.set_cons_succ]
  refine wpAnyH_ready (rs := [7]) (by kernel_rfl) (by simp) ?_
  refine AllReadyH.cons rfl (fun K hK => ?_) AllReadyH.nil
  go_simp
  go_at_call 26
  refine (HV2.out _ ip).mono ?_
  rintro eq uq ⟨dq, rfl, hdq, hbq⟩
  obtain rfl : dp = dq := by rw [Bool.eq_iff_iff, hdp, hdq]
  have iq := (ip).up hbq
  go_wp2_with fail
  refine hK.out _ _ (HS.out _ iq) (fun hHeld => ?_)
  clear hbq
  clear hK K
  try simp only [Act.put, List.setIfInBounds_toArray, List.set_cons_zero, List.set_cons_succ]
  refine wpAnyH_take (i := 8) (oi := { dst := some 36, op := Op.binOp BinOp.neq 4 (Operand.tmp 31) (Operand.tmp 35) 4, type := 4, pos := "laws.go:233", after := #[{ on := 3, ground := Ground.data }, { on := 7, ground := Ground.data }], guard := none }) (v := ?_) rfl (by kernel_rfl) (by kernel_rfl) (by kernel_rfl) (fun _ _ _ h => h) (Or.inl ⟨by rfl, ?_⟩) hHeld ?_
  rotate_left
  · rintro w ⟨z0, z1⟩; go_simp; (try with_reducible rfl)
  try simp only [Act.put, List.setIfInBounds_toArray, List.set_cons_zero, List.set_cons_succ]
  refine wpAnyH_done (by kernel_rfl) ?_ _
  refine NoPanic.normal ?_
  have hdd : (dp == dp) = true := by simp
  have hdn : (!(dp == dp)) = false := by simp
  have hU : Below w.heap.size w uq := iq.bel
  clear HS HV1 HV2 ip iq hdp hHeld
  go_wp2_with (go_at_call 6; fail)
  refine (drawText_any a1 len1 cap1 uq (HC1.out uq hU)).mono ?_
  rintro r w2 ⟨k, v, l, rfl, hk2, hR2⟩
  obtain ⟨p, cp, rfl⟩ := hR2.shape
  have hk2m : k.size ≤ maxLen := Nat.le_trans hk2 (by decide)
  have hU2 : Below w.heap.size w w2 := hU.trans (hR2.below.mono hU.size)
  have hti := li.textI_any k _ l w2 hk2m hR2.sizes.1 hR2.sizes.2 (HT.out w2 hU2) hR2.slice
  have hTM : Hid (∀ u, Recs uq (.slice p l.length cp) l u → Calls Tryd.prog 12 #[.string k, .slice p l.length cp] u fun r w' => r = .returned (.string (logT macB k l)) ∧ Below u.heap.size u w') := fun u hu => lm.textM_any k _ l u hk2m hu.sizes.1 hu.sizes.2 hu.slice
  obtain ⟨t2, ht2⟩ : ∃ t, t = logT macB k l := ⟨_, rfl⟩
  have HTe : Hid (t2 = logT macB k l) := ht2
  rw [← ht2] at hTM hti
  clear ht2
  have qt : (t2.toList == t2.toList) = true := by simp
  go_wp2_with (go_at_call 7; fail)
  refine hti.mono ?_
  rintro r w3 ⟨rfl, hb3⟩
  have hR3 := hR2.up hb3
  have hU3 : Below w.heap.size w w3 := hU2.trans (hb3.mono hU2.size)
  clear hR2 hU2 hb3 hti
  go_wp2_with (go_at_call 12; fail)
  refine (hTM.out w3 hR3).mono ?_
  rintro r w4 ⟨rfl, hb4⟩
  have hR4 := hR3.up hb4
  have hU4 : Below w.heap.size w w4 := hU3.trans (hb4.mono hU3.size)
  clear hR3 hU3 hb4
  by_cases ht0 : t2 = ⟨#[]⟩
  · have hLn := hTM.out w4 hR4
    have HBf : Hid (Below w.heap.size w w4) := hU4
    subst ht0
    clear hR4 hU4 HTe HT HC0 HC1 hTM hU
    go_wp2_with (go_at_call 12; fail)
    refine hLn.mono ?_
    rintro r w5 ⟨rfl, hb5⟩
    have HB5 : Hid (Below w.heap.size w w5) := HBf.out.trans (hb5.mono HBf.out.size)
    clear hLn hb5
    go_wp2
    go_ret
    exact ⟨rfl, HB5.out⟩
  · obtain ⟨hrl, hz8⟩ := logT_full (mac := macB) (key := k) (l := l) (by rw [← HTe.out]; exact ht0)
    have hl7 := hR4.few
    have hsm := hR4.small
    have hl1 : 1 ≤ l.length := by
      rcases Nat.eq_zero_or_pos l.length with h | h
      · exact absurd (by rw [HTe.out, logT_yes hrl hz8, List.eq_nil_of_length_eq_zero h]; rfl) ht0
      · exact h
    have hne : t2.toList.isEmpty = false := by
      rw [List.isEmpty_eq_false_iff]
      intro e
      rw [ByteArray.toList_eq] at e
      exact ht0 (by cases t2; simp only [ByteArray.mk.injEq]; exact Array.ext' e)
    have hm1 : ((l.length + 1 : Nat) : Int) = (l.length : Int) + 1 := by omega
    have hla := lw.lwAt_any a0 len0 cap0 (l.length + 1) w4 (HC0.out w4 hU4) (by omega) (by omega)
    rw [hm1] at hla
    clear hTM HC0 HC1 hU
    go_wp2_with (go_at_call 22; fail)
    refine hla.mono ?_
    rintro r w5 ⟨⟨m, rfl, hm⟩, hw5⟩
    obtain rfl := hw5.symm
    have hml : m ≤ l.length := by omega
    have han := li.anchorI_any k _ l (m : Int) w4 hk2m hR4.sizes.1 hR4.sizes.2 (HT.out w4 hU4) hR4.slice hR4.capd
    rw [lm.anchorA_yes hrl hml] at han
    have hch := lm.chain_le k (l.take m)
    obtain ⟨ch, hchd⟩ : ∃ ch, ch = chain macB k (l.take m) := ⟨_, rfl⟩
    have HCH : Hid (ch = chain macB k (l.take m)) := hchd
    rw [← hchd] at han hch
    clear hchd hla
    unfold lm.outA at han
    go_wp2_with (go_at_call 20; fail)
    refine han.mono ?_
    rintro r w6 ⟨rfl, hb6⟩
    have hU6 : Below w.heap.size w w6 := hU4.trans (hb6.mono hU4.size)
    have hb7 : Below w6.heap.size w6 (w6.alloc (.cells #[.int .i64 (m : Int), .string ch] 41)) := (Below.refl _ _).alloc (Nat.le_refl _) _
    have iB : InB w uq (.slice p l.length cp) l w6.heap.size (m : Int) ch (w6.alloc (.cells #[.int .i64 (m : Int), .string ch] 41)) := ⟨⟨hU6.trans (hb7.mono hU6.size), heap_alloc_new _ _⟩, (hR4.up hb6).up hb7⟩
    clear hR4 hU4 hb6 hU6 hb7 han
    obtain ⟨qb, hqb⟩ : ∃ q, q = w6.heap.size := ⟨_, rfl⟩
    obtain ⟨i0, hi, hz0, hz1, hz2⟩ := info_parts infoS
    have hsz : (w6.alloc (.cells #[.int .i64 (m : Int), .string ch] 41)).heap.size = w6.heap.size + 1 := World.size_alloc _ _
    have HO8 : Hid (OwT (w6.heap.size + 1) (.slice (some ⟨w6.heap.size + 1, 0, none⟩) 0 0) [] ((w6.alloc (.cells #[.int .i64 (m : Int), .string ch] 41)).alloc (.cells #[] 9))) := by have := OwT.lit (w6.alloc (.cells #[.int .i64 (m : Int), .string ch] 41)); rwa [hsz] at this
    have HL8 : Hid (SliceIs ((w6.alloc (.cells #[.int .i64 (m : Int), .string ch] 41)).alloc (.cells #[] 9)) (.slice p l.length cp) l) := iB.recs.slice.up ((Below.refl _ _).alloc (Nat.le_refl _) _)
    have HB8 : Hid (Below (w6.heap.size + 1) (w6.alloc (.cells #[.int .i64 (m : Int), .string ch] 41)) ((w6.alloc (.cells #[.int .i64 (m : Int), .string ch] 41)).alloc (.cells #[] 9))) := by have := (Below.refl ((w6.alloc (.cells #[.int .i64 (m : Int), .string ch] 41)).heap.size) (w6.alloc (.cells #[.int .i64 (m : Int), .string ch] 41))).alloc (Nat.le_refl _) (.cells #[] 9); rwa [hsz] at this
    have HI : Hid (InB w uq (.slice p l.length cp) l w6.heap.size (m : Int) ch (w6.alloc (.cells #[.int .i64 (m : Int), .string ch] 41))) := iB
    clear iB hqb qb hsz
    go_wp2_with (first | (refine Go.Proofs.YtcfekhahibklfaaDoor.cp.wpList_append_texts _ rfl (.tmp 69) (.tmp 70) 23 rfl (w6.heap.size + 1) 9 i0 (.string ⟨#[]⟩) 16 Tryd.underlying23 hi hz0 hz1 hz2 rfl (.slice (some ⟨w6.heap.size + 1, 0, none⟩) 0 0) 0 [] rfl HO8.out (.slice p l.length cp) l rfl HL8.out (by unfold maxLen; omega) (by omega) (by first | (simp only [World.size_alloc]; omega) | (simp only [World.size_alloc]; done) | simp [World.size_alloc]) ?_; intro v10 w10 hown10 hg10; have hO10 := OwT.of0 hown10; have HB10 := below_own HB8.out hg10 HO8.out (Nat.le_refl _) (by first | (simp only [World.size_alloc]; omega) | (simp only [World.size_alloc]; done) | simp [World.size_alloc]); obtain ⟨p10, c10, hv10⟩ := hO10.shape; subst hv10; have hq10 : w6.heap.size + 1 ≤ w10.heap.size := (by have h9 := hg10.size; rw [World.size_alloc, World.size_alloc] at h9; exact Nat.le_trans (Nat.le_succ _) h9); clear hown10 hg10; have HB11 : Hid (∀ o, Below (w6.heap.size + 1) (w6.alloc (.cells #[.int .i64 (m : Int), .string ch] 41)) (w10.alloc o)) := fun o => HB10.alloc hq10 o; have hsz10 : Hid (∀ o, w6.heap.size + 1 ≤ (w10.alloc o).heap.size) := fun o => Nat.le_trans hq10 (by rw [World.size_alloc]; exact Nat.le_succ _); clear HB10 hq10) | (refine wpList_append_own _ rfl (.tmp 71) (.tmp 72) 23 rfl (w6.heap.size + 1) 9 i0 (.string ⟨#[]⟩) 1 16 Tryd.underlying23 hi hz0 hz1 hz2 rfl (by decide) (.slice p10 l.length c10) l.length (l.map Value.string) rfl (hO10.alloc _) ⟨w10.heap.size, 0, none⟩ 1 1 [.string ⟨#[109, 111, 114, 101]⟩] rfl rfl (cell_one_new _ _ _) (by simp [Value.oneCell']) (by unfold maxLen; omega) (by omega) (hsz10.out _) ?_; intro v11 w11 hown11 hg11 hnil; clear hnil))
    have hO11 := OwT.of1 hown11
    have hB11 : Below (w6.heap.size + 1) (w6.alloc (.cells #[.int .i64 (m : Int), .string ch] 41)) w11 := below_own (HB11.out _) hg11 (hO10.alloc _) (Nat.le_refl _) (hsz10.out _)
    have hB12 : Below (w6.alloc (.cells #[.int .i64 (m : Int), .string ch] 41)).heap.size (w6.alloc (.cells #[.int .i64 (m : Int), .string ch] 41)) w11 := by rw [World.size_alloc]; exact hB11
    have i11 := HI.out.up hB12
    clear hO10 hown11 hg11 hB11 hB12 HB11 hsz10 HO8 HL8 HB8 HI hi hz0 hz1 hz2
    have hti2 := li.textI_any k v11 (l ++ [⟨#[109, 111, 114, 101]⟩]) w11 hk2m (by rw [List.length_append, List.length_singleton]; unfold maxLen; omega) (fun r hr => by
      rcases List.mem_append.1 hr with h | h
      · exact Nat.le_trans (hsm r h) (by decide)
      · rw [List.mem_singleton.1 h]; decide) (HT.out w11 i11.one.bel) hO11.slice
    obtain ⟨t3, ht3⟩ : ∃ t, t = logT macB k (l ++ [⟨#[109, 111, 114, 101]⟩]) := ⟨_, rfl⟩
    have HT3 : Hid (t3 = logT macB k (l ++ [⟨#[109, 111, 114, 101]⟩])) := ht3
    rw [← ht3] at hti2
    clear ht3
    refine hti2.mono ?_
    rintro r w12 ⟨rfl, hb12⟩
    have i12 := i11.up hb12
    clear i11 hb12 hti2 hO11
    have ht2s : t2.size ≤ maxLen := by rw [HTe.out]; exact Nat.le_trans (textLe k l) (by decide)
    have ht3s : t3.size ≤ maxLen := by rw [HT3.out]; exact Nat.le_trans (textLe k (l ++ [⟨#[109, 111, 114, 101]⟩])) (by decide)
    have hchm : ch.size ≤ maxLen := Nat.le_trans hch (by decide)
    have HV1 : Hid (∀ u, InB w uq (.slice p l.length cp) l w6.heap.size (m : Int) ch u → Calls Tryd.prog 25 #[.string k, .agg #[.int .i64 (m : Int), .string ch], .string t2] u fun e w' => e = .returned (.bool true) ∧ Below u.heap.size u w') := fun u hu =>
      (li.verI_any k t2 ch (m : Int) u hk2m ht2s hchm (HT.out u hu.one.bel)).mono (by
        rintro e w' ⟨d, rfl, hd, hb⟩
        have : d = true := hd.2 (by rw [HTe.out, HCH.out]; exact ver_same lm.macB_32 hrl hz8 hml)
        rw [this]; exact ⟨rfl, hb⟩)
    have HV2 : Hid (t3 ≠ ⟨#[]⟩ → ∀ u, InB w uq (.slice p l.length cp) l w6.heap.size (m : Int) ch u → Calls Tryd.prog 25 #[.string k, .agg #[.int .i64 (m : Int), .string ch], .string t3] u fun e w' => e = .returned (.bool true) ∧ Below u.heap.size u w') := fun h3 u hu =>
      (li.verI_any k t3 ch (m : Int) u hk2m ht3s hchm (HT.out u hu.one.bel)).mono (by
        rintro e w' ⟨d, rfl, hd, hb⟩
        obtain ⟨hr3, hz3⟩ := logT_full (mac := macB) (key := k) (l := (l ++ [⟨#[109, 111, 114, 101]⟩])) (by rw [← HT3.out]; exact h3)
        have : d = true := hd.2 (by rw [HT3.out, HCH.out]; exact ver_more lm.macB_32 hr3 hz3 hml)
        rw [this]; exact ⟨rfl, hb⟩)
    have hl0 : l ≠ [] := fun e => by rw [e] at hl1; simp at hl1
    obtain ⟨c0, c1⟩ := i12.one.cells
    go_wp2_with (go_at_call 25; fail)
    refine (HV1.out w12 i12).mono ?_
    rintro r w13 ⟨rfl, hb13⟩
    have i13 := i12.up hb13
    clear i12 hb13 HV1 c0 c1
    by_cases h3 : t3 = ⟨#[]⟩
    · have i14 := i13
      subst h3
      clear i13 HV2
      go_wp2
      refine wp_w (InB w uq (.slice p l.length cp) l w6.heap.size (m : Int) ch) i14 ?_
      clear i14
      intro u14 i14
      have i15 := i14.drew
      have HS : Hid (∀ u, InB w uq (.slice p l.length cp) l w6.heap.size (m : Int) ch u → u.cell? ⟨w6.heap.size, 0, none⟩ = some (.int .i64 (m : Int)) ∧ u.cell? ⟨w6.heap.size, 1, none⟩ = some (.string ch)) := fun u hu => hu.one.cells
      rcases Nat.eq_zero_or_pos m with hm0 | hm0
      · have hlt : (m : Int) < 1 := by omega
        have dlt : decide ((m : Int) < 1) = true := decide_eq_true hlt
        refine wp_region_noPanic ?_
        refine wp_region_held_drew (S := fun u => u.cell? ⟨w6.heap.size, 0, none⟩ = some (.int .i64 (m : Int)) ∧ u.cell? ⟨w6.heap.size, 1, none⟩ = some (.string ch)) (by kernel_rfl) (HS.out _ i15) (fun hHeld => ?_)
        refine wpAnyH_take (i := 0) (oi := { dst := some 91, op := Op.move (Operand.tmp 11), type := 2, pos := "laws.go:247", after := #[], guard := none }) (v := ?_) rfl (by kernel_rfl) (by kernel_rfl) (by kernel_rfl) (fun _ _ _ h => h) (Or.inl ⟨by rfl, ?_⟩) hHeld ?_
        rotate_left
        · rintro w ⟨z0, z1⟩; go_simp; (try with_reducible rfl)
        try simp only [Act.put, List.setIfInBounds_toArray, List.set_cons_zero, List.set_cons_succ]
        refine wpAnyH_take (i := 1) (oi := { dst := some 92, op := Op.binOp BinOp.lss 2 (Operand.tmp 91) (Operand.const (Value.int IntKind.i64 1)) 2, type := 4, pos := "laws.go:247", after := #[{ on := 0, ground := Ground.data }], guard := none }) (v := ?_) rfl (by kernel_rfl) (by kernel_rfl) (by kernel_rfl) (fun _ _ _ h => h) (Or.inl ⟨by rfl, ?_⟩) hHeld ?_
        rotate_left
        · rintro w ⟨z0, z1⟩; go_simp; (try with_reducible rfl)
        try simp only [Act.put, List.setIfInBounds_toArray, List.set_cons_zero, List.set_cons_succ]
        refine wpAnyH_take (i := 2) (oi := { dst := some 93, op := Op.move (Operand.tmp 92), type := 4, pos := "laws.go:247", after := #[{ on := 1, ground := Ground.data }], guard := none }) (v := .bool true) rfl (by kernel_rfl) (by kernel_rfl) (by kernel_rfl) (fun _ _ _ h => h) (Or.inl ⟨by rfl, ?_⟩) hHeld ?_
        · rintro w ⟨z0, z1⟩; go_simp; (try with_reducible rfl)
        try simp only [Act.put, List.setIfInBounds_toArray, List.set_cons_zero, List.set_cons_succ]
        refine wpAnyH_take (i := 3) (oi := { dst := some 94, op := Op.move (Operand.tmp 8), type := 9, pos := "laws.go:247", after := #[{ on := 2, ground := Ground.guard }], guard := some (2, false) }) (v := undef) rfl (by kernel_rfl) (by kernel_rfl) (by kernel_rfl) (fun _ _ _ h => h) (Or.inr ⟨by rfl, rfl⟩) hHeld ?_
        try simp only [Act.put, List.setIfInBounds_toArray, List.set_cons_zero, List.set_cons_succ]
        refine wpAnyH_take (i := 4) (oi := { dst := some 95, op := Op.load 41 (Operand.tmp 12), type := 41, pos := "laws.go:247", after := #[{ on := 2, ground := Ground.guard }], guard := some (2, false) }) (v := undef) rfl (by kernel_rfl) (by kernel_rfl) (by kernel_rfl) (fun _ _ _ h => h) (Or.inr ⟨by rfl, rfl⟩) hHeld ?_
        try simp only [Act.put, List.setIfInBounds_toArray, List.set_cons_zero, List.set_cons_succ]
        refine wpAnyH_take (i := 5) (oi := { dst := some 96, op := Op.move (Operand.tmp 8), type := 9, pos := "laws.go:247", after := #[{ on := 2, ground := Ground.guard }], guard := some (2, false) }) (v := undef) rfl (by kernel_rfl) (by kernel_rfl) (by kernel_rfl) (fun _ _ _ h => h) (Or.inr ⟨by rfl, rfl⟩) hHeld ?_
        try simp only [Act.put, List.setIfInBounds_toArray, List.set_cons_zero, List.set_cons_succ]
        refine wpAnyH_take (i := 6) (oi := { dst := some 97, op := Op.move (Operand.tmp 9), type := 23, pos := "laws.go:247", after := #[{ on := 2, ground := Ground.guard }], guard := some (2, false) }) (v := undef) rfl (by kernel_rfl) (by kernel_rfl) (by kernel_rfl) (fun _ _ _ h => h) (Or.inr ⟨by rfl, rfl⟩) hHeld ?_
        try simp only [Act.put, List.setIfInBounds_toArray, List.set_cons_zero, List.set_cons_succ]
        refine wpAnyH_take (i := 7) (oi := { dst := some 98, op := Op.move (Operand.tmp 11), type := 2, pos := "laws.go:247", after := #[{ on := 2, ground := Ground.guard }], guard := some (2, false) }) (v := undef) rfl (by kernel_rfl) (by kernel_rfl) (by kernel_rfl) (fun _ _ _ h => h) (Or.inr ⟨by rfl, rfl⟩) hHeld ?_
        try simp only [Act.put, List.setIfInBounds_toArray, List.set_cons_zero, List.set_cons_succ]
        refine wpAnyH_take (i := 8) (oi := { dst := some 99, op := Op.binOp BinOp.sub 2 (Operand.tmp 98) (Operand.const (Value.int IntKind.i64 1)) 2, type := 2, pos := "laws.go:247", after := #[{ on := 7, ground := Ground.data }, { on := 2, ground := Ground.guard }], guard := some (2, false) }) (v := undef) rfl (by kernel_rfl) (by kernel_rfl) (by kernel_rfl) (fun _ _ _ h => h) (Or.inr ⟨by rfl, rfl⟩) hHeld ?_
        try simp only [Act.put, List.setIfInBounds_toArray, List.set_cons_zero, List.set_cons_succ]
        refine wpAnyH_take (i := 9) (oi := { dst := some 100, op := Op.slice 23 (Operand.tmp 97) none (some (Operand.tmp 99)) none, type := 23, pos := "laws.go:247", after := #[{ on := 6, ground := Ground.data }, { on := 8, ground := Ground.data }, { on := 2, ground := Ground.guard }], guard := some (2, false) }) (v := undef) rfl (by kernel_rfl) (by kernel_rfl) (by kernel_rfl) (fun _ _ _ h => h) (Or.inr ⟨by rfl, rfl⟩) hHeld ?_
        try simp only [Act.put, List.setIfInBounds_toArray, List.set_cons_zero, List.set_cons_succ]
        refine wpAnyH_take (i := 10) (oi := { dst := some 101, op := Op.call { callee := Callee.value (Operand.func 7), args := #[Operand.tmp 96, Operand.tmp 100], argTypes := #[9, 23] }, type := 9, pos := "laws.go:247", after := #[{ on := 5, ground := Ground.data }, { on := 9, ground := Ground.data }, { on := 2, ground := Ground.chain }, { on := 2, ground := Ground.guard }], guard := some (2, false) }) (v := undef) rfl (by kernel_rfl) (by kernel_rfl) (by kernel_rfl) (fun _ _ _ h => h) (Or.inr ⟨by rfl, rfl⟩) hHeld ?_
        try simp only [Act.put, List.setIfInBounds_toArray, List.set_cons_zero, List.set_cons_succ]
        refine wpAnyH_take (i := 11) (oi := { dst := some 102, op := Op.call { callee := Callee.value (Operand.func 25), args := #[Operand.tmp 94, Operand.tmp 95, Operand.tmp 101], argTypes := #[9, 41, 9] }, type := 4, pos := "laws.go:247", after := #[{ on := 3, ground := Ground.data }, { on := 4, ground := Ground.data }, { on := 10, ground := Ground.data }, { on := 10, ground := Ground.chain }, { on := 2, ground := Ground.guard }], guard := some (2, false) }) (v := undef) rfl (by kernel_rfl) (by kernel_rfl) (by kernel_rfl) (fun _ _ _ h => h) (Or.inr ⟨by rfl, rfl⟩) hHeld ?_
        try simp only [Act.put, List.setIfInBounds_toArray, List.set_cons_zero, List.set_cons_succ]
        refine wpAnyH_take (i := 12) (oi := { dst := some 103, op := Op.unOp UnOp.not 4 (Operand.tmp 102), type := 4, pos := "laws.go:247", after := #[{ on := 11, ground := Ground.data }, { on := 2, ground := Ground.guard }], guard := some (2, false) }) (v := undef) rfl (by kernel_rfl) (by kernel_rfl) (by kernel_rfl) (fun _ _ _ h => h) (Or.inr ⟨by rfl, rfl⟩) hHeld ?_
        try simp only [Act.put, List.setIfInBounds_toArray, List.set_cons_zero, List.set_cons_succ]
        refine wpAnyH_take (i := 13) (oi := { dst := some 104, op := Op.pick (Operand.tmp 93) (Operand.const (Value.bool true)) (Operand.tmp 103), type := 4, pos := "laws.go:247", after := #[{ on := 2, ground := Ground.data }, { on := 12, ground := Ground.data }], guard := none }) (v := .bool true) rfl (by kernel_rfl) (by kernel_rfl) (by kernel_rfl) (fun _ _ _ h => h) (Or.inl ⟨by rfl, ?_⟩) hHeld ?_
        · rintro w ⟨z0, z1⟩; go_simp; (try with_reducible rfl)
        try simp only [Act.put, List.setIfInBounds_toArray, List.set_cons_zero, List.set_cons_succ]
        refine wpAnyH_take (i := 14) (oi := { dst := some 4, op := Op.assign (Operand.tmp 104), type := 4, pos := "laws.go:247", after := #[{ on := 13, ground := Ground.data }, { on := 11, ground := Ground.chain }, { on := 0, ground := Ground.phase }, { on := 1, ground := Ground.phase }, { on := 2, ground := Ground.phase }, { on := 3, ground := Ground.phase }, { on := 4, ground := Ground.phase }, { on := 5, ground := Ground.phase }, { on := 6, ground := Ground.phase }, { on := 7, ground := Ground.phase }, { on := 8, ground := Ground.phase }, { on := 9, ground := Ground.phase }, { on := 10, ground := Ground.phase }, { on := 11, ground := Ground.phase }, { on := 12, ground := Ground.phase }, { on := 13, ground := Ground.phase }], guard := none }) (v := .bool true) rfl (by kernel_rfl) (by kernel_rfl) (by kernel_rfl) (fun _ _ _ h => h) (Or.inl ⟨by rfl, ?_⟩) hHeld ?_
        · rintro w ⟨z0, z1⟩; go_simp; (try with_reducible rfl)
        try simp only [Act.put, List.setIfInBounds_toArray, List.set_cons_zero, List.set_cons_succ]
        refine wpAnyH_done (by kernel_rfl) ?_ _
        refine NoPanic.normal ?_
        go_wp2
        go_ret
        exact ⟨rfl, i15.one.bel⟩
      · obtain ⟨d, hd⟩ : ∃ d, m = d + 1 := ⟨m - 1, by omega⟩
        have hlt : ¬ (m : Int) < 1 := by omega
        have dlt : decide ((m : Int) < 1) = false := decide_eq_false hlt
        have hdI : (m : Int) - 1 = (d : Int) := by omega
        have hdI2 : IntKind.i64.wrap ((m : Int) - 1) = (d : Int) := by rw [IntKind.wrap_i64]; omega
        have hwd : IntKind.i64.wrap (d : Int) = (d : Int) := by rw [IntKind.wrap_i64]; omega
        obtain ⟨g, hg0⟩ : ∃ g, p = some ⟨g, 0, none⟩ := by
          obtain ⟨g, cg, hv9, _⟩ := OwT.block (show OwT _ _ l u14 from i14.recs.row) hl0
          simp only [Value.slice.injEq] at hv9
          exact ⟨g, hv9.1⟩
        subst hg0
        have hcap := i14.recs.capd _ _ _ rfl
        have hdc : d ≤ cp := by omega
        have hdc2 : (d : Int) ≤ (cp : Int) := by omega
        have hd0 : (0 : Int) ≤ (d : Int) := by omega
        have hcp9 := hcap.2
        unfold maxLen at hcp9
        have hdl : d < l.length := by omega
        have HL4 : Hid (∀ u, InB w uq (.slice (some ⟨g, 0, none⟩) l.length cp) l w6.heap.size (m : Int) ch u → Calls Tryd.prog 7 #[.string k, .slice (some ⟨g, 0, none⟩) d cp] u fun e w' => e = .returned (.string (logT macB k (l.take d))) ∧ Below u.heap.size u w') := fun u hu => by
          have hlt' : (l.take d).length = d := by rw [List.length_take]; omega
          have hs2 : SliceIs u (.slice (some ⟨g, 0, none⟩) d cp) (l.take d) := by
            rcases hu.recs.slice with ⟨p2, c2, hl9, _⟩ | ⟨b, off, c2, hb, he, hRw⟩
            · exact absurd hl9 hl0
            · simp only [Value.slice.injEq, Option.some.injEq, Addr.mk.injEq] at he
              obtain ⟨⟨rfl, rfl, _⟩, _, rfl⟩ := he
              refine .inr ⟨g, 0, cp, hb, by rw [hlt'], fun j hj => ?_⟩
              rw [hlt'] at hj
              rw [hRw j (by omega), List.getD_eq_getElem?_getD, List.getD_eq_getElem?_getD, List.getElem?_take_of_lt hj]
          exact li.textI_any k _ (l.take d) u hk2m (by rw [hlt']; unfold maxLen; omega) (fun r hr => Nat.le_trans (hsm r (List.mem_of_mem_take hr)) (by decide)) (HT.out u hu.one.bel) hs2
        obtain ⟨t4, ht4⟩ : ∃ t, t = logT macB k (l.take d) := ⟨_, rfl⟩
        rw [← ht4] at HL4
        have HV4 : Hid (∀ u, InB w uq (.slice (some ⟨g, 0, none⟩) l.length cp) l w6.heap.size (m : Int) ch u → Calls Tryd.prog 25 #[.string k, .agg #[.int .i64 (m : Int), .string ch], .string t4] u fun e w' => e = .returned (.bool false) ∧ Below u.heap.size u w') := fun u hu =>
          (li.verI_any k t4 ch (m : Int) u hk2m (by rw [ht4]; exact textLe _ _) hchm (HT.out u hu.one.bel)).mono (by
            rintro e w' ⟨d', rfl, hd', hb⟩
            have : d' = false := by
              cases d'
              · rfl
              · exact absurd (hd'.1 rfl) (by rw [ht4]; exact ver_less lm.macB_32 hrl.2.1 (by rw [List.length_take]; omega))
            rw [this]; exact ⟨rfl, hb⟩)
        clear ht4 hd hcap
        refine wp_region_noPanic ?_
        refine wp_region_held_drew (S := fun u => u.cell? ⟨w6.heap.size, 0, none⟩ = some (.int .i64 (m : Int)) ∧ u.cell? ⟨w6.heap.size, 1, none⟩ = some (.string ch)) (by kernel_rfl) (HS.out _ i15) (fun hHeld => ?_)
        refine wpAnyH_take (i := 0) (oi := { dst := some 91, op := Op.move (Operand.tmp 11), type := 2, pos := "laws.go:247", after := #[], guard := none }) (v := ?_) rfl (by kernel_rfl) (by kernel_rfl) (by kernel_rfl) (fun _ _ _ h => h) (Or.inl ⟨by rfl, ?_⟩) hHeld ?_
        rotate_left
        · rintro w ⟨z0, z1⟩; go_simp; (try with_reducible rfl)
        try simp only [Act.put, List.setIfInBounds_toArray, List.set_cons_zero, List.set_cons_succ]
        refine wpAnyH_take (i := 1) (oi := { dst := some 92, op := Op.binOp BinOp.lss 2 (Operand.tmp 91) (Operand.const (Value.int IntKind.i64 1)) 2, type := 4, pos := "laws.go:247", after := #[{ on := 0, ground := Ground.data }], guard := none }) (v := .bool false) rfl (by kernel_rfl) (by kernel_rfl) (by kernel_rfl) (fun _ _ _ h => h) (Or.inl ⟨by rfl, ?_⟩) hHeld ?_
        · rintro w ⟨z0, z1⟩; go_simp; (try with_reducible rfl)
        try simp only [Act.put, List.setIfInBounds_toArray, List.set_cons_zero, List.set_cons_succ]
        refine wpAnyH_take (i := 2) (oi := { dst := some 93, op := Op.move (Operand.tmp 92), type := 4, pos := "laws.go:247", after := #[{ on := 1, ground := Ground.data }], guard := none }) (v := .bool false) rfl (by kernel_rfl) (by kernel_rfl) (by kernel_rfl) (fun _ _ _ h => h) (Or.inl ⟨by rfl, ?_⟩) hHeld ?_
        · rintro w ⟨z0, z1⟩; go_simp; (try with_reducible rfl)
        try simp only [Act.put, List.setIfInBounds_toArray, List.set_cons_zero, List.set_cons_succ]
        refine wpAnyH_take (i := 3) (oi := { dst := some 94, op := Op.move (Operand.tmp 8), type := 9, pos := "laws.go:247", after := #[{ on := 2, ground := Ground.guard }], guard := some (2, false) }) (v := ?_) rfl (by kernel_rfl) (by kernel_rfl) (by kernel_rfl) (fun _ _ _ h => h) (Or.inl ⟨by rfl, ?_⟩) hHeld ?_
        rotate_left
        · rintro w ⟨z0, z1⟩; go_simp; (try with_reducible rfl)
        try simp only [Act.put, List.setIfInBounds_toArray, List.set_cons_zero, List.set_cons_succ]
        refine wpAnyH_take (i := 4) (oi := { dst := some 95, op := Op.load 41 (Operand.tmp 12), type := 41, pos := "laws.go:247", after := #[{ on := 2, ground := Ground.guard }], guard := some (2, false) }) (v := ?_) rfl (by kernel_rfl) (by kernel_rfl) (by kernel_rfl) (fun _ _ _ h => h) (Or.inl ⟨by rfl, ?_⟩) hHeld ?_
        rotate_left
        · rintro w ⟨z0, z1⟩; go_simp; (try with_reducible rfl)
        try simp only [Act.put, List.setIfInBounds_toArray, List.set_cons_zero, List.set_cons_succ]
        refine wpAnyH_take (i := 5) (oi := { dst := some 96, op := Op.move (Operand.tmp 8), type := 9, pos := "laws.go:247", after := #[{ on := 2, ground := Ground.guard }], guard := some (2, false) }) (v := ?_) rfl (by kernel_rfl) (by kernel_rfl) (by kernel_rfl) (fun _ _ _ h => h) (Or.inl ⟨by rfl, ?_⟩) hHeld ?_
        rotate_left
        · rintro w ⟨z0, z1⟩; go_simp; (try with_reducible rfl)
        try simp only [Act.put, List.setIfInBounds_toArray, List.set_cons_zero, List.set_cons_succ]
        refine wpAnyH_take (i := 6) (oi := { dst := some 97, op := Op.move (Operand.tmp 9), type := 23, pos := "laws.go:247", after := #[{ on := 2, ground := Ground.guard }], guard := some (2, false) }) (v := ?_) rfl (by kernel_rfl) (by kernel_rfl) (by kernel_rfl) (fun _ _ _ h => h) (Or.inl ⟨by rfl, ?_⟩) hHeld ?_
        rotate_left
        · rintro w ⟨z0, z1⟩; go_simp; (try with_reducible rfl)
        try simp only [Act.put, List.setIfInBounds_toArray, List.set_cons_zero, List.set_cons_succ]
        refine wpAnyH_take (i := 7) (oi := { dst := some 98, op := Op.move (Operand.tmp 11), type := 2, pos := "laws.go:247", after := #[{ on := 2, ground := Ground.guard }], guard := some (2, false) }) (v := ?_) rfl (by kernel_rfl) (by kernel_rfl) (by kernel_rfl) (fun _ _ _ h => h) (Or.inl ⟨by rfl, ?_⟩) hHeld ?_
        rotate_left
        · rintro w ⟨z0, z1⟩; go_simp; (try with_reducible rfl)
        try simp only [Act.put, List.setIfInBounds_toArray, List.set_cons_zero, List.set_cons_succ]
        refine wpAnyH_take (i := 8) (oi := { dst := some 99, op := Op.binOp BinOp.sub 2 (Operand.tmp 98) (Operand.const (Value.int IntKind.i64 1)) 2, type := 2, pos := "laws.go:247", after := #[{ on := 7, ground := Ground.data }, { on := 2, ground := Ground.guard }], guard := some (2, false) }) (v := .int .i64 (d : Int)) rfl (by kernel_rfl) (by kernel_rfl) (by kernel_rfl) (fun _ _ _ h => h) (Or.inl ⟨by rfl, ?_⟩) hHeld ?_
        · rintro w ⟨z0, z1⟩; go_simp; (try with_reducible rfl)
        try simp only [Act.put, List.setIfInBounds_toArray, List.set_cons_zero, List.set_cons_succ]
        refine wpAnyH_take (i := 9) (oi := { dst := some 100, op := Op.slice 23 (Operand.tmp 97) none (some (Operand.tmp 99)) none, type := 23, pos := "laws.go:247", after := #[{ on := 6, ground := Ground.data }, { on := 8, ground := Ground.data }, { on := 2, ground := Ground.guard }], guard := some (2, false) }) (v := .slice (some ⟨g, 0, none⟩) d cp) rfl (by kernel_rfl) (by kernel_rfl) (by kernel_rfl) (fun _ _ _ h => h) (Or.inl ⟨by rfl, ?_⟩) hHeld ?_
        · rintro w ⟨z0, z1⟩; go_simp; (try with_reducible rfl)
        try simp only [Act.put, List.setIfInBounds_toArray, List.set_cons_zero, List.set_cons_succ]
        refine wpAnyH_ready (rs := [10]) (by kernel_rfl) (by simp) ?_
        refine AllReadyH.cons rfl (fun K hK => ?_) AllReadyH.nil
        go_simp
        go_at_call 7
        refine (HL4.out _ i15).mono ?_
        rintro ep up ⟨rfl, hbp⟩
        have ip := (i15).up hbp
        go_wp2_with fail
        refine hK.out _ _ (HS.out _ ip) (fun hHeld => ?_)
        clear hbp
        clear hK K
        try simp only [Act.put, List.setIfInBounds_toArray, List.set_cons_zero, List.set_cons_succ]
        refine wpAnyH_ready (rs := [11]) (by kernel_rfl) (by simp) ?_
        refine AllReadyH.cons rfl (fun K hK => ?_) AllReadyH.nil
        go_simp
        go_at_call 25
        refine (HV4.out _ ip).mono ?_
        rintro eq uq ⟨rfl, hbq⟩
        have iq := (ip).up hbq
        go_wp2_with fail
        refine hK.out _ _ (HS.out _ iq) (fun hHeld => ?_)
        clear hbq
        clear hK K
        try simp only [Act.put, List.setIfInBounds_toArray, List.set_cons_zero, List.set_cons_succ]
        refine wpAnyH_take (i := 12) (oi := { dst := some 103, op := Op.unOp UnOp.not 4 (Operand.tmp 102), type := 4, pos := "laws.go:247", after := #[{ on := 11, ground := Ground.data }, { on := 2, ground := Ground.guard }], guard := some (2, false) }) (v := .bool true) rfl (by kernel_rfl) (by kernel_rfl) (by kernel_rfl) (fun _ _ _ h => h) (Or.inl ⟨by rfl, ?_⟩) hHeld ?_
        · rintro w ⟨z0, z1⟩; go_simp; (try with_reducible rfl)
        try simp only [Act.put, List.setIfInBounds_toArray, List.set_cons_zero, List.set_cons_succ]
        refine wpAnyH_take (i := 13) (oi := { dst := some 104, op := Op.pick (Operand.tmp 93) (Operand.const (Value.bool true)) (Operand.tmp 103), type := 4, pos := "laws.go:247", after := #[{ on := 2, ground := Ground.data }, { on := 12, ground := Ground.data }], guard := none }) (v := .bool true) rfl (by kernel_rfl) (by kernel_rfl) (by kernel_rfl) (fun _ _ _ h => h) (Or.inl ⟨by rfl, ?_⟩) hHeld ?_
        · rintro w ⟨z0, z1⟩; go_simp; (try with_reducible rfl)
        try simp only [Act.put, List.setIfInBounds_toArray, List.set_cons_zero, List.set_cons_succ]
        refine wpAnyH_take (i := 14) (oi := { dst := some 4, op := Op.assign (Operand.tmp 104), type := 4, pos := "laws.go:247", after := #[{ on := 13, ground := Ground.data }, { on := 11, ground := Ground.chain }, { on := 0, ground := Ground.phase }, { on := 1, ground := Ground.phase }, { on := 2, ground := Ground.phase }, { on := 3, ground := Ground.phase }, { on := 4, ground := Ground.phase }, { on := 5, ground := Ground.phase }, { on := 6, ground := Ground.phase }, { on := 7, ground := Ground.phase }, { on := 8, ground := Ground.phase }, { on := 9, ground := Ground.phase }, { on := 10, ground := Ground.phase }, { on := 11, ground := Ground.phase }, { on := 12, ground := Ground.phase }, { on := 13, ground := Ground.phase }], guard := none }) (v := .bool true) rfl (by kernel_rfl) (by kernel_rfl) (by kernel_rfl) (fun _ _ _ h => h) (Or.inl ⟨by rfl, ?_⟩) hHeld ?_
        · rintro w ⟨z0, z1⟩; go_simp; (try with_reducible rfl)
        try simp only [Act.put, List.setIfInBounds_toArray, List.set_cons_zero, List.set_cons_succ]
        refine wpAnyH_done (by kernel_rfl) ?_ _
        refine NoPanic.normal ?_
        go_wp2
        go_ret
        exact ⟨rfl, iq.one.bel⟩
    · have q3 : t3.toList.isEmpty = false := by
        rw [List.isEmpty_eq_false_iff]
        intro e
        rw [ByteArray.toList_eq] at e
        exact h3 (by cases t3; simp only [ByteArray.mk.injEq]; exact Array.ext' e)
      obtain ⟨c0, c1⟩ := i13.one.cells
      have hv2 := HV2.out h3 w13 i13
      clear HV2
      go_wp2_with (go_at_call 25; fail)
      refine hv2.mono ?_
      rintro r w14 ⟨rfl, hb14⟩
      have i14 := i13.up hb14
      clear i13 hb14 hv2 c0 c1 h3 q3
      go_wp2
      refine wp_w (InB w uq (.slice p l.length cp) l w6.heap.size (m : Int) ch) i14 ?_
      clear i14
      intro u14 i14
      have i15 := i14.drew
      have HS : Hid (∀ u, InB w uq (.slice p l.length cp) l w6.heap.size (m : Int) ch u → u.cell? ⟨w6.heap.size, 0, none⟩ = some (.int .i64 (m : Int)) ∧ u.cell? ⟨w6.heap.size, 1, none⟩ = some (.string ch)) := fun u hu => hu.one.cells
      rcases Nat.eq_zero_or_pos m with hm0 | hm0
      · have hlt : (m : Int) < 1 := by omega
        have dlt : decide ((m : Int) < 1) = true := decide_eq_true hlt
        refine wp_region_noPanic ?_
        refine wp_region_held_drew (S := fun u => u.cell? ⟨w6.heap.size, 0, none⟩ = some (.int .i64 (m : Int)) ∧ u.cell? ⟨w6.heap.size, 1, none⟩ = some (.string ch)) (by kernel_rfl) (HS.out _ i15) (fun hHeld => ?_)
        refine wpAnyH_take (i := 0) (oi := { dst := some 91, op := Op.move (Operand.tmp 11), type := 2, pos := "laws.go:247", after := #[], guard := none }) (v := ?_) rfl (by kernel_rfl) (by kernel_rfl) (by kernel_rfl) (fun _ _ _ h => h) (Or.inl ⟨by rfl, ?_⟩) hHeld ?_
        rotate_left
        · rintro w ⟨z0, z1⟩; go_simp; (try with_reducible rfl)
        try simp only [Act.put, List.setIfInBounds_toArray, List.set_cons_zero, List.set_cons_succ]
        refine wpAnyH_take (i := 1) (oi := { dst := some 92, op := Op.binOp BinOp.lss 2 (Operand.tmp 91) (Operand.const (Value.int IntKind.i64 1)) 2, type := 4, pos := "laws.go:247", after := #[{ on := 0, ground := Ground.data }], guard := none }) (v := ?_) rfl (by kernel_rfl) (by kernel_rfl) (by kernel_rfl) (fun _ _ _ h => h) (Or.inl ⟨by rfl, ?_⟩) hHeld ?_
        rotate_left
        · rintro w ⟨z0, z1⟩; go_simp; (try with_reducible rfl)
        try simp only [Act.put, List.setIfInBounds_toArray, List.set_cons_zero, List.set_cons_succ]
        refine wpAnyH_take (i := 2) (oi := { dst := some 93, op := Op.move (Operand.tmp 92), type := 4, pos := "laws.go:247", after := #[{ on := 1, ground := Ground.data }], guard := none }) (v := .bool true) rfl (by kernel_rfl) (by kernel_rfl) (by kernel_rfl) (fun _ _ _ h => h) (Or.inl ⟨by rfl, ?_⟩) hHeld ?_
        · rintro w ⟨z0, z1⟩; go_simp; (try with_reducible rfl)
        try simp only [Act.put, List.setIfInBounds_toArray, List.set_cons_zero, List.set_cons_succ]
        refine wpAnyH_take (i := 3) (oi := { dst := some 94, op := Op.move (Operand.tmp 8), type := 9, pos := "laws.go:247", after := #[{ on := 2, ground := Ground.guard }], guard := some (2, false) }) (v := undef) rfl (by kernel_rfl) (by kernel_rfl) (by kernel_rfl) (fun _ _ _ h => h) (Or.inr ⟨by rfl, rfl⟩) hHeld ?_
        try simp only [Act.put, List.setIfInBounds_toArray, List.set_cons_zero, List.set_cons_succ]
        refine wpAnyH_take (i := 4) (oi := { dst := some 95, op := Op.load 41 (Operand.tmp 12), type := 41, pos := "laws.go:247", after := #[{ on := 2, ground := Ground.guard }], guard := some (2, false) }) (v := undef) rfl (by kernel_rfl) (by kernel_rfl) (by kernel_rfl) (fun _ _ _ h => h) (Or.inr ⟨by rfl, rfl⟩) hHeld ?_
        try simp only [Act.put, List.setIfInBounds_toArray, List.set_cons_zero, List.set_cons_succ]
        refine wpAnyH_take (i := 5) (oi := { dst := some 96, op := Op.move (Operand.tmp 8), type := 9, pos := "laws.go:247", after := #[{ on := 2, ground := Ground.guard }], guard := some (2, false) }) (v := undef) rfl (by kernel_rfl) (by kernel_rfl) (by kernel_rfl) (fun _ _ _ h => h) (Or.inr ⟨by rfl, rfl⟩) hHeld ?_
        try simp only [Act.put, List.setIfInBounds_toArray, List.set_cons_zero, List.set_cons_succ]
        refine wpAnyH_take (i := 6) (oi := { dst := some 97, op := Op.move (Operand.tmp 9), type := 23, pos := "laws.go:247", after := #[{ on := 2, ground := Ground.guard }], guard := some (2, false) }) (v := undef) rfl (by kernel_rfl) (by kernel_rfl) (by kernel_rfl) (fun _ _ _ h => h) (Or.inr ⟨by rfl, rfl⟩) hHeld ?_
        try simp only [Act.put, List.setIfInBounds_toArray, List.set_cons_zero, List.set_cons_succ]
        refine wpAnyH_take (i := 7) (oi := { dst := some 98, op := Op.move (Operand.tmp 11), type := 2, pos := "laws.go:247", after := #[{ on := 2, ground := Ground.guard }], guard := some (2, false) }) (v := undef) rfl (by kernel_rfl) (by kernel_rfl) (by kernel_rfl) (fun _ _ _ h => h) (Or.inr ⟨by rfl, rfl⟩) hHeld ?_
        try simp only [Act.put, List.setIfInBounds_toArray, List.set_cons_zero, List.set_cons_succ]
        refine wpAnyH_take (i := 8) (oi := { dst := some 99, op := Op.binOp BinOp.sub 2 (Operand.tmp 98) (Operand.const (Value.int IntKind.i64 1)) 2, type := 2, pos := "laws.go:247", after := #[{ on := 7, ground := Ground.data }, { on := 2, ground := Ground.guard }], guard := some (2, false) }) (v := undef) rfl (by kernel_rfl) (by kernel_rfl) (by kernel_rfl) (fun _ _ _ h => h) (Or.inr ⟨by rfl, rfl⟩) hHeld ?_
        try simp only [Act.put, List.setIfInBounds_toArray, List.set_cons_zero, List.set_cons_succ]
        refine wpAnyH_take (i := 9) (oi := { dst := some 100, op := Op.slice 23 (Operand.tmp 97) none (some (Operand.tmp 99)) none, type := 23, pos := "laws.go:247", after := #[{ on := 6, ground := Ground.data }, { on := 8, ground := Ground.data }, { on := 2, ground := Ground.guard }], guard := some (2, false) }) (v := undef) rfl (by kernel_rfl) (by kernel_rfl) (by kernel_rfl) (fun _ _ _ h => h) (Or.inr ⟨by rfl, rfl⟩) hHeld ?_
        try simp only [Act.put, List.setIfInBounds_toArray, List.set_cons_zero, List.set_cons_succ]
        refine wpAnyH_take (i := 10) (oi := { dst := some 101, op := Op.call { callee := Callee.value (Operand.func 7), args := #[Operand.tmp 96, Operand.tmp 100], argTypes := #[9, 23] }, type := 9, pos := "laws.go:247", after := #[{ on := 5, ground := Ground.data }, { on := 9, ground := Ground.data }, { on := 2, ground := Ground.chain }, { on := 2, ground := Ground.guard }], guard := some (2, false) }) (v := undef) rfl (by kernel_rfl) (by kernel_rfl) (by kernel_rfl) (fun _ _ _ h => h) (Or.inr ⟨by rfl, rfl⟩) hHeld ?_
        try simp only [Act.put, List.setIfInBounds_toArray, List.set_cons_zero, List.set_cons_succ]
        refine wpAnyH_take (i := 11) (oi := { dst := some 102, op := Op.call { callee := Callee.value (Operand.func 25), args := #[Operand.tmp 94, Operand.tmp 95, Operand.tmp 101], argTypes := #[9, 41, 9] }, type := 4, pos := "laws.go:247", after := #[{ on := 3, ground := Ground.data }, { on := 4, ground := Ground.data }, { on := 10, ground := Ground.data }, { on := 10, ground := Ground.chain }, { on := 2, ground := Ground.guard }], guard := some (2, false) }) (v := undef) rfl (by kernel_rfl) (by kernel_rfl) (by kernel_rfl) (fun _ _ _ h => h) (Or.inr ⟨by rfl, rfl⟩) hHeld ?_
        try simp only [Act.put, List.setIfInBounds_toArray, List.set_cons_zero, List.set_cons_succ]
        refine wpAnyH_take (i := 12) (oi := { dst := some 103, op := Op.unOp UnOp.not 4 (Operand.tmp 102), type := 4, pos := "laws.go:247", after := #[{ on := 11, ground := Ground.data }, { on := 2, ground := Ground.guard }], guard := some (2, false) }) (v := undef) rfl (by kernel_rfl) (by kernel_rfl) (by kernel_rfl) (fun _ _ _ h => h) (Or.inr ⟨by rfl, rfl⟩) hHeld ?_
        try simp only [Act.put, List.setIfInBounds_toArray, List.set_cons_zero, List.set_cons_succ]
        refine wpAnyH_take (i := 13) (oi := { dst := some 104, op := Op.pick (Operand.tmp 93) (Operand.const (Value.bool true)) (Operand.tmp 103), type := 4, pos := "laws.go:247", after := #[{ on := 2, ground := Ground.data }, { on := 12, ground := Ground.data }], guard := none }) (v := .bool true) rfl (by kernel_rfl) (by kernel_rfl) (by kernel_rfl) (fun _ _ _ h => h) (Or.inl ⟨by rfl, ?_⟩) hHeld ?_
        · rintro w ⟨z0, z1⟩; go_simp; (try with_reducible rfl)
        try simp only [Act.put, List.setIfInBounds_toArray, List.set_cons_zero, List.set_cons_succ]
        refine wpAnyH_take (i := 14) (oi := { dst := some 4, op := Op.assign (Operand.tmp 104), type := 4, pos := "laws.go:247", after := #[{ on := 13, ground := Ground.data }, { on := 11, ground := Ground.chain }, { on := 0, ground := Ground.phase }, { on := 1, ground := Ground.phase }, { on := 2, ground := Ground.phase }, { on := 3, ground := Ground.phase }, { on := 4, ground := Ground.phase }, { on := 5, ground := Ground.phase }, { on := 6, ground := Ground.phase }, { on := 7, ground := Ground.phase }, { on := 8, ground := Ground.phase }, { on := 9, ground := Ground.phase }, { on := 10, ground := Ground.phase }, { on := 11, ground := Ground.phase }, { on := 12, ground := Ground.phase }, { on := 13, ground := Ground.phase }], guard := none }) (v := .bool true) rfl (by kernel_rfl) (by kernel_rfl) (by kernel_rfl) (fun _ _ _ h => h) (Or.inl ⟨by rfl, ?_⟩) hHeld ?_
        · rintro w ⟨z0, z1⟩; go_simp; (try with_reducible rfl)
        try simp only [Act.put, List.setIfInBounds_toArray, List.set_cons_zero, List.set_cons_succ]
        refine wpAnyH_done (by kernel_rfl) ?_ _
        refine NoPanic.normal ?_
        go_wp2
        go_ret
        exact ⟨rfl, i15.one.bel⟩
      · obtain ⟨d, hd⟩ : ∃ d, m = d + 1 := ⟨m - 1, by omega⟩
        have hlt : ¬ (m : Int) < 1 := by omega
        have dlt : decide ((m : Int) < 1) = false := decide_eq_false hlt
        have hdI : (m : Int) - 1 = (d : Int) := by omega
        have hdI2 : IntKind.i64.wrap ((m : Int) - 1) = (d : Int) := by rw [IntKind.wrap_i64]; omega
        have hwd : IntKind.i64.wrap (d : Int) = (d : Int) := by rw [IntKind.wrap_i64]; omega
        obtain ⟨g, hg0⟩ : ∃ g, p = some ⟨g, 0, none⟩ := by
          obtain ⟨g, cg, hv9, _⟩ := OwT.block (show OwT _ _ l u14 from i14.recs.row) hl0
          simp only [Value.slice.injEq] at hv9
          exact ⟨g, hv9.1⟩
        subst hg0
        have hcap := i14.recs.capd _ _ _ rfl
        have hdc : d ≤ cp := by omega
        have hdc2 : (d : Int) ≤ (cp : Int) := by omega
        have hd0 : (0 : Int) ≤ (d : Int) := by omega
        have hcp9 := hcap.2
        unfold maxLen at hcp9
        have hdl : d < l.length := by omega
        have HL4 : Hid (∀ u, InB w uq (.slice (some ⟨g, 0, none⟩) l.length cp) l w6.heap.size (m : Int) ch u → Calls Tryd.prog 7 #[.string k, .slice (some ⟨g, 0, none⟩) d cp] u fun e w' => e = .returned (.string (logT macB k (l.take d))) ∧ Below u.heap.size u w') := fun u hu => by
          have hlt' : (l.take d).length = d := by rw [List.length_take]; omega
          have hs2 : SliceIs u (.slice (some ⟨g, 0, none⟩) d cp) (l.take d) := by
            rcases hu.recs.slice with ⟨p2, c2, hl9, _⟩ | ⟨b, off, c2, hb, he, hRw⟩
            · exact absurd hl9 hl0
            · simp only [Value.slice.injEq, Option.some.injEq, Addr.mk.injEq] at he
              obtain ⟨⟨rfl, rfl, _⟩, _, rfl⟩ := he
              refine .inr ⟨g, 0, cp, hb, by rw [hlt'], fun j hj => ?_⟩
              rw [hlt'] at hj
              rw [hRw j (by omega), List.getD_eq_getElem?_getD, List.getD_eq_getElem?_getD, List.getElem?_take_of_lt hj]
          exact li.textI_any k _ (l.take d) u hk2m (by rw [hlt']; unfold maxLen; omega) (fun r hr => Nat.le_trans (hsm r (List.mem_of_mem_take hr)) (by decide)) (HT.out u hu.one.bel) hs2
        obtain ⟨t4, ht4⟩ : ∃ t, t = logT macB k (l.take d) := ⟨_, rfl⟩
        rw [← ht4] at HL4
        have HV4 : Hid (∀ u, InB w uq (.slice (some ⟨g, 0, none⟩) l.length cp) l w6.heap.size (m : Int) ch u → Calls Tryd.prog 25 #[.string k, .agg #[.int .i64 (m : Int), .string ch], .string t4] u fun e w' => e = .returned (.bool false) ∧ Below u.heap.size u w') := fun u hu =>
          (li.verI_any k t4 ch (m : Int) u hk2m (by rw [ht4]; exact textLe _ _) hchm (HT.out u hu.one.bel)).mono (by
            rintro e w' ⟨d', rfl, hd', hb⟩
            have : d' = false := by
              cases d'
              · rfl
              · exact absurd (hd'.1 rfl) (by rw [ht4]; exact ver_less lm.macB_32 hrl.2.1 (by rw [List.length_take]; omega))
            rw [this]; exact ⟨rfl, hb⟩)
        clear ht4 hd hcap
        refine wp_region_noPanic ?_
        refine wp_region_held_drew (S := fun u => u.cell? ⟨w6.heap.size, 0, none⟩ = some (.int .i64 (m : Int)) ∧ u.cell? ⟨w6.heap.size, 1, none⟩ = some (.string ch)) (by kernel_rfl) (HS.out _ i15) (fun hHeld => ?_)
        refine wpAnyH_take (i := 0) (oi := { dst := some 91, op := Op.move (Operand.tmp 11), type := 2, pos := "laws.go:247", after := #[], guard := none }) (v := ?_) rfl (by kernel_rfl) (by kernel_rfl) (by kernel_rfl) (fun _ _ _ h => h) (Or.inl ⟨by rfl, ?_⟩) hHeld ?_
        rotate_left
        · rintro w ⟨z0, z1⟩; go_simp; (try with_reducible rfl)
        try simp only [Act.put, List.setIfInBounds_toArray, List.set_cons_zero, List.set_cons_succ]
        refine wpAnyH_take (i := 1) (oi := { dst := some 92, op := Op.binOp BinOp.lss 2 (Operand.tmp 91) (Operand.const (Value.int IntKind.i64 1)) 2, type := 4, pos := "laws.go:247", after := #[{ on := 0, ground := Ground.data }], guard := none }) (v := .bool false) rfl (by kernel_rfl) (by kernel_rfl) (by kernel_rfl) (fun _ _ _ h => h) (Or.inl ⟨by rfl, ?_⟩) hHeld ?_
        · rintro w ⟨z0, z1⟩; go_simp; (try with_reducible rfl)
        try simp only [Act.put, List.setIfInBounds_toArray, List.set_cons_zero, List.set_cons_succ]
        refine wpAnyH_take (i := 2) (oi := { dst := some 93, op := Op.move (Operand.tmp 92), type := 4, pos := "laws.go:247", after := #[{ on := 1, ground := Ground.data }], guard := none }) (v := .bool false) rfl (by kernel_rfl) (by kernel_rfl) (by kernel_rfl) (fun _ _ _ h => h) (Or.inl ⟨by rfl, ?_⟩) hHeld ?_
        · rintro w ⟨z0, z1⟩; go_simp; (try with_reducible rfl)
        try simp only [Act.put, List.setIfInBounds_toArray, List.set_cons_zero, List.set_cons_succ]
        refine wpAnyH_take (i := 3) (oi := { dst := some 94, op := Op.move (Operand.tmp 8), type := 9, pos := "laws.go:247", after := #[{ on := 2, ground := Ground.guard }], guard := some (2, false) }) (v := ?_) rfl (by kernel_rfl) (by kernel_rfl) (by kernel_rfl) (fun _ _ _ h => h) (Or.inl ⟨by rfl, ?_⟩) hHeld ?_
        rotate_left
        · rintro w ⟨z0, z1⟩; go_simp; (try with_reducible rfl)
        try simp only [Act.put, List.setIfInBounds_toArray, List.set_cons_zero, List.set_cons_succ]
        refine wpAnyH_take (i := 4) (oi := { dst := some 95, op := Op.load 41 (Operand.tmp 12), type := 41, pos := "laws.go:247", after := #[{ on := 2, ground := Ground.guard }], guard := some (2, false) }) (v := ?_) rfl (by kernel_rfl) (by kernel_rfl) (by kernel_rfl) (fun _ _ _ h => h) (Or.inl ⟨by rfl, ?_⟩) hHeld ?_
        rotate_left
        · rintro w ⟨z0, z1⟩; go_simp; (try with_reducible rfl)
        try simp only [Act.put, List.setIfInBounds_toArray, List.set_cons_zero, List.set_cons_succ]
        refine wpAnyH_take (i := 5) (oi := { dst := some 96, op := Op.move (Operand.tmp 8), type := 9, pos := "laws.go:247", after := #[{ on := 2, ground := Ground.guard }], guard := some (2, false) }) (v := ?_) rfl (by kernel_rfl) (by kernel_rfl) (by kernel_rfl) (fun _ _ _ h => h) (Or.inl ⟨by rfl, ?_⟩) hHeld ?_
        rotate_left
        · rintro w ⟨z0, z1⟩; go_simp; (try with_reducible rfl)
        try simp only [Act.put, List.setIfInBounds_toArray, List.set_cons_zero, List.set_cons_succ]
        refine wpAnyH_take (i := 6) (oi := { dst := some 97, op := Op.move (Operand.tmp 9), type := 23, pos := "laws.go:247", after := #[{ on := 2, ground := Ground.guard }], guard := some (2, false) }) (v := ?_) rfl (by kernel_rfl) (by kernel_rfl) (by kernel_rfl) (fun _ _ _ h => h) (Or.inl ⟨by rfl, ?_⟩) hHeld ?_
        rotate_left
        · rintro w ⟨z0, z1⟩; go_simp; (try with_reducible rfl)
        try simp only [Act.put, List.setIfInBounds_toArray, List.set_cons_zero, List.set_cons_succ]
        refine wpAnyH_take (i := 7) (oi := { dst := some 98, op := Op.move (Operand.tmp 11), type := 2, pos := "laws.go:247", after := #[{ on := 2, ground := Ground.guard }], guard := some (2, false) }) (v := ?_) rfl (by kernel_rfl) (by kernel_rfl) (by kernel_rfl) (fun _ _ _ h => h) (Or.inl ⟨by rfl, ?_⟩) hHeld ?_
        rotate_left
        · rintro w ⟨z0, z1⟩; go_simp; (try with_reducible rfl)
        try simp only [Act.put, List.setIfInBounds_toArray, List.set_cons_zero, List.set_cons_succ]
        refine wpAnyH_take (i := 8) (oi := { dst := some 99, op := Op.binOp BinOp.sub 2 (Operand.tmp 98) (Operand.const (Value.int IntKind.i64 1)) 2, type := 2, pos := "laws.go:247", after := #[{ on := 7, ground := Ground.data }, { on := 2, ground := Ground.guard }], guard := some (2, false) }) (v := .int .i64 (d : Int)) rfl (by kernel_rfl) (by kernel_rfl) (by kernel_rfl) (fun _ _ _ h => h) (Or.inl ⟨by rfl, ?_⟩) hHeld ?_
        · rintro w ⟨z0, z1⟩; go_simp; (try with_reducible rfl)
        try simp only [Act.put, List.setIfInBounds_toArray, List.set_cons_zero, List.set_cons_succ]
        refine wpAnyH_take (i := 9) (oi := { dst := some 100, op := Op.slice 23 (Operand.tmp 97) none (some (Operand.tmp 99)) none, type := 23, pos := "laws.go:247", after := #[{ on := 6, ground := Ground.data }, { on := 8, ground := Ground.data }, { on := 2, ground := Ground.guard }], guard := some (2, false) }) (v := .slice (some ⟨g, 0, none⟩) d cp) rfl (by kernel_rfl) (by kernel_rfl) (by kernel_rfl) (fun _ _ _ h => h) (Or.inl ⟨by rfl, ?_⟩) hHeld ?_
        · rintro w ⟨z0, z1⟩; go_simp; (try with_reducible rfl)
        try simp only [Act.put, List.setIfInBounds_toArray, List.set_cons_zero, List.set_cons_succ]
        refine wpAnyH_ready (rs := [10]) (by kernel_rfl) (by simp) ?_
        refine AllReadyH.cons rfl (fun K hK => ?_) AllReadyH.nil
        go_simp
        go_at_call 7
        refine (HL4.out _ i15).mono ?_
        rintro ep up ⟨rfl, hbp⟩
        have ip := (i15).up hbp
        go_wp2_with fail
        refine hK.out _ _ (HS.out _ ip) (fun hHeld => ?_)
        clear hbp
        clear hK K
        try simp only [Act.put, List.setIfInBounds_toArray, List.set_cons_zero, List.set_cons_succ]
        refine wpAnyH_ready (rs := [11]) (by kernel_rfl) (by simp) ?_
        refine AllReadyH.cons rfl (fun K hK => ?_) AllReadyH.nil
        go_simp
        go_at_call 25
        refine (HV4.out _ ip).mono ?_
        rintro eq uq ⟨rfl, hbq⟩
        have iq := (ip).up hbq
        go_wp2_with fail
        refine hK.out _ _ (HS.out _ iq) (fun hHeld => ?_)
        clear hbq
        clear hK K
        try simp only [Act.put, List.setIfInBounds_toArray, List.set_cons_zero, List.set_cons_succ]
        refine wpAnyH_take (i := 12) (oi := { dst := some 103, op := Op.unOp UnOp.not 4 (Operand.tmp 102), type := 4, pos := "laws.go:247", after := #[{ on := 11, ground := Ground.data }, { on := 2, ground := Ground.guard }], guard := some (2, false) }) (v := .bool true) rfl (by kernel_rfl) (by kernel_rfl) (by kernel_rfl) (fun _ _ _ h => h) (Or.inl ⟨by rfl, ?_⟩) hHeld ?_
        · rintro w ⟨z0, z1⟩; go_simp; (try with_reducible rfl)
        try simp only [Act.put, List.setIfInBounds_toArray, List.set_cons_zero, List.set_cons_succ]
        refine wpAnyH_take (i := 13) (oi := { dst := some 104, op := Op.pick (Operand.tmp 93) (Operand.const (Value.bool true)) (Operand.tmp 103), type := 4, pos := "laws.go:247", after := #[{ on := 2, ground := Ground.data }, { on := 12, ground := Ground.data }], guard := none }) (v := .bool true) rfl (by kernel_rfl) (by kernel_rfl) (by kernel_rfl) (fun _ _ _ h => h) (Or.inl ⟨by rfl, ?_⟩) hHeld ?_
        · rintro w ⟨z0, z1⟩; go_simp; (try with_reducible rfl)
        try simp only [Act.put, List.setIfInBounds_toArray, List.set_cons_zero, List.set_cons_succ]
        refine wpAnyH_take (i := 14) (oi := { dst := some 4, op := Op.assign (Operand.tmp 104), type := 4, pos := "laws.go:247", after := #[{ on := 13, ground := Ground.data }, { on := 11, ground := Ground.chain }, { on := 0, ground := Ground.phase }, { on := 1, ground := Ground.phase }, { on := 2, ground := Ground.phase }, { on := 3, ground := Ground.phase }, { on := 4, ground := Ground.phase }, { on := 5, ground := Ground.phase }, { on := 6, ground := Ground.phase }, { on := 7, ground := Ground.phase }, { on := 8, ground := Ground.phase }, { on := 9, ground := Ground.phase }, { on := 10, ground := Ground.phase }, { on := 11, ground := Ground.phase }, { on := 12, ground := Ground.phase }, { on := 13, ground := Ground.phase }], guard := none }) (v := .bool true) rfl (by kernel_rfl) (by kernel_rfl) (by kernel_rfl) (fun _ _ _ h => h) (Or.inl ⟨by rfl, ?_⟩) hHeld ?_
        · rintro w ⟨z0, z1⟩; go_simp; (try with_reducible rfl)
        try simp only [Act.put, List.setIfInBounds_toArray, List.set_cons_zero, List.set_cons_succ]
        refine wpAnyH_done (by kernel_rfl) ?_ _
        refine NoPanic.normal ?_
        go_wp2
        go_ret
        exact ⟨rfl, iq.one.bel⟩
end Go.Proofs.YtcfekhahibklfaaDoor.fv
