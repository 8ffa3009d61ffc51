/-
  The law on seals at a source's bytes: it answers true, whatever is drawn.
-/
import Derived.Test.YteekipjmhihleaaDrawSeal
import Derived.Test.YteekipjmhihleaaSealT
import Derived.Deep.RegionWith
namespace Go.Proofs.Yteekipjmhihleaa.fs
open Go.ChangeShapes Go.WideShapes Go.ChangeAt Go.RowKit
open Go.Proofs.Yteekipjmhihleaa.dr Go.Proofs.Yteekipjmhihleaa.ds
set_option linter.unusedVariables false

theorem sealB_empty {t : ByteArray} (h : 7996 < t.size) : (se.sealB t).toList.isEmpty = true := by rw [se.sealB_no h, un.toList_data]; rfl
theorem sealB_full {t : ByteArray} (h : ¬ 7996 < t.size) : (se.sealB t).toList.isEmpty = false := by
  have h4 := st.sealB_size h
  rw [un.toList_data]
  cases e : (se.sealB t).data.toList with
  | nil => have := congrArg List.length e; rw [st.size_list, h4] at this; simp at this
  | cons x l => rfl

/-- a row of bytes that may be written -/
def RowIs (W : World) (g : Nat) (L : List UInt8) : Prop := ∀ j (hj : j < L.length), W.cell? ⟨g, j, none⟩ = some (.int .u8 (L[j].toNat : Int)) ∧ W.frozen? ⟨g, j, none⟩ = false
theorem str_bytes (s : ByteArray) (u : World) : ∃ (cap : Nat) (W : World), (convert 9 22 (.string s)).run Try.prog u = .ok (.slice (some ⟨u.heap.size, 0, none⟩) s.size cap) W ∧ s.size ≤ cap ∧ RowIs W u.heap.size s.data.toList ∧ Below u.heap.size u W ∧ u.heap.size < W.heap.size := by
  refine ⟨_, _, run_bytes_of_string (P := Try.prog) u 9 22 5 s Try.underlying9 Try.underlying22 Try.underlying5, grownCap_ge _ _ _ _, ?_, ((Below.refl _ _).drew).alloc (Nat.le_refl _) _, by simp⟩
  intro j hj
  have hj' : j < s.data.size := by simpa using hj
  constructor
  · have h := World.cell?_alloc_mark u.drew (bytesRow s (grownCap u s.size 0 5)) 5 ((bytesRow s (grownCap u s.size 0 5)).size, (bytesRow s (grownCap u s.size 0 5)).size + 1) j
    rw [bytesRow_at s _ j hj'] at h
    simpa using h
  · have hsz : j < (bytesRow s (grownCap u s.size 0 5)).size := by
      have hge := grownCap_ge u s.size 0 5
      have hd : s.data.size = s.size := rfl
      simp [bytesRow]; omega
    have hh : (u.drew.alloc (.cells (bytesRow s (grownCap u s.size 0 5)) 5 ((bytesRow s (grownCap u s.size 0 5)).size, (bytesRow s (grownCap u s.size 0 5)).size + 1))).heap[u.heap.size]? = some (.cells (bytesRow s (grownCap u s.size 0 5)) 5 ((bytesRow s (grownCap u s.size 0 5)).size, (bytesRow s (grownCap u s.size 0 5)).size + 1)) := heap_alloc_new u.drew _
    unfold World.frozen?
    rw [hh]
    simp
    omega
theorem row_set {W : World} {g : Nat} {L : List UInt8} (h : RowIs W g L) {k : Nat} (hk : k < L.length) (y : UInt8) : RowIs (W.setCell ⟨g, k, none⟩ (.int .u8 (y.toNat : Int))) g (L.set k y) := by
  intro j hj
  have hj' : j < L.length := by simpa using hj
  obtain ⟨c, f⟩ := h j hj'
  refine ⟨?_, by simpa using f⟩
  by_cases e : k = j
  · subst e
    rw [World.cell?_setCell_same _ _ _ c]
    simp
  · rw [World.cell?_setCell_other _ _ _ _ (by intro h; exact e (by injection h)), c, List.getElem_set_ne e]
theorem row_below {W W' : World} {g : Nat} {L : List UInt8} (h : RowIs W g L) (hg : g < W.heap.size) (hb : Below W.heap.size W W') : RowIs W' g L := by
  intro j hj
  obtain ⟨c, f⟩ := h j hj
  exact ⟨by rw [hb.cell (p := ⟨g, j, none⟩) hg]; exact c, by rw [hb.frozen (p := ⟨g, j, none⟩) hg]; exact f⟩
theorem row_conv {W : World} {g : Nat} {L : List UInt8} (h : RowIs W g L) (cap : Nat) : (convert 22 9 (.slice (some ⟨g, 0, none⟩) L.length cap)).run Try.prog W = .ok (.string ⟨L.toArray⟩) W :=
  run_convert_bytes_back (P := Try.prog) W 22 9 5 ⟨g, 0, none⟩ cap L Try.underlying22 Try.underlying5 Try.underlying9 (fun j hj => by
    have e : (⟨g, 0, none⟩ : Addr).add j = ⟨g, j, none⟩ := by unfold Addr.add; split <;> simp_all
    rw [e]; exact (h j hj).1)

/-- a byte that is turned by another one that is not 0 is another one -/
theorem turned (b : UInt8) (d : Int) (h0 : 1 ≤ d) (h1 : d ≤ 255) : ∃ y : UInt8, bits BinOp.xor IntKind.u8 (b.toNat : Int) d = (y.toNat : Int) ∧ y ≠ b := by
  have hb := b.toNat_lt
  rw [u8_xor (b.toNat : Int) d (by omega) (by omega) (by omega) (by omega)]
  have hlt : (b.toNat : Int).toNat ^^^ d.toNat < 2 ^ 8 := Nat.xor_lt_two_pow (by omega) (by omega)
  refine ⟨UInt8.ofNat ((b.toNat : Int).toNat ^^^ d.toNat), ?_, ?_⟩
  · simp only [UInt8.toNat_ofNat']
    rw [Nat.mod_eq_of_lt hlt]
  · intro e
    have e1 := congrArg UInt8.toNat e
    simp only [UInt8.toNat_ofNat'] at e1
    rw [Nat.mod_eq_of_lt hlt] at e1
    have e2 : d.toNat = 0 := by
      have e3 := congrArg (fun x => b.toNat ^^^ x) e1
      simp only [Int.toNat_natCast, ← Nat.xor_assoc, Nat.xor_self, Nat.zero_xor] at e3
      exact e3
    omega

theorem field_code (t : ByteArray) (a c : Int) (u : World) : (Instr.field 27 (.agg #[.string t, .int .i64 a, .int .i64 c]) 2).run Try.prog u = .ok (.int .i64 c) u := by kernel_rfl
theorem calls_world {P : Program} {f : Nat} {args : Array Value} {w : World} {Q : Ending → World → Prop} (I : World → Prop) (hI : I w) (h : ∀ u, I u → Calls P f args u Q) : Calls P f args w Q := h w hI
theorem unseal_seal {t : ByteArray} (hT : ¬ 7996 < t.size) (u : World) : Calls Try.prog 8 #[.string (se.sealB t)] u fun e w' => e = .returned (.agg #[.string t, .int .i64 0, .int .i64 0]) ∧ Below u.heap.size u w' := by
  have h4 := st.sealB_size hT
  have h := un.impl_any (se.sealB t) u (by unfold maxLen; omega)
  rw [un.outU_good (by omega) (by omega) (st.sealB_right hT), st.sealB_inner hT] at h
  exact h
theorem unseal_bad {t s' : ByteArray} (hT : ¬ 7996 < t.size) {k : Nat} {y b0 : UInt8} (hb : ∃ hk : k < (se.sealB t).data.toList.length, (se.sealB t).data.toList[k] = b0) (hy : y ≠ b0) (hs : s'.data.toList = (se.sealB t).data.toList.set k y) (u : World) :
    Calls Try.prog 8 #[.string s'] u fun e w' => e = .returned (.agg #[.string { data := #[] }, .int .i64 0, .int .i64 5]) ∧ Below u.heap.size u w' := by
  obtain ⟨hk, rfl⟩ := hb
  have h4 := st.sealB_size hT
  have hsz : s'.size = t.size + 4 := by
    have := congrArg List.length hs
    rw [List.length_set, st.size_list, st.size_list, h4] at this
    exact this
  have h := un.impl_any s' u (by unfold maxLen; omega)
  rw [un.outU_bad (by omega) (by omega) (st.seal_turned hT hk hy hs)] at h
  exact h

set_option maxRecDepth 20000 in
set_option maxHeartbeats 8000000 in
theorem core (a0 : Option Addr) (len0 cap0 : Nat) (a1 : Option Addr) (len1 cap1 : Nat) (w : World) (c0 : Codes w w.heap.size a0 len0) (c1 : Codes w w.heap.size a1 len1) :
    Calls Try.prog 3 #[.slice a0 len0 cap0, .slice a1 len1 cap1] w fun e w' => e = .returned (.bool true) ∧ Below w.heap.size w w' := by
  have l0 := c0.1
  have l1 := c1.1
  have HC0 : Hid (Codes w w.heap.size a0 len0) := c0
  have HC1 : Hid (∀ u, Below w.heap.size w u → Codes u u.heap.size a1 len1) := fun u hb => by
    obtain ⟨hl, h⟩ := c1.below hb
    refine ⟨hl, h.imp id fun ⟨b, off, e, hB, hc⟩ => ⟨b, off, e, by have := hb.size; omega, hc⟩⟩
  clear c0 c1
  go_enter Try.func3, Try.ntmps3
  go_wp2_with (first | (go_at_call 4; refine (drawSeal_any a0 len0 cap0 _ HC0.out).mono ?_; rintro e w1 ⟨t, rfl, ht, hb1⟩; have htm : t.size ≤ maxLen := (by unfold maxLen; omega); rcases Classical.em (7996 < t.size) with hT | hT; rotate_left; have hE := sealB_full hT; have h4 := st.sealB_size hT; rotate_left; have hE := sealB_empty hT; rotate_left) | (go_at_call 5; refine (se.impl_any _ _ htm).mono ?_; rintro e w2 ⟨rfl, hb2⟩; have hB2 := hb1.trans (hb2.mono hb1.size)) | (go_at_call 6; refine (se.spec_any _ _ htm).mono ?_; rintro e w3 ⟨rfl, hb3⟩; have hB3 := hB2.trans (hb3.mono hB2.size); obtain ⟨cap, W4, hcv, hcap, hrow, hb4, hz4⟩ := str_bytes (se.sealB t) w3; have HB4 : Hid (Below w.heap.size w W4) := hB3.trans (hb4.mono hB3.size); have HR4 : Hid (RowIs W4 w3.heap.size (se.sealB t).data.toList) := hrow; clear hrow) | (go_at_call 7; refine (lwAt_any a1 len1 cap1 _ _ _ (HC1.out _ HB4.out) (by omega) (by omega) (by omega) (by omega)).mono ?_; rintro e w5 ⟨⟨v, rfl, v0, v1, v2⟩, hw5⟩; obtain rfl := hw5.symm; have hv := v1 (by omega)) | (go_at_call 9; fail))
  · obtain ⟨k, rfl⟩ : ∃ k : Nat, v = (k : Int) := ⟨v.toNat, by omega⟩
    have hk : k < (se.sealB t).data.toList.length := by rw [st.size_list]; omega
    obtain ⟨hc, hf⟩ := HR4.out k hk
    obtain ⟨b0, hb0⟩ : ∃ b0, (se.sealB t).data.toList[k] = b0 := ⟨_, rfl⟩
    rw [hb0] at hc
    have HB0 : Hid (∃ hk : k < (se.sealB t).data.toList.length, (se.sealB t).data.toList[k] = b0) := ⟨hk, hb0⟩
    clear hb0 hk
    have hbd := b0.toNat_lt
    have hkc : (k : Int) < (t.size : Int) + 4 := by omega
    go_region_with (go_at_call 7; refine (lwAt_any a1 len1 cap1 _ _ _ (HC1.out _ HB4.out.drew) (by omega) (by omega) (by omega) (by omega)).mono ?_; rintro e w5 ⟨⟨y, rfl, y0, y1, y2⟩, hw5⟩; obtain rfl := hw5.symm; have hy := y1 (by decide); have hwr1 : IntKind.i64.wrap (1 + y) = 1 + y := (by rw [IntKind.wrap_i64]; omega); have hwr2 : IntKind.u8.wrap (1 + y) = 1 + y := (by rw [IntKind.wrap_u8']; omega))
    all_goals
      go_wp2_with fail
      obtain ⟨y', hy', hne⟩ := turned b0 (1 + y) (by omega) (by omega)
      refine calls_world (fun u => RowIs u w3.heap.size ((se.sealB t).data.toList.set k y') ∧ Below w.heap.size w u ∧ w3.heap.size < u.heap.size) ⟨by rw [hy']; exact row_set HR4.out HB0.out.1 y', (HB4.out.setCell hB3.size _).drew, by simpa using hz4⟩ ?_
      rintro u5 ⟨hrow5, hB5, hg5⟩
      refine (unseal_seal hT u5).mono ?_
      rintro e w6 ⟨rfl, hb6⟩
      have hcv6 := row_conv (row_below hrow5 hg5 hb6) cap
      rw [List.length_set, st.size_list, h4] at hcv6
      have hB6 := hB5.trans (hb6.mono hB5.size)
      have HU : Hid (∀ u, Calls Try.prog 8 #[.string ⟨((se.sealB t).data.toList.set k y').toArray⟩] u fun e w' => e = .returned (.agg #[.string { data := #[] }, .int .i64 0, .int .i64 5]) ∧ Below u.heap.size u w') := fun u => unseal_bad hT HB0.out hne (by simp) u
      clear hrow5 hc hf hwr1 hwr2 hy' hne
      have hfc := field_code
      go_wp2_with (first | (go_at_call 8; refine (HU.out _).mono ?_; rintro e w7 ⟨rfl, hb7⟩; have hB7 := hB6.trans (hb7.mono hB6.size)) | (go_at_call 9; refine (drawMore_any a1 len1 cap1 _ (HC1.out _ (by assumption))).mono ?_; rintro e w8 ⟨c, q, rfl, hq, hb8⟩; have hB8 := Below.trans (show Below w.heap.size w _ by assumption) (hb8.mono (Below.size (show Below w.heap.size w _ by assumption))); have hqm : q.size ≤ maxLen := (by unfold maxLen; omega); have hcm : Hid (¬ 8000 < t.size + q.size → cr.moreC (cr.moreC 0 t) q = cr.moreC 0 (t ++ q)) := cp.more_more; have hsq : (t ++ q).size = t.size + q.size := ByteArray.size_append; have htqm : (t ++ q).size ≤ maxLen := (by unfold maxLen; omega); rcases Classical.em (8000 < t.size + q.size) with hQ | hQ; rotate_left; have hmm := hcm.out hQ; rotate_left; rotate_left) | (go_at_call 10; refine (cr.implMore_any _ _ _ (by assumption)).mono ?_; rintro e w9 ⟨rfl, hw9⟩; obtain rfl := hw9.symm) | (go_at_call 11; refine (cr.specMore_any _ _ _ (by assumption)).mono ?_; rintro e w9 ⟨rfl, hw9⟩; obtain rfl := hw9.symm) | (go_at_call 12; refine (cr.implCrc_any _ _ (by assumption)).mono ?_; rintro e w9 ⟨rfl, hw9⟩; obtain rfl := hw9.symm))
      all_goals
        go_ret
        exact ⟨rfl, by assumption⟩
  · go_wp2_with (first | (go_at_call 9; refine (drawMore_any a1 len1 cap1 _ (HC1.out _ (by assumption))).mono ?_; rintro e w8 ⟨c, q, rfl, hq, hb8⟩; have hB8 := Below.trans (show Below w.heap.size w _ by assumption) (hb8.mono (Below.size (show Below w.heap.size w _ by assumption))); have hqm : q.size ≤ maxLen := (by unfold maxLen; omega); have hcm : Hid (¬ 8000 < t.size + q.size → cr.moreC (cr.moreC 0 t) q = cr.moreC 0 (t ++ q)) := cp.more_more; have hsq : (t ++ q).size = t.size + q.size := ByteArray.size_append; have htqm : (t ++ q).size ≤ maxLen := (by unfold maxLen; omega); rcases Classical.em (8000 < t.size + q.size) with hQ | hQ; rotate_left; have hmm := hcm.out hQ; rotate_left; rotate_left) | (go_at_call 10; refine (cr.implMore_any _ _ _ (by assumption)).mono ?_; rintro e w9 ⟨rfl, hw9⟩; obtain rfl := hw9.symm) | (go_at_call 11; refine (cr.specMore_any _ _ _ (by assumption)).mono ?_; rintro e w9 ⟨rfl, hw9⟩; obtain rfl := hw9.symm) | (go_at_call 12; refine (cr.implCrc_any _ _ (by assumption)).mono ?_; rintro e w9 ⟨rfl, hw9⟩; obtain rfl := hw9.symm))
    all_goals
      go_ret
      exact ⟨rfl, by assumption⟩
end Go.Proofs.Yteekipjmhihleaa.fs
