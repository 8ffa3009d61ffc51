/-
  The law's own draw of a key, an anchor and a text that may be a log's. No condition.
-/
import Derived.Test.YtcfekhahibklfaaDoorDrawLog2
import Derived.Test.YtcfekhahibklfaaDoorMg11
import Derived.Test.YtcfekhahibklfaaDoorLogA
import Derived.Test.YtcfekhahibklfaaDoorMg1
import Derived.Deep.RegionHeld3
import Derived.Test.YtcfekhahibklfaaDoorWin0
namespace Go.Proofs.YtcfekhahibklfaaDoor.dl
open Go.ChangeShapes Go.WideShapes Go.ChangeAt Go.RowKit
open Go.Proofs.YtcfekhahibklfaaDoor.dr Go.Proofs.YtcfekhahibklfaaDoor.db
open Go.Proofs.YtcfekhahibklfaaDoor.ss
open Go.Proofs.YtcfekhahibklfaaDoor.wi (heap_lt calls_w)
open Go.Proofs.YtcfekhahibklfaaDoor.lg
open Go.Proofs.YtcfekhahibklfaaDoor.ot
open Go.Proofs.YtcfekhahibklfaaDoor.sh (macB)
set_option linter.unusedVariables false
set_option linter.unusedSimpArgs false

theorem infoAn : (Tryd.prog.info? 41).map (·.size) = some 2 := by kernel_rfl
theorem results_tct {P : Program} {fn : Func} {x p y : Tmp} {ty : TypeId} (h : fn.results = #[.tmp x, .cell p ty, .tmp y]) (tmps : Array Value) (w : World) (g : Nat) (t : TypeId) (cs : Array Value) (fr : Nat × Nat) (d : TypeDesc)
    (hp : tmps.getD p undef = .pointer (some ⟨g, 0, none⟩)) (hg : w.heap[g]? = some (.cells cs t fr))
    (hu : P.underlying ty = some d) (hd : (match d with | .struct _ | .array _ _ => true | _ => false) = true) (hi : (P.info? ty).map (·.size) = some cs.size) :
    (results fn tmps).run P w = .ok (.tuple #[tmps.getD x undef, .agg cs, tmps.getD y undef]) w := by
  have hp' : tmps[p]?.getD undef = .pointer (some ⟨g, 0, none⟩) := by simpa using hp
  simp [results, h, hp', asAddr, run_loadVar_row w g t ty cs fr d hg hu hd hi]

set_option maxRecDepth 20000 in
set_option maxHeartbeats 8000000 in
theorem drawVerify_any (a : Option Addr) (len cap : Nat) (w : World) (hC : Codes w w.heap.size a len) :
    Calls Tryd.prog 24 #[.slice a len cap] w fun e w' => ∃ (key c t : ByteArray) (n : Int), e = .returned (.tuple #[.string key, .agg #[.int .i64 n, .string c], .string t]) ∧ key.size ≤ 65 ∧ c.size ≤ 32 ∧ t.size ≤ 2000 ∧ Below w.heap.size w w' := by
  obtain ⟨W, hW⟩ : ∃ W, W = w.alloc (.cells #[.int .i64 0, .string ⟨#[]⟩] 41) := ⟨_, rfl⟩
  have hBW : Below w.heap.size w W := by rw [hW]; exact (Below.refl _ _).alloc (Nat.le_refl _) _
  have hWs : Hid (W.heap.size = w.heap.size + 1) := by rw [hW]; exact World.size_alloc _ _
  have hWg : W.heap[w.heap.size]? = some (.cells #[.int .i64 0, .string ⟨#[]⟩] 41 (0, 0)) := by rw [hW]; exact heap_alloc_new _ _
  have HC : Hid (Codes W W.heap.size a len) := dn.codes_later hC hBW
  clear hC
  go_enter Tryd.func24, Tryd.ntmps24
  go_wp2_with fail
  rw [← hW]
  refine (source_at a len cap _ HC.out).mono ?_
  rintro e w1 ⟨rfl, hA1⟩
  clear hW
  go_wp2_with fail
  refine (pass_at hA1).mono ?_
  rintro e w2 ⟨key, rfl, hk, hA2⟩
  clear hA1 HC
  go_wp2_with fail
  refine (log_at hA2).mono ?_
  rintro e w3 ⟨v, l, rfl, hG, hl⟩
  have hp := hA2.1.lt
  have hA3 := hG.at_
  obtain ⟨p, c, hv⟩ := (Recs.of hA2 hG hl).shape
  subst hv
  have hn := dn.n_g hA3 (l.length + 1) (by omega) (by omega)
  rw [show ((l.length + 1 : Nat) : Int) = (l.length : Int) + 1 by omega] at hn
  go_wp2_with fail
  refine hn.mono ?_
  rintro e w4 ⟨k, rfl, hk4, hA4, hg4⟩
  have hG4 := hG.up hA4 hp hg4
  have hR4 := Recs.of hA2 hG4 hl
  clear hn hA3 hg4 hG
  have han := lm.anchorM_any key _ l (k : Int) w4 (Nat.le_trans hk (by decide)) hR4.sizes.1 hR4.sizes.2 hR4.slice
  obtain ⟨an, ac, hAn⟩ : ∃ an ac, anchorA macB key l (k : Int) = (an, ac) := ⟨_, _, rfl⟩
  rw [hAn] at han
  unfold lm.outA at han
  have hac : ac.size ≤ 32 := by
    have e : (anchorA macB key l (k : Int)).2 = ac := by rw [hAn]
    rw [← e]
    unfold anchorA
    split
    · exact lm.chain_le key _
    · exact Nat.zero_le _
  go_wp2_with fail
  refine han.mono ?_
  rintro e w5 ⟨rfl, hb5⟩
  have hb6 : Below w4.heap.size w4 (w5.alloc (.cells #[.int .i64 an, .string ac] 41)) := hb5.alloc hb5.size _
  have hanc : (w5.alloc (.cells #[.int .i64 an, .string ac] 41)).heap[w5.heap.size]? = some (.cells #[.int .i64 an, .string ac] 41 (0, 0)) := heap_alloc_new _ _
  have hA6 := db.At.up hA4 hb6
  have hG6 := hG4.up hA6 hp ⟨hb6.os, hb6.tape, hb6.output, hb6.size, fun k hk _ => hb6.block k hk⟩
  have hgaW : W.heap.size < w5.heap.size := Nat.lt_of_lt_of_le hA4.1.lt hb5.size
  clear hG4 hR4 hA4 hb5 hb6 han
  go_wp2_with fail
  obtain ⟨ga, hga⟩ : ∃ g, g = w5.heap.size := ⟨_, rfl⟩
  obtain ⟨w6, hw6⟩ : ∃ u, u = w5.alloc (.cells #[.int .i64 an, .string ac] 41) := ⟨_, rfl⟩
  rw [← hw6] at hanc hA6 hG6 ⊢
  rw [← hga] at hanc hgaW ⊢
  clear hw6 hga
  have hR6 := Recs.of hA2 hG6 hl
  have htx := lm.textM_any key _ l w6 (Nat.le_trans hk (by decide)) hR6.sizes.1 hR6.sizes.2 hR6.slice
  have hle := logT_le (key := key) (l := l) (by omega)
  obtain ⟨t, ht⟩ : ∃ t, t = logT macB key l := ⟨_, rfl⟩
  rw [← ht] at htx hle
  refine htx.mono ?_
  rintro e w7 ⟨rfl, hb7⟩
  have hA7 := db.At.up hA6 hb7
  have hG7 := hG6.up hA7 hp ⟨hb7.os, hb7.tape, hb7.output, hb7.size, fun k hk _ => hb7.block k hk⟩
  have hanc7 := (hb7.block _ (heap_lt hanc)).trans hanc
  have hgl7 := Nat.lt_of_lt_of_le (heap_lt hanc) hb7.size
  clear hA6 hG6 hR6 htx hb7 hanc ht
  go_wp2_with fail
  refine (sk.n_k (sk.AG.start hA7) 5 (by omega) (by omega)).mono ?_
  rintro e w8 ⟨k5, rfl, hk5, hA8⟩
  by_cases h0 : k5 = 0
  · subst h0
    clear hG7 hA2
    go_wp2_with fail
    refine (sk.spoil_k hA8 t (by omega)).mono ?_
    rintro e w9 ⟨t2, rfl, ht2, hA9⟩
    have hanc9 : w9.heap[ga]? = some (.cells #[.int .i64 an, .string ac] 41 (0, 0)) := (hA9.2.block _ hgl7 (by simp; omega)).trans hanc7
    have hbelow := hA9.1.2.1
    have HT : Hid (t2.size ≤ 2000) := by show t2.size ≤ 2000; omega
    clear hA8 hA9 hanc7
    have hr9 : w9.heap[w.heap.size]? = some (.cells #[.int .i64 0, .string ⟨#[]⟩] 41 (0, 0)) := (hbelow.block _ (by rw [hWs.out]; exact Nat.lt_succ_self _)).trans hWg
    have hng : ga ≠ w.heap.size := by have := hWs.out; omega
    have hng2 : w.heap.size ≠ ga := fun e => hng e.symm
    have hb9 : Below w.heap.size w w9 := hBW.trans (hbelow.mono (by rw [hWs.out]; exact Nat.le_succ _))
    have hc0 : w9.drew.cell? ⟨ga, 0, none⟩ = some (.int .i64 an) := by rw [World.cell?, show w9.drew.heap = w9.heap from rfl, hanc9]; rfl
    have hc1 : w9.drew.cell? ⟨ga, 1, none⟩ = some (.string ac) := by rw [World.cell?, show w9.drew.heap = w9.heap from rfl, hanc9]; rfl
    have hr9d : w9.drew.heap[w.heap.size]? = some (.cells #[.int .i64 0, .string ⟨#[]⟩] 41 (0, 0)) := hr9
    have hd0 : w9.cell? ⟨w.heap.size, 0, none⟩ = some (.int .i64 0) := by simp [World.cell?, hr9]
    have hf0 : w9.frozen? ⟨w.heap.size, 0, none⟩ = false := by simp [World.frozen?, hr9]
    have hd1 : (w9.setCell ⟨w.heap.size, 0, none⟩ (.int .i64 an)).cell? ⟨w.heap.size, 1, none⟩ = some (.string ⟨#[]⟩) := (World.cell?_setCell_other _ _ _ _ (by simp)).trans (by simp [World.cell?, hr9])
    have he0 : ((w9.setCell ⟨w.heap.size, 0, none⟩ (.int .i64 an)).setCell ⟨w.heap.size, 1, none⟩ (.string ac)).cell? ⟨w.heap.size, 0, none⟩ = some (.int .i64 an) := (World.cell?_setCell_other _ _ _ _ (by simp)).trans (World.cell?_setCell_same _ _ _ hd0)
    have he1 : ((w9.setCell ⟨w.heap.size, 0, none⟩ (.int .i64 an)).setCell ⟨w.heap.size, 1, none⟩ (.string ac)).cell? ⟨w.heap.size, 1, none⟩ = some (.string ac) := World.cell?_setCell_same _ _ _ hd1
    have hbR : Below w.heap.size w ((w9.setCell ⟨w.heap.size, 0, none⟩ (.int .i64 an)).setCell ⟨w.heap.size, 1, none⟩ (.string ac)) := (hb9.setCell (Nat.le_refl _) _).setCell (Nat.le_refl _) _
    have hf1 : w9.frozen? ⟨w.heap.size, 1, none⟩ = false := by simp [World.frozen?, hr9]
    have HRow : Hid (((w9.setCell ⟨w.heap.size, 0, none⟩ (.int .i64 an)).setCell ⟨w.heap.size, 1, none⟩ (.string ac)).heap[w.heap.size]? = some (.cells #[.int .i64 an, .string ac] 41 (0, 0))) := by
      show _ = _
      rw [heap_setCell_same _ _ _ _ _ _ (heap_setCell_same _ _ _ _ _ _ hr9)]; rfl
    clear hbelow hanc9
    go_wp2_with fail
    refine wp_region_noPanic ?_
    refine wp_region_held_drew (S := fun u => u.cell? ⟨ga, 0, none⟩ = some (.int .i64 an) ∧ u.cell? ⟨ga, 1, none⟩ = some (.string ac)) (by kernel_rfl) ⟨hc0, hc1⟩ (fun hHeld => ?_)
    refine wpAnyH_take (i := 0) (oi := { dst := some 57, op := Op.move (Operand.tmp 6), type := 9, pos := "l05_log.go:189", after := #[], guard := none }) (v := ?_) rfl (by kernel_rfl) (by kernel_rfl) (by kernel_rfl) (fun _ _ _ h => h) (Or.inl ⟨by rfl, ?_⟩) hHeld ?_
    rotate_left
    · rintro w ⟨z0, z1⟩; go_simp; (try with_reducible rfl)
    try simp only [Act.put, List.setIfInBounds_toArray, List.set_cons_zero, List.set_cons_succ]
    refine wpAnyH_take (i := 1) (oi := { dst := some 58, op := Op.load 41 (Operand.tmp 8), type := 41, pos := "l05_log.go:189", after := #[{ on := 3, ground := Ground.gcOnly Departure.lateStores }], guard := none }) (v := ?_) rfl (by kernel_rfl) (by kernel_rfl) (by kernel_rfl) (fun _ _ _ h => h) (Or.inl ⟨by rfl, ?_⟩) hHeld ?_
    rotate_left
    · rintro w ⟨z0, z1⟩; go_simp; (try with_reducible rfl)
    try simp only [Act.put, List.setIfInBounds_toArray, List.set_cons_zero, List.set_cons_succ]
    refine wpAnyH_take (i := 2) (oi := { dst := some 59, op := Op.move (Operand.tmp 9), type := 9, pos := "l05_log.go:189", after := #[{ on := 4, ground := Ground.gcOnly Departure.lateStores }], guard := none }) (v := ?_) rfl (by kernel_rfl) (by kernel_rfl) (by kernel_rfl) (fun _ _ _ h => h) (Or.inl ⟨by rfl, ?_⟩) hHeld ?_
    rotate_left
    · rintro w ⟨z0, z1⟩; go_simp; (try with_reducible rfl)
    try simp only [Act.put, List.setIfInBounds_toArray, List.set_cons_zero, List.set_cons_succ]
    refine wpAnyH_take (i := 3) (oi := { dst := some 2, op := Op.assign (Operand.tmp 57), type := 9, pos := "l05_log.go:189", after := #[{ on := 0, ground := Ground.data }, { on := 0, ground := Ground.phase }, { on := 1, ground := Ground.textOnly Departure.lateStores }, { on := 2, ground := Ground.textOnly Departure.lateStores }], guard := none }) (v := ?_) rfl (by kernel_rfl) (by kernel_rfl) (by kernel_rfl) (fun _ _ _ h => h) (Or.inl ⟨by rfl, ?_⟩) hHeld ?_
    rotate_left
    · rintro w ⟨z0, z1⟩; go_simp; (try with_reducible rfl)
    try simp only [Act.put, List.setIfInBounds_toArray, List.set_cons_zero, List.set_cons_succ]
    refine wpAnyH_ready (rs := [4]) (by kernel_rfl) (by simp) ?_
    refine AllReadyH.cons rfl (fun K hK => ?_) AllReadyH.nil
    go_simp
    refine hK.out _ _ ⟨(World.cell?_setCell_far _ _ _ _ hng2).trans ((World.cell?_setCell_far _ _ _ _ hng2).trans hc0), (World.cell?_setCell_far _ _ _ _ hng2).trans ((World.cell?_setCell_far _ _ _ _ hng2).trans hc1)⟩ (fun hHeld => ?_)
    clear hK K
    try simp only [Act.put, List.setIfInBounds_toArray, List.set_cons_zero, List.set_cons_succ]
    refine wpAnyH_take (i := 5) (oi := { dst := some 4, op := Op.assign (Operand.tmp 59), type := 9, pos := "l05_log.go:189", after := #[{ on := 2, ground := Ground.data }, { on := 4, ground := Ground.chain }, { on := 0, ground := Ground.phase }, { on := 1, ground := Ground.phase }, { on := 2, ground := Ground.phase }, { on := 3, ground := Ground.phase }, { on := 4, ground := Ground.phase }], guard := none }) (v := ?_) rfl (by kernel_rfl) (by kernel_rfl) (by kernel_rfl) (fun _ _ _ h => h) (Or.inl ⟨by rfl, ?_⟩) hHeld ?_
    rotate_left
    · rintro w ⟨z0, z1⟩; go_simp; (try with_reducible rfl)
    try simp only [Act.put, List.setIfInBounds_toArray, List.set_cons_zero, List.set_cons_succ]
    refine wpAnyH_done (by kernel_rfl) ?_ _
    refine NoPanic.normal ?_
    go_wp2_with fail
    exact bodyPost_ret (results_tct rfl _ _ w.heap.size 41 #[.int .i64 an, .string ac] (0, 0) _ rfl HRow.out Tryd.underlying41 rfl infoAn) rfl ⟨key, ac, t2, an, rfl, hk, hac, HT.out, by first | exact hbR | exact hbR.drew⟩
  · by_cases h1 : k5 = 1
    · subst h1
      obtain ⟨i0, hi, hz0, hz1, hz2⟩ := info_parts infoS
      have hR8 := Recs.of hA2 (hG7.up hA8.1 hp hA8.2) hl
      have hs9 := hR8.slice.up ((Below.refl w8.heap.size w8).alloc (Nat.le_refl _) (.cells #[] 9))
      have hsm := hR8.small
      have hfew : l.length ≤ 7 := hl
      have ho9 := OwT.lit w8
      have HB9 : Below w8.heap.size w8 (w8.alloc (.cells #[] 9)) := (Below.refl _ _).alloc (Nat.le_refl _) _
      have hz9 : w8.heap.size ≤ (w8.alloc (.cells #[] 9)).heap.size := HB9.size
      clear hG7 hA2 hR8
      obtain ⟨w9, hw9⟩ : ∃ u, u = w8.alloc (.cells #[] 9) := ⟨_, rfl⟩
      have hm9 : w9.heap.size = w8.heap.size + 1 := by rw [hw9]; exact World.size_alloc _ _
      rw [← hw9] at hs9 ho9 HB9 hz9
      obtain ⟨n8, hn8⟩ : ∃ n, n = w8.heap.size := ⟨_, rfl⟩
      rw [← hn8] at ho9
      have HL : Hid (SliceIs w9 (.slice p l.length c) l) := hs9
      have HO9 : Hid (OwT n8 (.slice (some ⟨n8, 0, none⟩) 0 0) [] w9) := ho9
      have HBB : Hid (Below w8.heap.size w8 w9) := HB9
      have HZ9 : Hid (n8 ≤ w9.heap.size) := by show n8 ≤ _; rw [hn8]; exact hz9
      clear hs9 ho9 HB9 hz9
      go_wp2_with (first | (refine cp.wpList_append_texts _ rfl (.tmp 37) (.tmp 38) 23 rfl w8.heap.size 9 i0 (.string ⟨#[]⟩) 16 Tryd.underlying23 hi hz0 hz1 hz2 rfl (.slice (some ⟨w8.heap.size, 0, none⟩) 0 0) 0 [] rfl (by rw [← hw9, ← hn8]; exact HO9.out) (.slice p l.length c) l rfl (by rw [← hw9]; exact HL.out) (by unfold maxLen; omega) (by omega) (by rw [← hw9, ← hn8]; exact HZ9.out) ?_; intro v10 w10 hown10 hg10; have hO10 := OwT.of0 hown10; have HB10 : Below w8.heap.size w8 w10 := below_own (show Below w8.heap.size w8 (w8.alloc (.cells #[] 9)) by rw [← hw9]; exact HBB.out) hg10 (show World.ownsRow (w8.alloc (.cells #[] 9)) w8.heap.size 9 1 (.slice (some ⟨w8.heap.size, 0, none⟩) 0 0) 0 [] by rw [← hw9, ← hn8]; exact HO9.out) (Nat.le_refl _) (by rw [World.size_alloc]; omega); obtain ⟨p10, c10, hv10⟩ := hO10.shape; subst hv10; clear hown10 hg10; have HB11 : Hid (∀ o, Below w8.heap.size w8 (w10.alloc o)) := fun o => HB10.alloc HB10.size o; have hsz10 : Hid (∀ o, w8.heap.size ≤ (w10.alloc o).heap.size) := fun o => (HB11.out o).size; clear HB10) | (refine wpList_append_own _ rfl (.tmp 39) (.tmp 40) 23 rfl w8.heap.size 9 i0 (.string ⟨#[]⟩) 1 16 Tryd.underlying23 hi hz0 hz1 hz2 rfl (by decide) (.slice p10 l.length c10) l.length (l.map Value.string) rfl (hO10.alloc _) ⟨w10.heap.size, 0, none⟩ 1 1 [.string ⟨#[109, 111, 114, 101]⟩] rfl rfl (cell_one_new _ _ _) (by simp [Value.oneCell']) (by unfold maxLen; omega) (by omega) (hsz10.out _) ?_; intro v11 w11 hown11 hg11 hnil; clear hnil))
      have hO11 := OwT.of1 hown11
      have hB11 : Below w8.heap.size w8 w11 := below_own (HB11.out _) hg11 (hO10.alloc _) (Nat.le_refl _) (hsz10.out _)
      have hle11 := logT_le (key := key) (l := l ++ [⟨#[109, 111, 114, 101]⟩]) (by rw [List.length_append, List.length_singleton]; omega)
      have htx := lm.textM_any key v11 (l ++ [⟨#[109, 111, 114, 101]⟩]) w11 (Nat.le_trans hk (by decide)) (by rw [List.length_append, List.length_singleton]; unfold maxLen; omega) (fun r hr => by
        rcases List.mem_append.1 hr with h | h
        · exact Nat.le_trans (hsm r h) (by decide)
        · rw [List.mem_singleton.1 h]; decide) hO11.slice
      obtain ⟨t2, ht2⟩ : ∃ t, t = logT macB key (l ++ [⟨#[109, 111, 114, 101]⟩]) := ⟨_, rfl⟩
      rw [← ht2] at htx hle11
      refine htx.mono ?_
      rintro e w12 ⟨rfl, hb12⟩
      have hB12 : Below w8.heap.size w8 w12 := hB11.trans (hb12.mono hB11.size)
      have hanc9 : w12.heap[ga]? = some (.cells #[.int .i64 an, .string ac] 41 (0, 0)) := (hB12.block _ (Nat.lt_of_lt_of_le hgl7 hA8.2.size)).trans ((hA8.2.block _ hgl7 (by simp; omega)).trans hanc7)
      have hbelow := hA8.1.2.1.trans (hB12.mono hA8.1.2.1.size)
      have HT : Hid (t2.size ≤ 2000) := by show t2.size ≤ 2000; omega
      clear hA8 hanc7 htx hb12 hB12 hB11 hO11 hown11 hg11 hO10 HB11 hsz10 HL HO9 HBB HZ9 hw9 hm9 hn8 hi hz0 hz1 hz2 hsm ht2
      have hr9 : w12.heap[w.heap.size]? = some (.cells #[.int .i64 0, .string ⟨#[]⟩] 41 (0, 0)) := (hbelow.block _ (by rw [hWs.out]; exact Nat.lt_succ_self _)).trans hWg
      have hng : ga ≠ w.heap.size := by have := hWs.out; omega
      have hng2 : w.heap.size ≠ ga := fun e => hng e.symm
      have hb9 : Below w.heap.size w w12 := hBW.trans (hbelow.mono (by rw [hWs.out]; exact Nat.le_succ _))
      have hc0 : w12.drew.cell? ⟨ga, 0, none⟩ = some (.int .i64 an) := by rw [World.cell?, show w12.drew.heap = w12.heap from rfl, hanc9]; rfl
      have hc1 : w12.drew.cell? ⟨ga, 1, none⟩ = some (.string ac) := by rw [World.cell?, show w12.drew.heap = w12.heap from rfl, hanc9]; rfl
      have hr9d : w12.drew.heap[w.heap.size]? = some (.cells #[.int .i64 0, .string ⟨#[]⟩] 41 (0, 0)) := hr9
      have hd0 : w12.cell? ⟨w.heap.size, 0, none⟩ = some (.int .i64 0) := by simp [World.cell?, hr9]
      have hf0 : w12.frozen? ⟨w.heap.size, 0, none⟩ = false := by simp [World.frozen?, hr9]
      have hd1 : (w12.setCell ⟨w.heap.size, 0, none⟩ (.int .i64 an)).cell? ⟨w.heap.size, 1, none⟩ = some (.string ⟨#[]⟩) := (World.cell?_setCell_other _ _ _ _ (by simp)).trans (by simp [World.cell?, hr9])
      have he0 : ((w12.setCell ⟨w.heap.size, 0, none⟩ (.int .i64 an)).setCell ⟨w.heap.size, 1, none⟩ (.string ac)).cell? ⟨w.heap.size, 0, none⟩ = some (.int .i64 an) := (World.cell?_setCell_other _ _ _ _ (by simp)).trans (World.cell?_setCell_same _ _ _ hd0)
      have he1 : ((w12.setCell ⟨w.heap.size, 0, none⟩ (.int .i64 an)).setCell ⟨w.heap.size, 1, none⟩ (.string ac)).cell? ⟨w.heap.size, 1, none⟩ = some (.string ac) := World.cell?_setCell_same _ _ _ hd1
      have hbR : Below w.heap.size w ((w12.setCell ⟨w.heap.size, 0, none⟩ (.int .i64 an)).setCell ⟨w.heap.size, 1, none⟩ (.string ac)) := (hb9.setCell (Nat.le_refl _) _).setCell (Nat.le_refl _) _
      have hf1 : w12.frozen? ⟨w.heap.size, 1, none⟩ = false := by simp [World.frozen?, hr9]
      have HRow : Hid (((w12.setCell ⟨w.heap.size, 0, none⟩ (.int .i64 an)).setCell ⟨w.heap.size, 1, none⟩ (.string ac)).heap[w.heap.size]? = some (.cells #[.int .i64 an, .string ac] 41 (0, 0))) := by
        show _ = _
        rw [heap_setCell_same _ _ _ _ _ _ (heap_setCell_same _ _ _ _ _ _ hr9)]; rfl
      clear hbelow hanc9
      go_wp2_with fail
      refine wp_region_noPanic ?_
      refine wp_region_held_drew (S := fun u => u.cell? ⟨ga, 0, none⟩ = some (.int .i64 an) ∧ u.cell? ⟨ga, 1, none⟩ = some (.string ac)) (by kernel_rfl) ⟨hc0, hc1⟩ (fun hHeld => ?_)
      refine wpAnyH_take (i := 0) (oi := { dst := some 57, op := Op.move (Operand.tmp 6), type := 9, pos := "l05_log.go:189", after := #[], guard := none }) (v := ?_) rfl (by kernel_rfl) (by kernel_rfl) (by kernel_rfl) (fun _ _ _ h => h) (Or.inl ⟨by rfl, ?_⟩) hHeld ?_
      rotate_left
      · rintro w ⟨z0, z1⟩; go_simp; (try with_reducible rfl)
      try simp only [Act.put, List.setIfInBounds_toArray, List.set_cons_zero, List.set_cons_succ]
      refine wpAnyH_take (i := 1) (oi := { dst := some 58, op := Op.load 41 (Operand.tmp 8), type := 41, pos := "l05_log.go:189", after := #[{ on := 3, ground := Ground.gcOnly Departure.lateStores }], guard := none }) (v := ?_) rfl (by kernel_rfl) (by kernel_rfl) (by kernel_rfl) (fun _ _ _ h => h) (Or.inl ⟨by rfl, ?_⟩) hHeld ?_
      rotate_left
      · rintro w ⟨z0, z1⟩; go_simp; (try with_reducible rfl)
      try simp only [Act.put, List.setIfInBounds_toArray, List.set_cons_zero, List.set_cons_succ]
      refine wpAnyH_take (i := 2) (oi := { dst := some 59, op := Op.move (Operand.tmp 9), type := 9, pos := "l05_log.go:189", after := #[{ on := 4, ground := Ground.gcOnly Departure.lateStores }], guard := none }) (v := ?_) rfl (by kernel_rfl) (by kernel_rfl) (by kernel_rfl) (fun _ _ _ h => h) (Or.inl ⟨by rfl, ?_⟩) hHeld ?_
      rotate_left
      · rintro w ⟨z0, z1⟩; go_simp; (try with_reducible rfl)
      try simp only [Act.put, List.setIfInBounds_toArray, List.set_cons_zero, List.set_cons_succ]
      refine wpAnyH_take (i := 3) (oi := { dst := some 2, op := Op.assign (Operand.tmp 57), type := 9, pos := "l05_log.go:189", after := #[{ on := 0, ground := Ground.data }, { on := 0, ground := Ground.phase }, { on := 1, ground := Ground.textOnly Departure.lateStores }, { on := 2, ground := Ground.textOnly Departure.lateStores }], guard := none }) (v := ?_) rfl (by kernel_rfl) (by kernel_rfl) (by kernel_rfl) (fun _ _ _ h => h) (Or.inl ⟨by rfl, ?_⟩) hHeld ?_
      rotate_left
      · rintro w ⟨z0, z1⟩; go_simp; (try with_reducible rfl)
      try simp only [Act.put, List.setIfInBounds_toArray, List.set_cons_zero, List.set_cons_succ]
      refine wpAnyH_ready (rs := [4]) (by kernel_rfl) (by simp) ?_
      refine AllReadyH.cons rfl (fun K hK => ?_) AllReadyH.nil
      go_simp
      refine hK.out _ _ ⟨(World.cell?_setCell_far _ _ _ _ hng2).trans ((World.cell?_setCell_far _ _ _ _ hng2).trans hc0), (World.cell?_setCell_far _ _ _ _ hng2).trans ((World.cell?_setCell_far _ _ _ _ hng2).trans hc1)⟩ (fun hHeld => ?_)
      clear hK K
      try simp only [Act.put, List.setIfInBounds_toArray, List.set_cons_zero, List.set_cons_succ]
      refine wpAnyH_take (i := 5) (oi := { dst := some 4, op := Op.assign (Operand.tmp 59), type := 9, pos := "l05_log.go:189", after := #[{ on := 2, ground := Ground.data }, { on := 4, ground := Ground.chain }, { on := 0, ground := Ground.phase }, { on := 1, ground := Ground.phase }, { on := 2, ground := Ground.phase }, { on := 3, ground := Ground.phase }, { on := 4, ground := Ground.phase }], guard := none }) (v := ?_) rfl (by kernel_rfl) (by kernel_rfl) (by kernel_rfl) (fun _ _ _ h => h) (Or.inl ⟨by rfl, ?_⟩) hHeld ?_
      rotate_left
      · rintro w ⟨z0, z1⟩; go_simp; (try with_reducible rfl)
      try simp only [Act.put, List.setIfInBounds_toArray, List.set_cons_zero, List.set_cons_succ]
      refine wpAnyH_done (by kernel_rfl) ?_ _
      refine NoPanic.normal ?_
      go_wp2_with fail
      exact bodyPost_ret (results_tct rfl _ _ w.heap.size 41 #[.int .i64 an, .string ac] (0, 0) _ rfl HRow.out Tryd.underlying41 rfl infoAn) rfl ⟨key, ac, t2, an, rfl, hk, hac, HT.out, by first | exact hbR | exact hbR.drew⟩
    · by_cases h2 : k5 = 2
      · subst h2
        have hR8 := Recs.of hA2 (hG7.up hA8.1 hp hA8.2) hl
        by_cases hl0 : l = []
        · have e3 : ((l.length : Int) == 0) = true := by rw [hl0]; rfl
          have e4 : l.length = 0 := by rw [hl0]; rfl
          have hanc9 : w8.heap[ga]? = some (.cells #[.int .i64 an, .string ac] 41 (0, 0)) := (hA8.2.block _ hgl7 (by simp; omega)).trans hanc7
          have hbelow := hA8.1.2.1
          have HT : Hid (t.size ≤ 2000) := by show t.size ≤ 2000; omega
          clear hA8 hanc7 hG7 hA2 h0 h1 hR8
          have hr9 : w8.heap[w.heap.size]? = some (.cells #[.int .i64 0, .string ⟨#[]⟩] 41 (0, 0)) := (hbelow.block _ (by rw [hWs.out]; exact Nat.lt_succ_self _)).trans hWg
          have hng : ga ≠ w.heap.size := by have := hWs.out; omega
          have hng2 : w.heap.size ≠ ga := fun e => hng e.symm
          have hb9 : Below w.heap.size w w8 := hBW.trans (hbelow.mono (by rw [hWs.out]; exact Nat.le_succ _))
          have hc0 : w8.drew.cell? ⟨ga, 0, none⟩ = some (.int .i64 an) := by rw [World.cell?, show w8.drew.heap = w8.heap from rfl, hanc9]; rfl
          have hc1 : w8.drew.cell? ⟨ga, 1, none⟩ = some (.string ac) := by rw [World.cell?, show w8.drew.heap = w8.heap from rfl, hanc9]; rfl
          have hr9d : w8.drew.heap[w.heap.size]? = some (.cells #[.int .i64 0, .string ⟨#[]⟩] 41 (0, 0)) := hr9
          have hd0 : w8.cell? ⟨w.heap.size, 0, none⟩ = some (.int .i64 0) := by simp [World.cell?, hr9]
          have hf0 : w8.frozen? ⟨w.heap.size, 0, none⟩ = false := by simp [World.frozen?, hr9]
          have hd1 : (w8.setCell ⟨w.heap.size, 0, none⟩ (.int .i64 an)).cell? ⟨w.heap.size, 1, none⟩ = some (.string ⟨#[]⟩) := (World.cell?_setCell_other _ _ _ _ (by simp)).trans (by simp [World.cell?, hr9])
          have he0 : ((w8.setCell ⟨w.heap.size, 0, none⟩ (.int .i64 an)).setCell ⟨w.heap.size, 1, none⟩ (.string ac)).cell? ⟨w.heap.size, 0, none⟩ = some (.int .i64 an) := (World.cell?_setCell_other _ _ _ _ (by simp)).trans (World.cell?_setCell_same _ _ _ hd0)
          have he1 : ((w8.setCell ⟨w.heap.size, 0, none⟩ (.int .i64 an)).setCell ⟨w.heap.size, 1, none⟩ (.string ac)).cell? ⟨w.heap.size, 1, none⟩ = some (.string ac) := World.cell?_setCell_same _ _ _ hd1
          have hbR : Below w.heap.size w ((w8.setCell ⟨w.heap.size, 0, none⟩ (.int .i64 an)).setCell ⟨w.heap.size, 1, none⟩ (.string ac)) := (hb9.setCell (Nat.le_refl _) _).setCell (Nat.le_refl _) _
          have hf1 : w8.frozen? ⟨w.heap.size, 1, none⟩ = false := by simp [World.frozen?, hr9]
          have HRow : Hid (((w8.setCell ⟨w.heap.size, 0, none⟩ (.int .i64 an)).setCell ⟨w.heap.size, 1, none⟩ (.string ac)).heap[w.heap.size]? = some (.cells #[.int .i64 an, .string ac] 41 (0, 0))) := by
            show _ = _
            rw [heap_setCell_same _ _ _ _ _ _ (heap_setCell_same _ _ _ _ _ _ hr9)]; rfl
          clear hbelow hanc9
          go_wp2_with fail
          refine wp_region_noPanic ?_
          refine wp_region_held_drew (S := fun u => u.cell? ⟨ga, 0, none⟩ = some (.int .i64 an) ∧ u.cell? ⟨ga, 1, none⟩ = some (.string ac)) (by kernel_rfl) ⟨hc0, hc1⟩ (fun hHeld => ?_)
          refine wpAnyH_take (i := 0) (oi := { dst := some 57, op := Op.move (Operand.tmp 6), type := 9, pos := "l05_log.go:189", after := #[], guard := none }) (v := ?_) rfl (by kernel_rfl) (by kernel_rfl) (by kernel_rfl) (fun _ _ _ h => h) (Or.inl ⟨by rfl, ?_⟩) hHeld ?_
          rotate_left
          · rintro w ⟨z0, z1⟩; go_simp; (try with_reducible rfl)
          try simp only [Act.put, List.setIfInBounds_toArray, List.set_cons_zero, List.set_cons_succ]
          refine wpAnyH_take (i := 1) (oi := { dst := some 58, op := Op.load 41 (Operand.tmp 8), type := 41, pos := "l05_log.go:189", after := #[{ on := 3, ground := Ground.gcOnly Departure.lateStores }], guard := none }) (v := ?_) rfl (by kernel_rfl) (by kernel_rfl) (by kernel_rfl) (fun _ _ _ h => h) (Or.inl ⟨by rfl, ?_⟩) hHeld ?_
          rotate_left
          · rintro w ⟨z0, z1⟩; go_simp; (try with_reducible rfl)
          try simp only [Act.put, List.setIfInBounds_toArray, List.set_cons_zero, List.set_cons_succ]
          refine wpAnyH_take (i := 2) (oi := { dst := some 59, op := Op.move (Operand.tmp 9), type := 9, pos := "l05_log.go:189", after := #[{ on := 4, ground := Ground.gcOnly Departure.lateStores }], guard := none }) (v := ?_) rfl (by kernel_rfl) (by kernel_rfl) (by kernel_rfl) (fun _ _ _ h => h) (Or.inl ⟨by rfl, ?_⟩) hHeld ?_
          rotate_left
          · rintro w ⟨z0, z1⟩; go_simp; (try with_reducible rfl)
          try simp only [Act.put, List.setIfInBounds_toArray, List.set_cons_zero, List.set_cons_succ]
          refine wpAnyH_take (i := 3) (oi := { dst := some 2, op := Op.assign (Operand.tmp 57), type := 9, pos := "l05_log.go:189", after := #[{ on := 0, ground := Ground.data }, { on := 0, ground := Ground.phase }, { on := 1, ground := Ground.textOnly Departure.lateStores }, { on := 2, ground := Ground.textOnly Departure.lateStores }], guard := none }) (v := ?_) rfl (by kernel_rfl) (by kernel_rfl) (by kernel_rfl) (fun _ _ _ h => h) (Or.inl ⟨by rfl, ?_⟩) hHeld ?_
          rotate_left
          · rintro w ⟨z0, z1⟩; go_simp; (try with_reducible rfl)
          try simp only [Act.put, List.setIfInBounds_toArray, List.set_cons_zero, List.set_cons_succ]
          refine wpAnyH_ready (rs := [4]) (by kernel_rfl) (by simp) ?_
          refine AllReadyH.cons rfl (fun K hK => ?_) AllReadyH.nil
          go_simp
          refine hK.out _ _ ⟨(World.cell?_setCell_far _ _ _ _ hng2).trans ((World.cell?_setCell_far _ _ _ _ hng2).trans hc0), (World.cell?_setCell_far _ _ _ _ hng2).trans ((World.cell?_setCell_far _ _ _ _ hng2).trans hc1)⟩ (fun hHeld => ?_)
          clear hK K
          try simp only [Act.put, List.setIfInBounds_toArray, List.set_cons_zero, List.set_cons_succ]
          refine wpAnyH_take (i := 5) (oi := { dst := some 4, op := Op.assign (Operand.tmp 59), type := 9, pos := "l05_log.go:189", after := #[{ on := 2, ground := Ground.data }, { on := 4, ground := Ground.chain }, { on := 0, ground := Ground.phase }, { on := 1, ground := Ground.phase }, { on := 2, ground := Ground.phase }, { on := 3, ground := Ground.phase }, { on := 4, ground := Ground.phase }], guard := none }) (v := ?_) rfl (by kernel_rfl) (by kernel_rfl) (by kernel_rfl) (fun _ _ _ h => h) (Or.inl ⟨by rfl, ?_⟩) hHeld ?_
          rotate_left
          · rintro w ⟨z0, z1⟩; go_simp; (try with_reducible rfl)
          try simp only [Act.put, List.setIfInBounds_toArray, List.set_cons_zero, List.set_cons_succ]
          refine wpAnyH_done (by kernel_rfl) ?_ _
          refine NoPanic.normal ?_
          go_wp2_with fail
          exact bodyPost_ret (results_tct rfl _ _ w.heap.size 41 #[.int .i64 an, .string ac] (0, 0) _ rfl HRow.out Tryd.underlying41 rfl infoAn) rfl ⟨key, ac, t, an, rfl, hk, hac, HT.out, by first | exact hbR | exact hbR.drew⟩
        · have hpos : 0 < l.length := List.length_pos_iff.2 hl0
          have e3 : ((l.length : Int) == 0) = false := by simp; omega
          go_wp2_with (go_at_call 40; fail)
          refine (sk.n_k hA8 l.length hpos (by omega)).mono ?_
          rintro e w9 ⟨k9, rfl, hk9, hA9⟩
          have hO9 : OwT W.heap.size (.slice p l.length c) l w9 := (Recs.of hA2 (hG7.up hA9.1 hp hA9.2) hl).row
          have hsm := hR8.small
          obtain ⟨g, cg, hv9, hgb, ⟨cur, hcur⟩, hcell, hfr⟩ := hO9.block hl0
          simp only [Value.slice.injEq] at hv9
          obtain ⟨rfl, -, rfl⟩ := hv9
          have hc9 := hcell k9 hk9
          have hf9 := hfr k9
          have k0 : (0 : Int) ≤ (k9 : Int) := by omega
          have k1 : (k9 : Int) < (l.length : Int) := by omega
          have hO10 := hO9.set k9 ⟨#[111, 116, 104, 101, 114]⟩
          have hB9 := hA9.1.2.1
          have hB10 : Below W.heap.size W (w9.setCell ⟨g, k9, none⟩ (.string ⟨#[111, 116, 104, 101, 114]⟩)) := hB9.setCell hgb _
          have hgn : g ≠ ga := fun e => by
            have h1 := (hA9.2.block _ hgl7 (by simp; omega)).trans hanc7
            rw [← e, hcur] at h1
            simp at h1
          have hanc10 : (w9.setCell ⟨g, k9, none⟩ (.string ⟨#[111, 116, 104, 101, 114]⟩)).heap[ga]? = some (.cells #[.int .i64 an, .string ac] 41 (0, 0)) := by
            rw [heap_setCell_other _ _ _ _ (fun e => hgn (by first | exact e | exact e.symm))]
            exact (hA9.2.block _ hgl7 (by simp; omega)).trans hanc7
          generalize l.getD k9 ⟨#[]⟩ = y9 at hc9
          clear hcell hfr hcur hO9 hA9 hA8 hG7 hA2 hR8 h0 h1 hl0
          go_wp2_with (go_at_call 12; fail)
          refine calls_w (fun u => OwT W.heap.size (.slice (some ⟨g, 0, none⟩) l.length c) (l.set k9 ⟨#[111, 116, 104, 101, 114]⟩) u ∧ Below W.heap.size W u ∧ u.heap[ga]? = some (.cells #[.int .i64 an, .string ac] 41 (0, 0))) ⟨hO10, hB10, hanc10⟩ ?_
          clear hO10 hB10 hanc10 hc9 hf9
          rintro w10 ⟨hO10, hB10, hanc10⟩
          have hle10 := logT_le (key := key) (l := l.set k9 ⟨#[111, 116, 104, 101, 114]⟩) (by rw [List.length_set]; omega)
          have htx := lm.textM_any key _ (l.set k9 ⟨#[111, 116, 104, 101, 114]⟩) w10 (Nat.le_trans hk (by decide)) (by rw [List.length_set]; unfold maxLen; omega) (fun r hr => by
            rcases List.mem_or_eq_of_mem_set hr with h | h
            · exact Nat.le_trans (hsm r h) (by decide)
            · rw [h]; decide) hO10.slice
          obtain ⟨t2, ht2⟩ : ∃ t, t = logT macB key (l.set k9 ⟨#[111, 116, 104, 101, 114]⟩) := ⟨_, rfl⟩
          rw [← ht2] at htx hle10
          refine htx.mono ?_
          rintro e w12 ⟨rfl, hb12⟩
          have hanc9 : w12.heap[ga]? = some (.cells #[.int .i64 an, .string ac] 41 (0, 0)) := (hb12.block _ (heap_lt hanc10)).trans hanc10
          have hbelow := hB10.trans (hb12.mono hB10.size)
          have HT : Hid (t2.size ≤ 2000) := by show t2.size ≤ 2000; omega
          clear htx hb12 hB10 hO10 hanc10 hsm ht2 hanc7
          have hr9 : w12.heap[w.heap.size]? = some (.cells #[.int .i64 0, .string ⟨#[]⟩] 41 (0, 0)) := (hbelow.block _ (by rw [hWs.out]; exact Nat.lt_succ_self _)).trans hWg
          have hng : ga ≠ w.heap.size := by have := hWs.out; omega
          have hng2 : w.heap.size ≠ ga := fun e => hng e.symm
          have hb9 : Below w.heap.size w w12 := hBW.trans (hbelow.mono (by rw [hWs.out]; exact Nat.le_succ _))
          have hc0 : w12.drew.cell? ⟨ga, 0, none⟩ = some (.int .i64 an) := by rw [World.cell?, show w12.drew.heap = w12.heap from rfl, hanc9]; rfl
          have hc1 : w12.drew.cell? ⟨ga, 1, none⟩ = some (.string ac) := by rw [World.cell?, show w12.drew.heap = w12.heap from rfl, hanc9]; rfl
          have hr9d : w12.drew.heap[w.heap.size]? = some (.cells #[.int .i64 0, .string ⟨#[]⟩] 41 (0, 0)) := hr9
          have hd0 : w12.cell? ⟨w.heap.size, 0, none⟩ = some (.int .i64 0) := by simp [World.cell?, hr9]
          have hf0 : w12.frozen? ⟨w.heap.size, 0, none⟩ = false := by simp [World.frozen?, hr9]
          have hd1 : (w12.setCell ⟨w.heap.size, 0, none⟩ (.int .i64 an)).cell? ⟨w.heap.size, 1, none⟩ = some (.string ⟨#[]⟩) := (World.cell?_setCell_other _ _ _ _ (by simp)).trans (by simp [World.cell?, hr9])
          have he0 : ((w12.setCell ⟨w.heap.size, 0, none⟩ (.int .i64 an)).setCell ⟨w.heap.size, 1, none⟩ (.string ac)).cell? ⟨w.heap.size, 0, none⟩ = some (.int .i64 an) := (World.cell?_setCell_other _ _ _ _ (by simp)).trans (World.cell?_setCell_same _ _ _ hd0)
          have he1 : ((w12.setCell ⟨w.heap.size, 0, none⟩ (.int .i64 an)).setCell ⟨w.heap.size, 1, none⟩ (.string ac)).cell? ⟨w.heap.size, 1, none⟩ = some (.string ac) := World.cell?_setCell_same _ _ _ hd1
          have hbR : Below w.heap.size w ((w12.setCell ⟨w.heap.size, 0, none⟩ (.int .i64 an)).setCell ⟨w.heap.size, 1, none⟩ (.string ac)) := (hb9.setCell (Nat.le_refl _) _).setCell (Nat.le_refl _) _
          have hf1 : w12.frozen? ⟨w.heap.size, 1, none⟩ = false := by simp [World.frozen?, hr9]
          have HRow : Hid (((w12.setCell ⟨w.heap.size, 0, none⟩ (.int .i64 an)).setCell ⟨w.heap.size, 1, none⟩ (.string ac)).heap[w.heap.size]? = some (.cells #[.int .i64 an, .string ac] 41 (0, 0))) := by
            show _ = _
            rw [heap_setCell_same _ _ _ _ _ _ (heap_setCell_same _ _ _ _ _ _ hr9)]; rfl
          clear hbelow hanc9
          go_wp2_with fail
          refine wp_region_noPanic ?_
          refine wp_region_held_drew (S := fun u => u.cell? ⟨ga, 0, none⟩ = some (.int .i64 an) ∧ u.cell? ⟨ga, 1, none⟩ = some (.string ac)) (by kernel_rfl) ⟨hc0, hc1⟩ (fun hHeld => ?_)
          refine wpAnyH_take (i := 0) (oi := { dst := some 57, op := Op.move (Operand.tmp 6), type := 9, pos := "l05_log.go:189", after := #[], guard := none }) (v := ?_) rfl (by kernel_rfl) (by kernel_rfl) (by kernel_rfl) (fun _ _ _ h => h) (Or.inl ⟨by rfl, ?_⟩) hHeld ?_
          rotate_left
          · rintro w ⟨z0, z1⟩; go_simp; (try with_reducible rfl)
          try simp only [Act.put, List.setIfInBounds_toArray, List.set_cons_zero, List.set_cons_succ]
          refine wpAnyH_take (i := 1) (oi := { dst := some 58, op := Op.load 41 (Operand.tmp 8), type := 41, pos := "l05_log.go:189", after := #[{ on := 3, ground := Ground.gcOnly Departure.lateStores }], guard := none }) (v := ?_) rfl (by kernel_rfl) (by kernel_rfl) (by kernel_rfl) (fun _ _ _ h => h) (Or.inl ⟨by rfl, ?_⟩) hHeld ?_
          rotate_left
          · rintro w ⟨z0, z1⟩; go_simp; (try with_reducible rfl)
          try simp only [Act.put, List.setIfInBounds_toArray, List.set_cons_zero, List.set_cons_succ]
          refine wpAnyH_take (i := 2) (oi := { dst := some 59, op := Op.move (Operand.tmp 9), type := 9, pos := "l05_log.go:189", after := #[{ on := 4, ground := Ground.gcOnly Departure.lateStores }], guard := none }) (v := ?_) rfl (by kernel_rfl) (by kernel_rfl) (by kernel_rfl) (fun _ _ _ h => h) (Or.inl ⟨by rfl, ?_⟩) hHeld ?_
          rotate_left
          · rintro w ⟨z0, z1⟩; go_simp; (try with_reducible rfl)
          try simp only [Act.put, List.setIfInBounds_toArray, List.set_cons_zero, List.set_cons_succ]
          refine wpAnyH_take (i := 3) (oi := { dst := some 2, op := Op.assign (Operand.tmp 57), type := 9, pos := "l05_log.go:189", after := #[{ on := 0, ground := Ground.data }, { on := 0, ground := Ground.phase }, { on := 1, ground := Ground.textOnly Departure.lateStores }, { on := 2, ground := Ground.textOnly Departure.lateStores }], guard := none }) (v := ?_) rfl (by kernel_rfl) (by kernel_rfl) (by kernel_rfl) (fun _ _ _ h => h) (Or.inl ⟨by rfl, ?_⟩) hHeld ?_
          rotate_left
          · rintro w ⟨z0, z1⟩; go_simp; (try with_reducible rfl)
          try simp only [Act.put, List.setIfInBounds_toArray, List.set_cons_zero, List.set_cons_succ]
          refine wpAnyH_ready (rs := [4]) (by kernel_rfl) (by simp) ?_
          refine AllReadyH.cons rfl (fun K hK => ?_) AllReadyH.nil
          go_simp
          refine hK.out _ _ ⟨(World.cell?_setCell_far _ _ _ _ hng2).trans ((World.cell?_setCell_far _ _ _ _ hng2).trans hc0), (World.cell?_setCell_far _ _ _ _ hng2).trans ((World.cell?_setCell_far _ _ _ _ hng2).trans hc1)⟩ (fun hHeld => ?_)
          clear hK K
          try simp only [Act.put, List.setIfInBounds_toArray, List.set_cons_zero, List.set_cons_succ]
          refine wpAnyH_take (i := 5) (oi := { dst := some 4, op := Op.assign (Operand.tmp 59), type := 9, pos := "l05_log.go:189", after := #[{ on := 2, ground := Ground.data }, { on := 4, ground := Ground.chain }, { on := 0, ground := Ground.phase }, { on := 1, ground := Ground.phase }, { on := 2, ground := Ground.phase }, { on := 3, ground := Ground.phase }, { on := 4, ground := Ground.phase }], guard := none }) (v := ?_) rfl (by kernel_rfl) (by kernel_rfl) (by kernel_rfl) (fun _ _ _ h => h) (Or.inl ⟨by rfl, ?_⟩) hHeld ?_
          rotate_left
          · rintro w ⟨z0, z1⟩; go_simp; (try with_reducible rfl)
          try simp only [Act.put, List.setIfInBounds_toArray, List.set_cons_zero, List.set_cons_succ]
          refine wpAnyH_done (by kernel_rfl) ?_ _
          refine NoPanic.normal ?_
          go_wp2_with fail
          exact bodyPost_ret (results_tct rfl _ _ w.heap.size 41 #[.int .i64 an, .string ac] (0, 0) _ rfl HRow.out Tryd.underlying41 rfl infoAn) rfl ⟨key, ac, t2, an, rfl, hk, hac, HT.out, by first | exact hbR | exact hbR.drew⟩
      · have e0 : ((k5 : Int) == 0) = false := by simp; omega
        have e1 : ((k5 : Int) == 1) = false := by simp; omega
        have e2 : ((k5 : Int) == 2) = false := by simp; omega
        have hanc9 : w8.heap[ga]? = some (.cells #[.int .i64 an, .string ac] 41 (0, 0)) := (hA8.2.block _ hgl7 (by simp; omega)).trans hanc7
        have hbelow := hA8.1.2.1
        have HT : Hid (t.size ≤ 2000) := by show t.size ≤ 2000; omega
        clear hA8 hanc7 hG7 hA2 h0 h1 h2
        have hr9 : w8.heap[w.heap.size]? = some (.cells #[.int .i64 0, .string ⟨#[]⟩] 41 (0, 0)) := (hbelow.block _ (by rw [hWs.out]; exact Nat.lt_succ_self _)).trans hWg
        have hng : ga ≠ w.heap.size := by have := hWs.out; omega
        have hng2 : w.heap.size ≠ ga := fun e => hng e.symm
        have hb9 : Below w.heap.size w w8 := hBW.trans (hbelow.mono (by rw [hWs.out]; exact Nat.le_succ _))
        have hc0 : w8.drew.cell? ⟨ga, 0, none⟩ = some (.int .i64 an) := by rw [World.cell?, show w8.drew.heap = w8.heap from rfl, hanc9]; rfl
        have hc1 : w8.drew.cell? ⟨ga, 1, none⟩ = some (.string ac) := by rw [World.cell?, show w8.drew.heap = w8.heap from rfl, hanc9]; rfl
        have hr9d : w8.drew.heap[w.heap.size]? = some (.cells #[.int .i64 0, .string ⟨#[]⟩] 41 (0, 0)) := hr9
        have hd0 : w8.cell? ⟨w.heap.size, 0, none⟩ = some (.int .i64 0) := by simp [World.cell?, hr9]
        have hf0 : w8.frozen? ⟨w.heap.size, 0, none⟩ = false := by simp [World.frozen?, hr9]
        have hd1 : (w8.setCell ⟨w.heap.size, 0, none⟩ (.int .i64 an)).cell? ⟨w.heap.size, 1, none⟩ = some (.string ⟨#[]⟩) := (World.cell?_setCell_other _ _ _ _ (by simp)).trans (by simp [World.cell?, hr9])
        have he0 : ((w8.setCell ⟨w.heap.size, 0, none⟩ (.int .i64 an)).setCell ⟨w.heap.size, 1, none⟩ (.string ac)).cell? ⟨w.heap.size, 0, none⟩ = some (.int .i64 an) := (World.cell?_setCell_other _ _ _ _ (by simp)).trans (World.cell?_setCell_same _ _ _ hd0)
        have he1 : ((w8.setCell ⟨w.heap.size, 0, none⟩ (.int .i64 an)).setCell ⟨w.heap.size, 1, none⟩ (.string ac)).cell? ⟨w.heap.size, 1, none⟩ = some (.string ac) := World.cell?_setCell_same _ _ _ hd1
        have hbR : Below w.heap.size w ((w8.setCell ⟨w.heap.size, 0, none⟩ (.int .i64 an)).setCell ⟨w.heap.size, 1, none⟩ (.string ac)) := (hb9.setCell (Nat.le_refl _) _).setCell (Nat.le_refl _) _
        have hf1 : w8.frozen? ⟨w.heap.size, 1, none⟩ = false := by simp [World.frozen?, hr9]
        have HRow : Hid (((w8.setCell ⟨w.heap.size, 0, none⟩ (.int .i64 an)).setCell ⟨w.heap.size, 1, none⟩ (.string ac)).heap[w.heap.size]? = some (.cells #[.int .i64 an, .string ac] 41 (0, 0))) := by
          show _ = _
          rw [heap_setCell_same _ _ _ _ _ _ (heap_setCell_same _ _ _ _ _ _ hr9)]; rfl
        clear hbelow hanc9
        go_wp2_with fail
        refine wp_region_noPanic ?_
        refine wp_region_held_drew (S := fun u => u.cell? ⟨ga, 0, none⟩ = some (.int .i64 an) ∧ u.cell? ⟨ga, 1, none⟩ = some (.string ac)) (by kernel_rfl) ⟨hc0, hc1⟩ (fun hHeld => ?_)
        refine wpAnyH_take (i := 0) (oi := { dst := some 57, op := Op.move (Operand.tmp 6), type := 9, pos := "l05_log.go:189", after := #[], guard := none }) (v := ?_) rfl (by kernel_rfl) (by kernel_rfl) (by kernel_rfl) (fun _ _ _ h => h) (Or.inl ⟨by rfl, ?_⟩) hHeld ?_
        rotate_left
        · rintro w ⟨z0, z1⟩; go_simp; (try with_reducible rfl)
        try simp only [Act.put, List.setIfInBounds_toArray, List.set_cons_zero, List.set_cons_succ]
        refine wpAnyH_take (i := 1) (oi := { dst := some 58, op := Op.load 41 (Operand.tmp 8), type := 41, pos := "l05_log.go:189", after := #[{ on := 3, ground := Ground.gcOnly Departure.lateStores }], guard := none }) (v := ?_) rfl (by kernel_rfl) (by kernel_rfl) (by kernel_rfl) (fun _ _ _ h => h) (Or.inl ⟨by rfl, ?_⟩) hHeld ?_
        rotate_left
        · rintro w ⟨z0, z1⟩; go_simp; (try with_reducible rfl)
        try simp only [Act.put, List.setIfInBounds_toArray, List.set_cons_zero, List.set_cons_succ]
        refine wpAnyH_take (i := 2) (oi := { dst := some 59, op := Op.move (Operand.tmp 9), type := 9, pos := "l05_log.go:189", after := #[{ on := 4, ground := Ground.gcOnly Departure.lateStores }], guard := none }) (v := ?_) rfl (by kernel_rfl) (by kernel_rfl) (by kernel_rfl) (fun _ _ _ h => h) (Or.inl ⟨by rfl, ?_⟩) hHeld ?_
        rotate_left
        · rintro w ⟨z0, z1⟩; go_simp; (try with_reducible rfl)
        try simp only [Act.put, List.setIfInBounds_toArray, List.set_cons_zero, List.set_cons_succ]
        refine wpAnyH_take (i := 3) (oi := { dst := some 2, op := Op.assign (Operand.tmp 57), type := 9, pos := "l05_log.go:189", after := #[{ on := 0, ground := Ground.data }, { on := 0, ground := Ground.phase }, { on := 1, ground := Ground.textOnly Departure.lateStores }, { on := 2, ground := Ground.textOnly Departure.lateStores }], guard := none }) (v := ?_) rfl (by kernel_rfl) (by kernel_rfl) (by kernel_rfl) (fun _ _ _ h => h) (Or.inl ⟨by rfl, ?_⟩) hHeld ?_
        rotate_left
        · rintro w ⟨z0, z1⟩; go_simp; (try with_reducible rfl)
        try simp only [Act.put, List.setIfInBounds_toArray, List.set_cons_zero, List.set_cons_succ]
        refine wpAnyH_ready (rs := [4]) (by kernel_rfl) (by simp) ?_
        refine AllReadyH.cons rfl (fun K hK => ?_) AllReadyH.nil
        go_simp
        refine hK.out _ _ ⟨(World.cell?_setCell_far _ _ _ _ hng2).trans ((World.cell?_setCell_far _ _ _ _ hng2).trans hc0), (World.cell?_setCell_far _ _ _ _ hng2).trans ((World.cell?_setCell_far _ _ _ _ hng2).trans hc1)⟩ (fun hHeld => ?_)
        clear hK K
        try simp only [Act.put, List.setIfInBounds_toArray, List.set_cons_zero, List.set_cons_succ]
        refine wpAnyH_take (i := 5) (oi := { dst := some 4, op := Op.assign (Operand.tmp 59), type := 9, pos := "l05_log.go:189", after := #[{ on := 2, ground := Ground.data }, { on := 4, ground := Ground.chain }, { on := 0, ground := Ground.phase }, { on := 1, ground := Ground.phase }, { on := 2, ground := Ground.phase }, { on := 3, ground := Ground.phase }, { on := 4, ground := Ground.phase }], guard := none }) (v := ?_) rfl (by kernel_rfl) (by kernel_rfl) (by kernel_rfl) (fun _ _ _ h => h) (Or.inl ⟨by rfl, ?_⟩) hHeld ?_
        rotate_left
        · rintro w ⟨z0, z1⟩; go_simp; (try with_reducible rfl)
        try simp only [Act.put, List.setIfInBounds_toArray, List.set_cons_zero, List.set_cons_succ]
        refine wpAnyH_done (by kernel_rfl) ?_ _
        refine NoPanic.normal ?_
        go_wp2_with fail
        exact bodyPost_ret (results_tct rfl _ _ w.heap.size 41 #[.int .i64 an, .string ac] (0, 0) _ rfl HRow.out Tryd.underlying41 rfl infoAn) rfl ⟨key, ac, t, an, rfl, hk, hac, HT.out, by first | exact hbR | exact hbR.drew⟩
end Go.Proofs.YtcfekhahibklfaaDoor.dl
