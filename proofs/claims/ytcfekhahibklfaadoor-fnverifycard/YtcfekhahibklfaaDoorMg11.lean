/-
  The promise laws' own helpers: texts held against others, what LogRead tells held against another. No condition.
  The promise laws' own helpers: what LogRead tells held against the same; a place below the most. No condition.
  A text that is spoilt a little, as DrawBox2 says; no block turns but the source's. No condition.
-/
import Derived.Test.YtcfekhahibklfaaDoorMg4
import Derived.Test.YtcfekhahibklfaaDoorLogS0
import Derived.Deep.RegionHeld3
import Derived.Test.YtcfekhahibklfaaDoorDraw0
import Derived.Test.YtcfekhahibklfaaDoorMg6
import Derived.Test.YtcfekhahibklfaaDoorMg5
namespace Go.Proofs.YtcfekhahibklfaaDoor.lw
open Go.ChangeShapes Go.WideShapes Go.ChangeAt Go.RowKit
open Go.Proofs.YtcfekhahibklfaaDoor.wi (heap_lt calls_w wp_w)
open Go.Proofs.YtcfekhahibklfaaDoor.lg Go.Proofs.YtcfekhahibklfaaDoor.ss
set_option linter.unusedVariables false
set_option linter.unusedSimpArgs false

set_option maxRecDepth 20000 in
set_option maxHeartbeats 8000000 in
theorem lwTexts_any (va vb : Value) (a b : List ByteArray) (w : World) (ha : a.length ≤ maxLen) (hb : b.length ≤ maxLen) (hva : SliceIs w va a) (hvb : SliceIs w vb b) :
    Calls Tryd.prog 23 #[va, vb] w fun e w' => e = .returned (.bool (decide (a = b))) ∧ Below w.heap.size w w' := by
  have HB : Hid (Below w.heap.size w w) := Below.refl _ _
  unfold maxLen at ha hb
  by_cases hlen : a.length = b.length
  · by_cases h0 : a.length = 0
    · have e1 : a = [] := List.eq_nil_of_length_eq_zero h0
      have e2 : b = [] := List.eq_nil_of_length_eq_zero (by omega)
      obtain ⟨pa, ca, rfl⟩ := hva.shape
      obtain ⟨pb, cb, rfl⟩ := hvb.shape
      rw [← hlen, h0, decide_eq_true (e1.trans e2.symm)]
      clear hva hvb
      go_enter Tryd.func23, Tryd.ntmps23
      go_wp2
      refine wp_loop_rounds 1 ?_
      rw [rounds_succ]
      go_wp2
      go_ret
      exact ⟨rfl, HB.out⟩
    · obtain ⟨ba, oa, ca, hba, rfl, hRa⟩ : ∃ b off cap, b < w.heap.size ∧ va = .slice (some ⟨b, off, none⟩) a.length cap ∧ Row w b off a := by
        rcases hva with ⟨p, cap, he, _⟩ | h
        · rw [he] at h0; simp at h0
        · exact h
      obtain ⟨bb, ob, cb, hbb, rfl, hRb⟩ : ∃ b' off cap, b' < w.heap.size ∧ vb = .slice (some ⟨b', off, none⟩) b.length cap ∧ Row w b' off b := by
        rcases hvb with ⟨p, cap, he, _⟩ | h
        · rw [he] at hlen; exact absurd hlen h0
        · exact h
      rw [← hlen]
      obtain ⟨n, hn⟩ : ∃ n, n = a.length := ⟨_, rfl⟩
      have HRa : Hid (∀ k, k < n → w.cell? ⟨ba, oa + k, none⟩ = some (.string (a.getD k ⟨#[]⟩))) := fun k hk => hRa k (by omega)
      have HRb : Hid (∀ k, k < n → w.cell? ⟨bb, ob + k, none⟩ = some (.string (b.getD k ⟨#[]⟩))) := fun k hk => hRb k (by omega)
      have HNo : Hid (∀ k, k < n → ¬ a.getD k ⟨#[]⟩ = b.getD k ⟨#[]⟩ → decide (a = b) = false) := fun k hk h => decide_eq_false fun e => h (by rw [e])
      have HYes : Hid ((∀ j, j < n → a.getD j ⟨#[]⟩ = b.getD j ⟨#[]⟩) → decide (a = b) = true) := fun h => decide_eq_true (by
        apply List.ext_getElem hlen
        intro j h1 h2
        have := h j (by omega)
        rwa [getD_at h1, getD_at h2] at this)
      generalize decide (a = b) = d at *
      rw [← hn] at ha ⊢
      clear hva hvb hRa hRb hlen h0 hn hb
      go_enter Tryd.func23, Tryd.ntmps23
      go_wp2
      go_loopw [5] (fun i u => ∃ k : Nat, k ≤ n ∧ i = .int .i64 k ∧ Hid (∀ j, j < k → a.getD j ⟨#[]⟩ = b.getD j ⟨#[]⟩) ∧ Hid (Below w.heap.size w u)) (fun i _ => n - (intOf i).toNat)
      case atStart => exact ⟨0, Nat.zero_le _, rfl, fun j hj => by omega, HB⟩
      case round =>
        obtain ⟨k, hk, rfl, HE, HU⟩ := hrel
        by_cases hlt : k < n
        · have c1 : wr.cell? ⟨ba, oa + k, none⟩ = some (.string (a.getD k ⟨#[]⟩)) := (HU.out.cell (p := ⟨ba, oa + k, none⟩) hba).trans (HRa.out k hlt)
          have c2 : wr.cell? ⟨bb, ob + k, none⟩ = some (.string (b.getD k ⟨#[]⟩)) := (HU.out.cell (p := ⟨bb, ob + k, none⟩) hbb).trans (HRb.out k hlt)
          have HNk := HNo.out k hlt
          by_cases he : a.getD k ⟨#[]⟩ = b.getD k ⟨#[]⟩
          · have HE2 : Hid (∀ j, j < k + 1 → a.getD j ⟨#[]⟩ = b.getD j ⟨#[]⟩) := fun j hj => by
              by_cases e : j = k
              · rw [e]; exact he
              · exact HE.out j (by omega)
            have HU2 : Hid (Below w.heap.size w wr.drew) := HU.out.drew
            rw [← he] at c2
            clear HNk he HE HNo HYes HRa HRb HU
            generalize a.getD k ⟨#[]⟩ = x at c1 c2
            have q : (x.toList == x.toList) = true := by simp
            go_wp2
            go_region_with (fail)
            all_goals
              go_wp2
              exact ⟨⟨k + 1, by omega, by go_num, HE2, HU2⟩, by simp [intOf]; omega⟩
          · have hd := HNk he
            have HU2 : Hid (Below w.heap.size w wr.drew) := HU.out.drew
            have q := beqF he
            clear HNk he HE HNo HYes HRa HRb HU
            generalize a.getD k ⟨#[]⟩ = x at *
            generalize b.getD k ⟨#[]⟩ = y at *
            go_wp2
            go_region_with (fail)
            all_goals
              go_wp2
              go_ret
              exact ⟨by rw [hd]; rfl, HU2.out⟩
        · obtain rfl : k = n := by omega
          have hd := HYes.out HE.out
          clear HE HNo HYes HRa HRb
          go_wp2
          go_ret
          exact ⟨by rw [hd]; rfl, HU.out⟩
  · have d : ((a.length : Int) != (b.length : Int)) = true := by simp; omega
    rw [decide_eq_false (fun e => hlen (by rw [e]))]
    obtain ⟨pa, ca, rfl⟩ := hva.shape
    obtain ⟨pb, cb, rfl⟩ := hvb.shape
    generalize a.length = n at *
    generalize b.length = m at *
    clear hva hvb hlen
    go_enter Tryd.func23, Tryd.ntmps23
    go_wp2
    go_ret
    exact ⟨rfl, HB.out⟩
end Go.Proofs.YtcfekhahibklfaaDoor.lw

namespace Go.Proofs.YtcfekhahibklfaaDoor.lw
open Go.ChangeShapes Go.WideShapes Go.ChangeAt Go.RowKit
open Go.Proofs.YtcfekhahibklfaaDoor.wi (heap_lt calls_w wp_w)
open Go.Proofs.YtcfekhahibklfaaDoor.dr (Codes)
open Go.Proofs.YtcfekhahibklfaaDoor.lg Go.Proofs.YtcfekhahibklfaaDoor.ss
set_option linter.unusedVariables false
set_option linter.unusedSimpArgs false

theorem lwAt_any (a : Option Addr) (len cap : Nat) (most : Nat) (w : World) (hC : Codes w w.heap.size a len) (m0 : 2 ≤ most) (m1 : most ≤ 1048576) :
    Calls Tryd.prog 22 #[.slice a len cap, .int .i64 0, .int .i64 (most : Int)] w fun e w' => (∃ v : Nat, e = .returned (.int .i64 (v : Int)) ∧ v < most) ∧ w' = w := by
  obtain ⟨hl, hc⟩ := hC
  have hm : ¬ (most : Int) ≤ 1 := by omega
  by_cases hz : len = 0
  · subst hz
    go_enter Tryd.func22, Tryd.ntmps22
    go_wp2
    go_ret
    exact ⟨⟨0, rfl, by omega⟩, rfl⟩
  obtain h | ⟨b, off, rfl, hbB, hcz⟩ := hc
  · omega
  obtain ⟨z, hz', z0, z1⟩ := hcz 0 (by omega)
  clear hcz
  rw [Nat.add_zero] at hz'
  have dm : decide ((most : Int) ≤ 1) = false := decide_eq_false hm
  have dz : ((len : Int) == 0) = false := by simp; omega
  go_enter Tryd.func22, Tryd.ntmps22
  go_wp2
  go_ret
  have e1 := Int.emod_nonneg z (show (most : Int) ≠ 0 by omega)
  have e2 := Int.emod_lt_of_pos z (show 0 < (most : Int) by omega)
  obtain ⟨k, hk⟩ : ∃ k : Nat, z % (most : Int) = (k : Int) := ⟨(z % (most : Int)).toNat, by omega⟩
  exact ⟨⟨k, by rw [← hk]; rfl, by omega⟩, rfl⟩
theorem heap_alloc2 (w : World) (o p : Obj) : ((w.alloc o).alloc p).heap[w.heap.size + 1]? = some p := by
  have := heap_alloc_new (w.alloc o) p
  rwa [World.size_alloc] at this
theorem log_cells {u : World} {q : Nat} {v : Value} {i k : Int} (h : u.heap[q]? = some (.cells #[v, .int .i64 i, .int .i64 k] 36 (0, 0))) : u.cell? ⟨q, 0, none⟩ = some v ∧ u.cell? ⟨q, 1, none⟩ = some (.int .i64 i) ∧ u.cell? ⟨q, 2, none⟩ = some (.int .i64 k) := by
  refine ⟨?_, ?_, ?_⟩ <;> simp [World.cell?, h]
set_option maxRecDepth 20000 in
set_option maxHeartbeats 8000000 in
theorem lwLog_any (va vb : Value) (i k : Int) (l : List ByteArray) (w : World) (hl : l.length ≤ maxLen) (ha : SliceIs w va l) (hb : SliceIs w vb l) : Calls Tryd.prog 13 #[.agg #[va, .int .i64 i, .int .i64 k], .agg #[vb, .int .i64 i, .int .i64 k]] w fun r w' => r = .returned (.bool true) ∧ Below w.heap.size w w' := by
  obtain ⟨pa, ca, rfl⟩ := ha.shape
  obtain ⟨pb, cb, rfl⟩ := hb.shape
  have HE : Hid (∀ u, Below w.heap.size w u → Calls Tryd.prog 23 #[.slice pa l.length ca, .slice pb l.length cb] u fun r w' => r = .returned (.bool true) ∧ Below u.heap.size u w') := fun u hu => by
    have := lwTexts_any _ _ l l u hl hl (ha.up hu) (hb.up hu)
    rwa [decide_eq_true rfl] at this
  have HB : Hid (Below w.heap.size w ((w.alloc (.cells #[.slice pa l.length ca, .int .i64 i, .int .i64 k] 36)).alloc (.cells #[.slice pb l.length cb, .int .i64 i, .int .i64 k] 36))) := ((Below.refl _ _).alloc (Nat.le_refl _) _).alloc (by simp) _
  have hq : (i == i) = true := by simp
  have hq2 : (k == k) = true := by simp
  clear ha hb
  go_enter Tryd.func13, Tryd.ntmps13
  go_wp2_with (go_at_call 23; (refine (HE.out _ HB.out).mono ?_); rintro r w1 ⟨rfl, hb1⟩)
  have HP : Hid (Below w.heap.size w w1) := HB.out.trans (hb1.mono HB.out.size)
  clear hb1 HE HB
  go_wp2
  go_ret
  exact ⟨rfl, HP.out⟩
end Go.Proofs.YtcfekhahibklfaaDoor.lw

namespace Go.Proofs.YtcfekhahibklfaaDoor.sk
open Go.ChangeShapes Go.WideShapes Go.ChangeAt Go.RowKit
open Go.Proofs.YtcfekhahibklfaaDoor.dr Go.Proofs.YtcfekhahibklfaaDoor.db
set_option linter.unusedVariables false
set_option linter.unusedSimpArgs false

/-- a source at work, and what has grown since -/
def AG (w0 u0 : World) (a : Option Addr) (len cap : Nat) (u : World) : Prop := At w0 a len cap u ∧ u0.grownBy u (some w0.heap.size)
theorem AG.start {w0 u : World} {a : Option Addr} {len cap : Nat} (h : At w0 a len cap u) : AG w0 u a len cap u := ⟨h, ⟨rfl, rfl, rfl, Nat.le_refl _, fun _ _ _ => rfl⟩⟩
theorem AG.next {w0 u0 u u2 : World} {a : Option Addr} {len cap : Nat} (h : AG w0 u0 a len cap u) (hA : At w0 a len cap u2) (hg : u.grownBy u2 (some w0.heap.size)) : AG w0 u0 a len cap u2 := ⟨hA, gtrans h.2 hg⟩
theorem AG.alloc {w0 u0 u : World} {a : Option Addr} {len cap : Nat} (h : AG w0 u0 a len cap u) (o : Obj) : AG w0 u0 a len cap (u.alloc o) := h.next (db.At.alloc h.1 o) (World.grownBy_alloc _ _ _)
theorem AG.drewN {w0 u0 u : World} {a : Option Addr} {len cap : Nat} (h : AG w0 u0 a len cap u) (k : Nat) : AG w0 u0 a len cap (u.drewN k) := h.next (db.At.drewN h.1 k) ⟨rfl, rfl, rfl, Nat.le_refl _, fun _ _ _ => rfl⟩
theorem n_k {w0 u0 u : World} {a : Option Addr} {len cap : Nat} (h : AG w0 u0 a len cap u) (most : Nat) (m0 : 1 ≤ most) (m1 : most ≤ 1048576) :
    Calls Tryd.prog 40 #[.pointer (some ⟨w0.heap.size, 0, none⟩), .int .i64 (most : Int)] u fun e w' => ∃ k : Nat, e = .returned (.int .i64 (k : Int)) ∧ k < most ∧ AG w0 u0 a len cap w' :=
  (dn.n_g h.1 most m0 m1).mono fun e w' ⟨k, he, hk, hA, hg⟩ => ⟨k, he, hk, h.next hA hg⟩
theorem one_k {w0 u0 u : World} {a : Option Addr} {len cap : Nat} (h : AG w0 u0 a len cap u) (of_ : Int) (m0 : -9223372036854775808 ≤ of_) (m1 : of_ ≤ 9223372036854775807) :
    Calls Tryd.prog 42 #[.pointer (some ⟨w0.heap.size, 0, none⟩), .int .i64 of_] u fun e w' => ∃ b : Bool, e = .returned (.bool b) ∧ AG w0 u0 a len cap w' :=
  (dn.one_g h.1 of_ m0 m1).mono fun e w' ⟨k, he, hA, hg⟩ => ⟨k, he, h.next hA hg⟩

set_option maxRecDepth 20000 in
set_option maxHeartbeats 4000000 in
theorem spoil_k {w0 u0 u : World} {a : Option Addr} {len cap : Nat} (h : AG w0 u0 a len cap u) (t : ByteArray) (ht : t.size ≤ 4000) :
    Calls Tryd.prog 41 #[.pointer (some ⟨w0.heap.size, 0, none⟩), .string t] u fun e w' => ∃ t' : ByteArray, e = .returned (.string t') ∧ t'.size ≤ t.size + 1 ∧ AG w0 u0 a len cap w' := by
  have e1 : IntKind.i64.wrap ((t.size : Int) + 1) = (t.size : Int) + 1 := by rw [IntKind.wrap_i64]; omega
  have hn := n_k h (t.size + 1) (by omega) (by omega)
  rw [show ((t.size + 1 : Nat) : Int) = (t.size : Int) + 1 by omega] at hn
  go_enter Tryd.func41, Tryd.ntmps41
  go_wp2_with fail
  refine hn.mono ?_
  rintro e w1 ⟨k, rfl, hk, hA1⟩
  clear hn h
  go_wp2_with fail
  refine (n_k hA1 17 (by omega) (by omega)).mono ?_
  rintro e w2 ⟨j, rfl, hj, hA2⟩
  clear hA1
  have j0 : (0 : Int) ≤ (j : Int) := by omega
  have j1 : (j : Int) < 17 := by omega
  have hcv := one_conv w2
  have k0 : (0 : Int) ≤ (k : Int) := by omega
  have k1 : (k : Int) ≤ (t.size : Int) := by omega
  have e2 : IntKind.i64.wrap ((k : Int) + 1) = (k : Int) + 1 := by rw [IntKind.wrap_i64]; omega
  have s1 : ∀ b : UInt8, (⟨#[b]⟩ : ByteArray).size = 1 := fun _ => rfl
  by_cases hkt : k = t.size
  · have hkb : ((k : Int) == (t.size : Int)) = true := by simp; omega
    go_wp2_with fail
    refine wp_world (fun u => AG w0 u0 a len cap u) (AG.alloc hA2 _) ?_
    clear hcv hA2
    intro w3 hA3
    go_quiet (fail)
    go_wp2_with fail
    go_ret
    exact ⟨_, rfl, by simp only [ByteArray.size_append, ByteArray.size_extract, s1]; omega, AG.drewN hA3 _⟩
  · have hkb : ((k : Int) == (t.size : Int)) = false := by simp; omega
    have k2 : (k : Int) + 1 ≤ (t.size : Int) := by omega
    have k3 : (0 : Int) ≤ (k : Int) + 1 := by omega
    go_wp2_with fail
    refine (one_k (AG.alloc hA2 _) _ (by omega) (by omega)).mono ?_
    rintro e w3 ⟨vb, rfl, hA3⟩
    clear hA2 hcv
    cases vb
    · go_wp2_with fail
      refine (one_k hA3 _ (by omega) (by omega)).mono ?_
      rintro e w4 ⟨vb, rfl, hA4⟩
      clear hA3
      cases vb
      · go_wp2_with fail
        go_quiet (fail)
        go_wp2_with fail
        go_ret
        exact ⟨_, rfl, by simp only [ByteArray.size_append, ByteArray.size_extract, s1]; omega, AG.drewN hA4 _⟩
      · go_wp2_with fail
        go_quiet (fail)
        go_wp2_with fail
        go_ret
        exact ⟨_, rfl, by simp only [ByteArray.size_append, ByteArray.size_extract, s1]; omega, AG.drewN hA4 _⟩
    · go_wp2_with fail
      go_quiet (fail)
      go_wp2_with fail
      go_ret
      exact ⟨_, rfl, by simp only [ByteArray.size_append, ByteArray.size_extract, s1]; omega, AG.drewN hA3 _⟩
end Go.Proofs.YtcfekhahibklfaaDoor.sk
