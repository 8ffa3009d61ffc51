/-
  The law on the stream for every bytes that are drawn from, where these are at most 2^20 each and the table of places lies in its variable: it answers true; no old block turns.
-/
import Derived.Test.YtjnfeohcimcgmaaDoorStreamP
import Derived.Deep.RegionHeld3
import Derived.Deep.QuietTactic
import Derived.BigQuiet
namespace Go.Proofs.YtjnfeohcimcgmaaDoor.cc
open Go.ChangeShapes Go.WideShapes Go.ChangeAt Go.RowKit
open Go.Proofs.YtjnfeohcimcgmaaDoor.sh (U wr_U)
open Go.Proofs.YtjnfeohcimcgmaaDoor.dr (Codes)
open Go.Proofs.YtjnfeohcimcgmaaDoor.ds
set_option linter.unusedVariables false

set_option maxRecDepth 20000 in
set_option maxHeartbeats 16000000 in
theorem streamCore (a0 : Option Addr) (len0 cap0 : Nat) (a1 : Option Addr) (len1 cap1 : Nat) (w : World) (c0 : Codes w w.heap.size a0 len0) (c1 : Codes w w.heap.size a1 len1) (hg : Mixes w) :
    Calls Tryd.prog 5 #[.slice a0 len0 cap0, .slice a1 len1 cap1] w fun e w' => e = .returned (.bool true) ∧ Below w.heap.size w w' := by
  have l0 := c0.1
  have l1 := c1.1
  have HC0 : Hid (Codes w w.heap.size a0 len0) := c0
  have HC1 : Hid (∀ u, Below w.heap.size w u → Codes u u.heap.size a1 len1) := fun u hb => by
    obtain ⟨hl, h⟩ := c1.below hb
    refine ⟨hl, h.imp id fun ⟨b, off, e, hB, hc⟩ => ⟨b, off, e, by have := hb.size; omega, hc⟩⟩
  have HG : Hid (∀ u, Below w.heap.size w u → Mixes u) := fun u hb => hg.up hb
  clear c0 c1 hg
  go_enter Tryd.func5, Tryd.ntmps5
  go_wp2_with fail
  refine (drawCipher_any a0 len0 cap0 _ HC0.out).mono ?_
  rintro e w1 ⟨key, n, nonce, t, rfl, hk, hn, ht, n0, n1, hB1⟩
  clear HC0
  go_wp2_with fail
  refine (implCipher_any key n nonce t w1 (by unfold maxLen; omega) (by unfold maxLen; omega) (by unfold maxLen; omega) (HG.out _ hB1)).mono ?_
  rintro e w2 ⟨rfl, hb2⟩
  have hB2 := hB1.trans (hb2.mono hB1.size)
  clear hb2 hB1
  obtain ⟨X, hX⟩ : ∃ X, X = cipherA key n nonce t := ⟨_, rfl⟩
  have HX : Hid (X = cipherA key n nonce t) := hX
  rw [← hX]
  clear hX
  go_wp2_with fail
  refine (drawBlock_any a1 len1 cap1 _ (HC1.out _ hB2)).mono ?_
  rintro e w3 ⟨k, c, m, rfl, kk, km, c0, c1, hb3⟩
  have hB3 := hB2.trans (hb3.mono hB2.size)
  clear hb3 hB2
  go_wp2_with fail
  refine (drawQuarter_any a1 len1 cap1 _ (HC1.out _ hB3)).mono ?_
  rintro e w4 ⟨q0, q1, q2, q3, rfl, hb4⟩
  have hB4 := hB3.trans (hb4.mono hB3.size)
  clear hb4 hB3
  go_wp2_with fail
  obtain ⟨g, hgq⟩ : ∃ g, g = w4.heap.size := ⟨_, rfl⟩
  rw [← hgq]
  refine wp_w (fun u => InSt w g q0 q1 q2 q3 u) ⟨hB4.alloc hB4.size _, by rw [hgq]; exact heap_alloc_new _ _⟩ ?_
  clear hgq hB4
  intro u hI
  have HIu : Hid (InSt w g q0 q1 q2 q3 u) := hI
  have HI := hI.drew
  clear hI
  have hmk : ∀ u : World, (Instr.makeSlice 22 (.int .i64 64) (.int .i64 64)).run Tryd.prog u = .ok (.slice (some ⟨u.heap.size, 0, none⟩) 64 64) (u.alloc (.cells (madeCells #[.int .u8 0] 64) 5)) := fun u => dr.zeros_make 64 (by omega) u
  have hcv : ∀ u : World, (convert 22 9 (.slice (some ⟨u.heap.size, 0, none⟩) 64 64)).run Tryd.prog (u.alloc (.cells (madeCells #[.int .u8 0] 64) 5)) = .ok (.string zeros64) (u.alloc (.cells (madeCells #[.int .u8 0] 64) 5)) := fun u => zconv (Below.refl _ _)
  have hz64 := zeros64_size
  go_cut [80] from 15 (fun b u => b = .bool false ∧ Below w.heap.size w u)
  case first =>
    refine wp_region_noPanic ?_
    go_region_held (fun u => InSt w g q0 q1 q2 q3 u ∧ u.cell? ⟨g, 0, none⟩ = some (.int .i64 q0) ∧ u.cell? ⟨g, 1, none⟩ = some (.int .i64 q1) ∧ u.cell? ⟨g, 2, none⟩ = some (.int .i64 q2) ∧ u.cell? ⟨g, 3, none⟩ = some (.int .i64 q3)) ((first | exact HI.cells | exact (HI.alloc _).cells | go_keep)) (first | (go_at_call 28; (with_reducible refine (specCipher_any _ _ _ _ _ (by unfold maxLen; omega) (by unfold maxLen; omega) (by unfold maxLen; omega)).mono ?_); rw [← HX.out]; rintro e u' ⟨rfl, hb⟩; replace HI := HI.up hb; clear hb) | (go_at_call 29; (with_reducible refine (implBlock_any _ _ _ _ (by unfold maxLen; omega) (by unfold maxLen; omega) (HG.out _ HI.below)).mono ?_); rintro e u' ⟨rfl, hb⟩; replace HI := HI.up hb; clear hb) | (go_at_call 29; (with_reducible refine (implBlock_any _ _ _ _ (by unfold maxLen; omega) (by unfold maxLen; omega) (HG.out _ (HI.alloc _).below)).mono ?_); rintro e u' ⟨rfl, hb⟩; have hcz := zconv hb; replace HI := (HI.alloc _).up hb; clear hb) | (go_at_call 30; (with_reducible refine (specBlock_any _ _ _ _ (by unfold maxLen; omega) (by unfold maxLen; omega)).mono ?_); rintro e u' ⟨rfl, hb⟩; replace HI := HI.up hb; clear hb) | (go_at_call 31; (with_reducible refine (implQuarter_any _ _ _ _ _).mono ?_); rintro e u' ⟨x, y, z, v, hT, rfl, hb⟩; have HT : Hid (Told4 q0 q1 q2 q3 x y z v) := hT; replace HI := HI.up hb; clear hb; clear hT) | (go_at_call 32; (with_reducible refine (specQuarter_any _ _ _ _ _).mono ?_); rintro e u' ⟨x', y', z', v', hT', rfl, hb⟩; obtain ⟨rfl, rfl, rfl, rfl⟩ := HT.out.one hT'; replace HI := HI.up hb; clear hb; clear hT') | (go_at_call 25; (with_reducible refine (implCipher_any _ _ _ _ _ (by unfold maxLen; omega) (by unfold maxLen; omega) (by unfold maxLen; omega) (HG.out _ (HI.alloc _).below)).mono ?_); rw [block_zeros]; rintro e u' ⟨rfl, hb⟩; replace HI := (HI.alloc _).up hb; clear hb) | (go_at_call 25; (with_reducible refine (implCipher_any _ _ _ _ _ (by unfold maxLen; omega) (by unfold maxLen; omega) (by unfold maxLen; omega) (HG.out _ HI.below)).mono ?_); rw [block_zeros]; rintro e u' ⟨rfl, hb⟩; replace HI := HI.up hb; clear hb))
    all_goals (refine NoPanic.normal ?_)
    all_goals
      go_wp2_with fail
      go_meet
      case rel => exact ⟨rfl, HI.1⟩
  case rest =>
    obtain ⟨rfl, hB⟩ := hcut
    clear HIu HI hmk hcv hz64 kk km c0 c1
    by_cases hX0 : X = ⟨#[]⟩
    · subst hX0
      go_wp2_with fail
      go_ret
      exact ⟨rfl, hB⟩
    · have hne : cipherA key n nonce t ≠ ⟨#[]⟩ := by rw [← HX.out]; exact hX0
      have hsz : X.size = t.size := by rw [HX.out]; exact cipher_size hne
      have H2 : Hid (cipherA key n nonce X = t) := by show _ = _; rw [HX.out]; exact cipher_twice hne
      have HK : Hid (∀ k : Nat, k ≤ t.size → cipherA key n nonce (t.extract 0 k) = X.extract 0 k) := fun k hk => by rw [HX.out]; exact cipher_take hne k hk
      have HD : Hid (n < 4294967295 → cipherA key (n + 1) nonce (t.extract 64 t.size) = X.extract 64 X.size) := fun hn => by rw [HX.out]; exact cipher_drop hne hn
      have hXs : (X.toList == ([] : List UInt8)) = false := by
        simp only [beq_eq_false_iff_ne, ne_eq, toList_dataS]
        intro e; exact hX0 (bytes_ext e)
      clear hne HX
      go_wp2_with fail
      refine (lwAt_any a1 len1 cap1 t.size _ (HC1.out _ hB) (by omega)).mono ?_
      rintro e w5 ⟨p, rfl, hp, hb5⟩
      have hB5 := hB.trans (hb5.mono hB.size)
      clear hb5 hB HC1
      have hp1 : (p : Int) ≤ (t.size : Int) := by omega
      have hp2 : (p : Int) ≤ (X.size : Int) := by omega
      have HKp : Hid (cipherA key n nonce (t.extract 0 p) = X.extract 0 p) := HK.out p hp
      clear HK
      go_wp2_with fail
      go_cut [106] from 15 (fun b u => b = .bool false ∧ Below w.heap.size w u)
      case first =>
        have hB6 := hB5.drew
        have hs1 : (t.extract 0 p).size ≤ 149 := by simp; omega
        go_region_held3 (fun u => Below w.heap.size w u) (first | exact hB6 | go_keep) (first | (go_at_call 25; refine (implCipher_any _ _ _ _ _ (by unfold maxLen; omega) (by unfold maxLen; omega) (by unfold maxLen; omega) (HG.out _ hB6)).mono ?_; (first | rw [H2.out] | rw [HKp.out]); rintro e u' ⟨rfl, hb⟩; replace hB6 := hB6.trans (hb.mono hB6.size); clear hb))
        all_goals
          go_wp2_with fail
          go_meet
          case rel => exact ⟨rfl, hB6⟩
      case rest =>
        obtain ⟨rfl, hB7⟩ := hcut
        clear hB5 H2 HKp hp1 hp2
        by_cases h64 : t.size ≤ 64
        · have e64 : decide ((t.size : Int) ≤ 64) = true := by simp; omega
          have h64' : (t.size : Int) ≤ 64 := by omega
          go_wp2_with fail
          go_quiet (fail)
          go_wp2_with fail
          go_ret
          exact ⟨rfl, below_drewN hB7 _⟩
        · have h64' : ¬ (t.size : Int) ≤ 64 := by omega
          have e64 : decide ((t.size : Int) ≤ 64) = false := by simp; omega
          by_cases hmax : 4294967295 ≤ n
          · have emax : decide (4294967295 ≤ n) = true := by simp; omega
            go_wp2_with fail
            go_quiet (fail)
            go_wp2_with fail
            go_ret
            exact ⟨rfl, below_drewN hB7 _⟩
          · have emax : decide (4294967295 ≤ n) = false := by simp; omega
            have ew : IntKind.i64.wrap (n + 1) = n + 1 := by rw [IntKind.wrap_i64]; omega
            have HDn : Hid (cipherA key (n + 1) nonce (t.extract 64 t.size) = X.extract 64 X.size) := HD.out (by omega)
            have hs1 : (t.extract 64 t.size).size ≤ 149 := by simp; omega
            have i1 : (64 : Int) ≤ (t.size : Int) := by omega
            have i2 : (64 : Int) ≤ (X.size : Int) := by omega
            have hB6 := hB7.drew
            go_wp2_with fail
            go_region_held3 (fun u => Below w.heap.size w u) (first | exact hB6 | go_keep) (first | (go_at_call 25; refine (implCipher_any _ _ _ _ _ (by unfold maxLen; omega) (by unfold maxLen; omega) (by unfold maxLen; omega) (HG.out _ hB6)).mono ?_; rw [HDn.out]; rintro e u' ⟨rfl, hb⟩; replace hB6 := hB6.trans (hb.mono hB6.size); clear hb))
            all_goals
              go_wp2_with fail
              go_ret
              exact ⟨rfl, hB6⟩
end Go.Proofs.YtjnfeohcimcgmaaDoor.cc
