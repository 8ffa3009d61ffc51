/-
  The program's globRight and the model's l08Glob at every text: they tell whether it is a glob as of a rule; no old block turns. No condition.
-/
import Derived.Test.YtndjjhcdnlkekaaDoorGl2
namespace Go.Proofs.YtndjjhcdnlkekaaDoor.gb
open Go.ChangeShapes Go.WideShapes Go.ChangeAt Go.RowKit
open Go.Proofs.YtndjjhcdnlkekaaDoor.sc (prn AllB AllB.not ret_b d_true d_false)
open Go.Proofs.YtndjjhcdnlkekaaDoor.ss (beqT beqF)
open Classical
set_option linter.unusedVariables false

theorem same_of (s : ByteArray) (m k : Nat) (h1 : 0 < s.size) (hm : m ≤ s.size) (hm1 : bat s (s.size - 1) = 32 → 0 < s.size → m < s.size) (hm2 : bat s (s.size - 1) ≠ 32 → m = s.size)
    (hk : k ≤ (s.extract 0 m).size) (hk1 : bat (s.extract 0 m) 0 = 32 → 0 < (s.extract 0 m).size → 0 < k) (hk2 : bat (s.extract 0 m) 0 ≠ 32 → k = 0) :
    (((s.extract 0 m).extract k (s.extract 0 m).size).toList == s.toList) = decide (bat s 0 ≠ 32 ∧ bat s (s.size - 1) ≠ 32) := by
  have z1 := ext_size s 0 m hm
  have z2 := ext_size (s.extract 0 m) k (s.extract 0 m).size (Nat.le_refl _)
  by_cases h : bat s (s.size - 1) = 32
  · have := hm1 h h1
    rw [decide_eq_false (fun h' => h'.2 h)]
    exact beqF fun e => by have := congrArg ByteArray.size e; omega
  · have e := hm2 h
    subst e
    rw [ext_all] at *
    by_cases h0 : bat s 0 = 32
    · have := hk1 h0 h1
      rw [decide_eq_false (fun h' => h'.1 h0)]
      exact beqF fun e => by have := congrArg ByteArray.size e; omega
    · have e := hk2 h0
      subst e
      rw [decide_eq_true ⟨h0, h⟩, ext_all]
      exact beqT rfl
set_option maxHeartbeats 2000000 in
set_option maxRecDepth 1000000 in
theorem trim_any (s : ByteArray) (w : World) (hs : s.size ≤ maxLen) (h1 : 0 < s.size) :
    Calls Tryd.prog 57 #[.string s, .string ⟨#[32]⟩] w fun e w' => (∃ t, e = .returned (.string t) ∧ (t.toList == s.toList) = decide (bat s 0 ≠ 32 ∧ bat s (s.size - 1) ≠ 32)) ∧ Below w.heap.size w w' := by
  have HR : ∀ u, Calls Tryd.prog 64 #[.string s, .int .u8 32] u _ := fun u => trimR_any s u hs
  have hne : s.toList.isEmpty = false := by
    rw [ByteArray.toList_eq]
    cases h : s.data.toList with
    | nil => have : s.size = 0 := by rw [show s.size = s.data.toList.length by simp, h]; rfl
             omega
    | cons a b => rfl
  have HS : Hid (∀ m k, m ≤ s.size → (bat s (s.size - 1) = 32 → 0 < s.size → m < s.size) → (bat s (s.size - 1) ≠ 32 → m = s.size) → k ≤ (s.extract 0 m).size → (bat (s.extract 0 m) 0 = 32 → 0 < (s.extract 0 m).size → 0 < k) → (bat (s.extract 0 m) 0 ≠ 32 → k = 0) →
    (((s.extract 0 m).extract k (s.extract 0 m).size).toList == s.toList) = decide (bat s 0 ≠ 32 ∧ bat s (s.size - 1) ≠ 32)) := fun m k a b c d e f => same_of s m k h1 a b c d e f
  have HM : Hid (∀ m, m ≤ s.size → (s.extract 0 m).size ≤ maxLen) := fun m hm => by rw [ext_size s 0 m hm]; omega
  have HL : Hid (∀ m, m ≤ s.size → ∀ u, Calls Tryd.prog 63 #[.string (s.extract 0 m), .int .u8 32] u _) := fun m hm u => trimL_any _ u (HM.out m hm)
  have HBW : Hid (Below w.heap.size w w) := Below.refl _ _
  unfold maxLen at hs
  clear h1
  go_enter Tryd.func57, Tryd.ntmps57
  have hx : ((⟨#[32]⟩ : ByteArray)[0]'(by decide)).toNat = 32 := rfl
  go_wp2_with fail
  go_region_with (first | (go_at_call 64; (with_reducible refine (HR _).mono ?_); rintro r w1 ⟨⟨m, hm, rfl, hm1, hm2⟩, rfl⟩) | (go_at_call 63; refine (HL.out m hm _).mono ?_; rintro r w2 ⟨⟨k, hk, rfl, hk1, hk2⟩, rfl⟩))
  all_goals
    have HE : Hid ((((s.extract 0 m).extract k m).toList == s.toList) = decide (bat s 0 ≠ 32 ∧ bat s (s.size - 1) ≠ 32)) := by
      have e := HS.out m k hm hm1 hm2 hk hk1 hk2
      rw [ext_size s 0 m hm, Nat.sub_zero] at e
      exact e
    clear hm1 hm2 hk1 hk2 hk HS HL HM HR
    generalize (s.extract 0 m).extract k m = t at HE ⊢
    go_wp2
    go_ret
    exact ⟨⟨_, rfl, HE.out⟩, HBW.out.drew⟩
theorem GlobR.first {g : ByteArray} (h : GlobR g) : 0 < g.size := by have := h.1; omega
set_option maxHeartbeats 2000000 in
theorem globI_any (g : ByteArray) (w : World) (hs : g.size ≤ maxLen) :
    Calls Tryd.prog 35 #[.string g] w fun e w' => e = .returned (.bool (decide (GlobR g))) ∧ Below w.heap.size w w' := by
  have hw := within_any (g.size : Int) 1 30
  have HBW : Hid (Below w.heap.size w w) := Below.refl _ _
  have hs' := hs
  unfold maxLen at hs'
  by_cases h1 : 1 ≤ (g.size : Int) ∧ (g.size : Int) ≤ 30
  · rw [decide_eq_true h1] at hw
    have hp := all_prn g
    by_cases h2 : AllB prn g
    · have ht := fun u => trim_any g u hs (by omega)
      rw [decide_eq_true h2] at hp
      have HF : Hid (decide (bat g 0 ≠ 32 ∧ bat g (g.size - 1) ≠ 32) = decide (GlobR g)) := by
        show _ = _
        rw [decide_eq_decide]; exact ⟨fun h => ⟨by omega, h2, h.1, h.2⟩, fun h => ⟨h.2.2.1, h.2.2.2⟩⟩
      clear h1 h2 hs
      go_enter Tryd.func35, Tryd.ntmps35
      go_wp2_with (first | (go_at_call 54; (with_reducible refine (hw _).mono ?_); rintro r w' ⟨rfl, hw'⟩; obtain rfl := hw'.symm) | (go_at_call 55; (with_reducible refine (hp _).mono ?_); rintro r w1 ⟨rfl, hb1⟩; have HB1 : Hid (Below w.heap.size w w1) := hb1; clear hb1) | (go_at_call 57; (with_reducible refine (ht _).mono ?_); rintro r w2 ⟨⟨t, rfl, hE⟩, hb2⟩; have HB2 : Hid (Below w.heap.size w w2) := HB1.out.trans (hb2.mono HB1.out.size); clear hb2))
      go_ret
      exact ⟨ret_b (by rw [← HF.out]; simp), HB2.out⟩
    · rw [decide_eq_false h2] at hp
      have HF : Hid (false = decide (GlobR g)) := (decide_eq_false (fun h : GlobR g => h2 h.2.1)).symm
      clear h1 h2 hs
      go_enter Tryd.func35, Tryd.ntmps35
      go_wp2_with (first | (go_at_call 54; (with_reducible refine (hw _).mono ?_); rintro r w' ⟨rfl, hw'⟩; obtain rfl := hw'.symm) | (go_at_call 55; (with_reducible refine (hp _).mono ?_); rintro r w1 ⟨rfl, hb1⟩; have HB1 : Hid (Below w.heap.size w w1) := hb1; clear hb1))
      go_ret
      exact ⟨ret_b HF.out, HB1.out⟩
  · rw [decide_eq_false h1] at hw
    have HF : Hid (false = decide (GlobR g)) := (decide_eq_false (fun h : GlobR g => h1 (by have := h.1; omega))).symm
    clear h1 hs
    go_enter Tryd.func35, Tryd.ntmps35
    go_wp2_with (go_at_call 54; (with_reducible refine (hw _).mono ?_); rintro r w' ⟨rfl, hw'⟩; obtain rfl := hw'.symm)
    go_ret
    exact ⟨ret_b HF.out, HBW.out⟩
set_option maxHeartbeats 2000000 in
theorem globM_any (g : ByteArray) (w : World) (hs : g.size ≤ maxLen) :
    Calls Tryd.prog 32 #[.string g] w fun e w' => e = .returned (.bool (decide (GlobR g))) ∧ w' = w := by
  have hp := fun u => plainM_any g u hs
  unfold maxLen at hs
  by_cases h1 : 1 ≤ (g.size : Int)
  · by_cases h2 : (g.size : Int) ≤ 30
    · by_cases h3 : AllB prn g
      · rw [decide_eq_true h3] at hp
        have e0 : bat g 0 = (g[0]'(by omega)).toNat := bat_eq (by omega)
        have e1 : bat g (g.size - 1) = (g[g.size - 1]'(by omega)).toNat := bat_eq (by omega)
        by_cases h4 : bat g 0 = 32
        · have HF : Hid (false = decide (GlobR g)) := (decide_eq_false (fun h : GlobR g => h.2.2.1 h4)).symm
          have h5 : ((g[0]'(by omega)).toNat : Int) = 32 := by rw [← e0, h4]; rfl
          clear e0 e1 h4 h3
          go_enter Tryd.func32, Tryd.ntmps32
          go_wp2_with (go_at_call 50; (with_reducible refine (hp _).mono ?_); rintro r w' ⟨rfl, hw'⟩; obtain rfl := hw'.symm)
          go_ret
          exact ⟨ret_b HF.out, rfl⟩
        · have h5 : ¬ ((g[0]'(by omega)).toNat : Int) = 32 := by rw [← e0]; omega
          by_cases h6 : bat g (g.size - 1) = 32
          · have HF : Hid (false = decide (GlobR g)) := (decide_eq_false (fun h : GlobR g => h.2.2.2 h6)).symm
            have h7 : ((g[g.size - 1]'(by omega)).toNat : Int) = 32 := by rw [← e1, h6]; rfl
            clear e0 e1 h4 h3 h6
            go_enter Tryd.func32, Tryd.ntmps32
            go_wp2_with (go_at_call 50; (with_reducible refine (hp _).mono ?_); rintro r w' ⟨rfl, hw'⟩; obtain rfl := hw'.symm)
            go_ret
            exact ⟨ret_b HF.out, rfl⟩
          · have HF : Hid (true = decide (GlobR g)) := (decide_eq_true (show GlobR g from ⟨by omega, h3, h4, h6⟩)).symm
            have h7 : ¬ ((g[g.size - 1]'(by omega)).toNat : Int) = 32 := by rw [← e1]; omega
            clear e0 e1 h4 h3 h6
            go_enter Tryd.func32, Tryd.ntmps32
            go_wp2_with (go_at_call 50; (with_reducible refine (hp _).mono ?_); rintro r w' ⟨rfl, hw'⟩; obtain rfl := hw'.symm)
            go_ret
            exact ⟨ret_b (by rw [← HF.out, Bool.and_eq_true]; exact ⟨bne_iff_ne.2 h5, bne_iff_ne.2 h7⟩), rfl⟩
      · rw [decide_eq_false h3] at hp
        have HF : Hid (false = decide (GlobR g)) := (decide_eq_false (fun h : GlobR g => h3 h.2.1)).symm
        clear h3
        go_enter Tryd.func32, Tryd.ntmps32
        go_wp2_with (go_at_call 50; (with_reducible refine (hp _).mono ?_); rintro r w' ⟨rfl, hw'⟩; obtain rfl := hw'.symm)
        go_ret
        exact ⟨ret_b HF.out, rfl⟩
    · have HF : Hid (false = decide (GlobR g)) := (decide_eq_false (fun h : GlobR g => h2 (by have := h.1; omega))).symm
      go_enter Tryd.func32, Tryd.ntmps32
      go_wp2
      go_ret
      exact ⟨ret_b HF.out, rfl⟩
  · have HF : Hid (false = decide (GlobR g)) := (decide_eq_false (fun h : GlobR g => h1 (by have := h.1; omega))).symm
    go_enter Tryd.func32, Tryd.ntmps32
    go_wp2
    go_ret
    exact ⟨ret_b HF.out, rfl⟩
end Go.Proofs.YtndjjhcdnlkekaaDoor.gb
