/-
  The walk of the law on globs: a star fits all, a glob without stars and question marks just itself, two globs together two texts together. No condition.
-/
import Derived.Test.YtkghbabnchofpaaDoorDrGl
import Derived.Test.YtkghbabnchofpaaDoorGl7
import Derived.Test.YtkghbabnchofpaaDoorGlQ
import Derived.Test.YtkghbabnchofpaaDoorRu2
namespace Go.Proofs.YtkghbabnchofpaaDoor.gb
open Go.ChangeShapes Go.WideShapes Go.ChangeAt Go.RowKit
open Go.Proofs.YtkghbabnchofpaaDoor.sc (prn AllB AllB.not ret_b d_true d_false)
open Go.Proofs.YtkghbabnchofpaaDoor.wi (heap_lt calls_w wp_w)
open Go.Proofs.YtkghbabnchofpaaDoor.dr (Codes draw_glob)
open Classical
set_option linter.unusedVariables false

set_option maxHeartbeats 8000000 in
theorem lawGlob (c0 : Option Addr) (n0 m0 : Nat) (c1 : Option Addr) (n1 m1 : Nat) (w : World) (h0 : Codes w w.heap.size c0 n0) (h1 : Codes w w.heap.size c1 n1) :
    Calls Tryd.prog 3 #[.slice c0 n0 m0, .slice c1 n1 m1] w fun e w' => e = .returned (.bool true) ∧ Below w.heap.size w w' := by
  have e0 := h0.1
  have e1 := h1.1
  have H1 : Hid (∀ u, Below w.heap.size w u → Codes u u.heap.size c1 n1) := fun u hu => by
    obtain ⟨hl, hh⟩ := h1.below hu
    exact ⟨hl, hh.imp id fun ⟨b, off, e, hb, hc⟩ => ⟨b, off, e, Nat.lt_of_lt_of_le hb hu.size, hc⟩⟩
  have HD := draw_glob c0 n0 m0 w h0
  clear h0 h1
  go_enter Tryd.func3, Tryd.ntmps3
  go_wp2_with (go_at_call 5; fail)
  refine HD.mono ?_
  rintro e w1 ⟨g, t, rfl, hg, ht, hb1⟩
  have HB : Hid (Below w.heap.size w w1) := hb1
  have HD2 := draw_glob c1 n1 m1 w1 (H1.out w1 hb1)
  clear HD H1 hb1 e0 e1
  go_wp2_with (go_at_call 5; fail)
  refine HD2.mono ?_
  rintro e w2 ⟨h, u, rfl, hh, hu, hb2⟩
  replace HB : Hid (Below w.heap.size w w2) := HB.out.trans (hb2.mono HB.out.size)
  clear HD2 hb2
  have gm : g.size ≤ maxLen := by unfold maxLen; omega
  have hm : h.size ≤ maxLen := by unfold maxLen; omega
  have tm : t.size ≤ maxLen := by unfold maxLen; omega
  have um : u.size ≤ maxLen := by unfold maxLen; omega
  have i1 := fun v => fitsI_any g t v gm tm
  have i2 := fun v => fitsI_any h u v hm um
  have s1 := fun v => gfM_any g t v gm tm
  have s2 := fun v => gfM_any h u v hm um
  have st := fun v => fitsI_any ⟨#[42]⟩ t v (by unfold maxLen; decide) tm
  simp only [star_fits] at st
  have HGH : Hid (∀ v, Calls Tryd.prog 6 #[.string (g ++ h), .string (t ++ u)] v _) := fun v => fitsI_any (g ++ h) (t ++ u) v (by rw [ByteArray.size_append]; unfold maxLen; omega) (by rw [ByteArray.size_append]; unfold maxLen; omega)
  have HRR : Hid (∀ v, Calls Tryd.prog 8 #[.agg #[.int .i64 0, .int .i64 0, .string ⟨#[42]⟩, .string (g ++ h)]] v _) := fun v => rl.ruleM_any 0 0 ⟨#[42]⟩ (g ++ h) v (by unfold maxLen; decide) (by rw [ByteArray.size_append]; unfold maxLen; omega)
  have HP : Hid (GFits g t → (∀ j, j < g.size → bat g j ≠ 42 ∧ bat g j ≠ 63) → (g.toList == t.toList) = true) := fun h1 h2 => ss.beqT (plain_eq h1.2.2 h2)
  have HQ : Hid (GFits g t → GFits h u → rl.RuleR 0 0 ⟨#[42]⟩ (g ++ h) → (t.size : Int) + (u.size : Int) ≤ 60 → decide (GFits (g ++ h) (t ++ u)) = true) := fun h1 h2 h3 h4 => decide_eq_true ⟨h3.2.2, by rw [ByteArray.size_append]; omega, fit_app h1.2.2 h2.2.2⟩
  obtain ⟨A, hA⟩ : ∃ A, A = decide (GFits g t) := ⟨_, rfl⟩
  obtain ⟨B, hB⟩ : ∃ B, B = decide (GFits h u) := ⟨_, rfl⟩
  rw [← hA] at i1 s1
  rw [← hB] at i2 s2
  have HA : Hid (A = true → GFits g t) := fun h => of_decide_eq_true (hA.symm.trans h)
  have HB2 : Hid (B = true → GFits h u) := fun h => of_decide_eq_true (hB.symm.trans h)
  have qA : (A != A) = false := by simp
  have qB : (B != B) = false := by simp
  have qS : (decide ((t.size : Int) ≤ 60) != decide ((t.size : Int) ≤ 60)) = false := by simp
  clear hA hB gm hm tm um
  obtain ⟨S, hS⟩ : ∃ S, S = decide ((t.size : Int) ≤ 60) := ⟨_, rfl⟩
  rw [← hS] at qS st
  have HS : Hid (S = decide ((t.size : Int) ≤ 60)) := hS
  go_wp2_with (first
    | (go_at_call 6; (with_reducible refine (i1 _).mono ?_); rintro r w3 ⟨rfl, hb3⟩; have HB3 : Hid (Below w.heap.size w w3) := HB.out.trans (hb3.mono HB.out.size); clear hb3 i1)
    | (go_at_call 6; (with_reducible refine (i2 _).mono ?_); rintro r w4 ⟨rfl, hb4⟩; have HB4 : Hid (Below w.heap.size w w4) := HB3.out.trans (hb4.mono HB3.out.size); clear hb4 i2)
    | (go_at_call 7; (with_reducible refine (s1 _).mono ?_); rintro r w5 ⟨rfl, hb5⟩; have HB5 : Hid (Below w.heap.size w w5) := HB4.out.trans (hb5.mono HB4.out.size); clear hb5 s1)
    | (go_at_call 7; (with_reducible refine (s2 _).mono ?_); rintro r w6 ⟨rfl, hb6⟩; have HB6 : Hid (Below w.heap.size w w6) := HB5.out.trans (hb6.mono HB5.out.size); clear hb6 s2)
    | (go_at_call 6; (with_reducible refine (st _).mono ?_); rintro r w7 ⟨rfl, hb7⟩; have HB7 : Hid (Below w.heap.size w w7) := HB6.out.trans (hb7.mono HB6.out.size); clear hb7 st))
  clear qA qB qS hS HS
  have hg5 : g.size ≤ 5 := hg
  go_loop [11, 12] (fun z i => ∃ (k : Nat) (b : Bool), k ≤ g.size ∧ i = .int .i64 k ∧ z = .bool b ∧ Hid (b = true → ∀ j, j < k → bat g j ≠ 42 ∧ bat g j ≠ 63)) (fun _ i => g.size - (intOf i).toNat)
  case atStart => exact ⟨0, true, Nat.zero_le _, rfl, rfl, fun _ j h => by omega⟩
  case round =>
    obtain ⟨k, b, hk, rfl, rfl, HZ⟩ := hrel
    by_cases hlt : k < g.size
    · have e1 := bat_eq hlt
      have HN : Hid (∀ b' : Bool, (b' = true → b = true ∧ bat g k ≠ 42 ∧ bat g k ≠ 63) → b' = true → ∀ j, j < k + 1 → bat g j ≠ 42 ∧ bat g j ≠ 63) := fun b' h hb j hj => by
        by_cases e : j = k
        · rw [e]; exact (h hb).2
        · exact HZ.out (h hb).1 j (by omega)
      rw [e1] at HN
      clear e1 HZ
      cases b
      · go_wp2
        exact ⟨⟨k + 1, false, by omega, by go_num, rfl, HN.out false (fun h => by cases h)⟩, by simp [intOf]; omega⟩
      · by_cases h42 : (g[k]'hlt).toNat = 42
        · have q1 : (((g[k]'hlt).toNat : Int) != 42) = false := by simp [h42]
          clear h42
          go_wp2
          exact ⟨⟨k + 1, false, by omega, by go_num, rfl, HN.out false (fun h => by cases h)⟩, by simp [intOf]; omega⟩
        · have q1 : (((g[k]'hlt).toNat : Int) != 42) = true := bne_iff_ne.2 (by omega)
          by_cases h63 : (g[k]'hlt).toNat = 63
          · have q2 : (((g[k]'hlt).toNat : Int) != 63) = false := by simp [h63]
            clear h63 h42
            go_wp2
            exact ⟨⟨k + 1, false, by omega, by go_num, rfl, HN.out false (fun h => by cases h)⟩, by simp [intOf]; omega⟩
          · have q2 : (((g[k]'hlt).toNat : Int) != 63) = true := bne_iff_ne.2 (by omega)
            have HM : Hid _ := HN.out true (fun _ => ⟨rfl, h42, h63⟩)
            clear h63 h42 HN
            go_wp2
            exact ⟨⟨k + 1, true, by omega, by go_num, rfl, HM.out⟩, by simp [intOf]; omega⟩
    · obtain rfl : k = g.size := by omega
      have HBx : Hid (∀ o, Below w.heap.size w (w7.alloc o)) := fun o => HB7.out.alloc HB7.out.size o
      have HPX : Hid (b = true → A = true → (g.toList == t.toList) = true) := fun h1 h2 => HP.out (HA.out h2) (HZ.out h1)
      clear HP HZ
      cases A
      · cases b
        all_goals
          clear HPX HQ HRR HGH HA HB2
          go_wp2
          go_ret
          exact ⟨rfl, HBx.out _⟩
      · have HG2 : Hid (b = true → (g.toList == t.toList) = true) := fun h => HPX.out h rfl
        cases b
        · cases B
          · clear HG2
            clear HPX HQ HRR HGH HA HB2
            go_wp2
            go_ret
            exact ⟨rfl, HBx.out _⟩
          · clear HG2
            have HQ2 := HQ.out (HA.out rfl) (HB2.out rfl)
            by_cases hr : rl.RuleR 0 0 ⟨#[42]⟩ (g ++ h)
            · have hrr : ∀ v, Calls Tryd.prog 8 #[.agg #[.int .i64 0, .int .i64 0, .string ⟨#[42]⟩, .string (g ++ h)]] v fun e w' => e = .returned (.bool true) ∧ Below v.heap.size v w' := fun v => by
                have := HRR.out v
                rwa [decide_eq_true hr] at this
              by_cases h6 : (t.size : Int) + (u.size : Int) ≤ 60
              · have hgh : ∀ v, Calls Tryd.prog 6 #[.string (g ++ h), .string (t ++ u)] v fun e w' => e = .returned (.bool true) ∧ Below v.heap.size v w' := fun v => by
                  have := HGH.out v
                  rwa [HQ2 hr h6] at this
                clear HPX HQ HRR HGH HA HB2 HQ2 hr
                go_wp2_with (first | (go_at_call 8; (with_reducible refine (hrr _).mono ?_); rintro r w8 ⟨rfl, hb8⟩; have HB8 : Hid (Below w.heap.size w w8) := (HBx.out _).trans (hb8.mono (HBx.out _).size); clear hb8) | (go_at_call 6; (with_reducible refine (hgh _).mono ?_); rintro r w9 ⟨rfl, hb9⟩; have HB9 : Hid (Below w.heap.size w w9) := HB8.out.trans (hb9.mono HB8.out.size); clear hb9))
                go_ret
                exact ⟨rfl, HB9.out⟩
              · clear HPX HQ HRR HGH HA HB2 HQ2 hr
                go_wp2_with (go_at_call 8; (with_reducible refine (hrr _).mono ?_); rintro r w8 ⟨rfl, hb8⟩; have HB8 : Hid (Below w.heap.size w w8) := (HBx.out _).trans (hb8.mono (HBx.out _).size); clear hb8)
                go_ret
                exact ⟨rfl, HB8.out⟩
            · have hrr : ∀ v, Calls Tryd.prog 8 #[.agg #[.int .i64 0, .int .i64 0, .string ⟨#[42]⟩, .string (g ++ h)]] v fun e w' => e = .returned (.bool false) ∧ Below v.heap.size v w' := fun v => by
                have := HRR.out v
                rwa [decide_eq_false hr] at this
              clear HPX HQ HRR HGH HA HB2 HQ2 hr
              go_wp2_with (go_at_call 8; (with_reducible refine (hrr _).mono ?_); rintro r w8 ⟨rfl, hb8⟩; have HB8 : Hid (Below w.heap.size w w8) := (HBx.out _).trans (hb8.mono (HBx.out _).size); clear hb8)
              go_ret
              exact ⟨rfl, HB8.out⟩
        · have q := HG2.out rfl
          clear HG2
          cases B
          · skip
            clear HPX HQ HRR HGH HA HB2
            go_wp2
            go_ret
            exact ⟨rfl, HBx.out _⟩
          · skip
            have HQ2 := HQ.out (HA.out rfl) (HB2.out rfl)
            by_cases hr : rl.RuleR 0 0 ⟨#[42]⟩ (g ++ h)
            · have hrr : ∀ v, Calls Tryd.prog 8 #[.agg #[.int .i64 0, .int .i64 0, .string ⟨#[42]⟩, .string (g ++ h)]] v fun e w' => e = .returned (.bool true) ∧ Below v.heap.size v w' := fun v => by
                have := HRR.out v
                rwa [decide_eq_true hr] at this
              by_cases h6 : (t.size : Int) + (u.size : Int) ≤ 60
              · have hgh : ∀ v, Calls Tryd.prog 6 #[.string (g ++ h), .string (t ++ u)] v fun e w' => e = .returned (.bool true) ∧ Below v.heap.size v w' := fun v => by
                  have := HGH.out v
                  rwa [HQ2 hr h6] at this
                clear HPX HQ HRR HGH HA HB2 HQ2 hr
                go_wp2_with (first | (go_at_call 8; (with_reducible refine (hrr _).mono ?_); rintro r w8 ⟨rfl, hb8⟩; have HB8 : Hid (Below w.heap.size w w8) := (HBx.out _).trans (hb8.mono (HBx.out _).size); clear hb8) | (go_at_call 6; (with_reducible refine (hgh _).mono ?_); rintro r w9 ⟨rfl, hb9⟩; have HB9 : Hid (Below w.heap.size w w9) := HB8.out.trans (hb9.mono HB8.out.size); clear hb9))
                go_ret
                exact ⟨rfl, HB9.out⟩
              · clear HPX HQ HRR HGH HA HB2 HQ2 hr
                go_wp2_with (go_at_call 8; (with_reducible refine (hrr _).mono ?_); rintro r w8 ⟨rfl, hb8⟩; have HB8 : Hid (Below w.heap.size w w8) := (HBx.out _).trans (hb8.mono (HBx.out _).size); clear hb8)
                go_ret
                exact ⟨rfl, HB8.out⟩
            · have hrr : ∀ v, Calls Tryd.prog 8 #[.agg #[.int .i64 0, .int .i64 0, .string ⟨#[42]⟩, .string (g ++ h)]] v fun e w' => e = .returned (.bool false) ∧ Below v.heap.size v w' := fun v => by
                have := HRR.out v
                rwa [decide_eq_false hr] at this
              clear HPX HQ HRR HGH HA HB2 HQ2 hr
              go_wp2_with (go_at_call 8; (with_reducible refine (hrr _).mono ?_); rintro r w8 ⟨rfl, hb8⟩; have HB8 : Hid (Below w.heap.size w w8) := (HBx.out _).trans (hb8.mono (HBx.out _).size); clear hb8)
              go_ret
              exact ⟨rfl, HB8.out⟩
end Go.Proofs.YtkghbabnchofpaaDoor.gb
