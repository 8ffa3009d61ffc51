/-
  The model's WindowRight at every window: what the plain condition tells; no old block turns. No condition.
-/
import Derived.Test.YtodcjhckkbmikaaDoorWinR
import Derived.Deep.RegionWith
import Derived.Deep.QuietTactic
import Derived.BigQuiet
namespace Go.Proofs.YtodcjhckkbmikaaDoor.wi
open Go.ChangeShapes Go.WideShapes Go.ChangeAt Go.RowKit
open Classical
set_option linter.unusedVariables false

theorem maxM_any (a b : Int) (w : World) : Calls Tryd.prog 14 #[.int .i64 a, .int .i64 b] w fun r w' => r = .returned (.int .i64 (if b < a then a else b)) ∧ w' = w := by
  by_cases h : b < a
  · rw [if_pos h]
    go_enter Tryd.func14, Tryd.ntmps14
    go_wp2
    go_ret
    exact ⟨rfl, rfl⟩
  · rw [if_neg h]
    go_enter Tryd.func14, Tryd.ntmps14
    go_wp2
    go_ret
    exact ⟨rfl, rfl⟩
theorem maxM_low (t : Int) (w : World) : Calls Tryd.prog 14 #[.int .i64 0, .int .i64 (t - 16)] w fun r w' => r = .returned (.int .i64 (low t)) ∧ w' = w := maxM_any 0 (t - 16) w

/-- what is known in the loop: the argument's block -/
def InM (w : World) (e t : Int) (v : Value) (u : World) : Prop := Below w.heap.size w u ∧ u.heap[w.heap.size]? = some (.cells #[.int .i64 e, .int .i64 t, v] 25 (0, 0))
theorem InM.drewN {w u : World} {e t : Int} {v : Value} (h : InM w e t v u) (k : Nat) : InM w e t v (u.drewN k) := ⟨below_drewN h.1 _, h.2⟩
theorem InM.cells {w u : World} {e t : Int} {v : Value} (h : InM w e t v u) : u.cell? ⟨w.heap.size, 0, none⟩ = some (.int .i64 e) ∧ u.cell? ⟨w.heap.size, 1, none⟩ = some (.int .i64 t) ∧ u.cell? ⟨w.heap.size, 2, none⟩ = some v := by
  refine ⟨?_, ?_, ?_⟩ <;> simp [World.cell?, h.2]

set_option maxHeartbeats 8000000 in
theorem windowM_row (e t : Int) (b off cap : Nat) (s : List Int) (w : World) (hb : b < w.heap.size) (hs : s.length ≤ maxLen) (hR : Row w b off s) :
    Calls Tryd.prog 9 #[.agg #[.int .i64 e, .int .i64 t, .slice (some ⟨b, off, none⟩) s.length cap]] w fun r w' => r = .returned (.bool (decide (RightW e t s))) ∧ Below w.heap.size w w' := by
  have HB : Hid (∀ o, Below w.heap.size w (w.alloc o)) := fun o => (Below.refl _ _).alloc (Nat.le_refl _) o
  unfold maxLen at hs
  by_cases h1 : 0 ≤ e ∧ e ≤ 200
  · have d1 := decide_eq_true h1
    by_cases h2 : -1 ≤ t ∧ t ≤ 2000
    · have d2 := decide_eq_true h2
      by_cases h3 : s.length ≤ 16
      · have d3 : decide (16 < (s.length : Int)) = false := decide_eq_false (by omega)
        have HR : Hid (∀ u, Below w.heap.size w u → Row u b off s) := fun u hu => hR.below hu hb
        clear hR
        have HI0 : Hid (InM w e t (.slice (some ⟨b, off, none⟩) s.length cap) (w.alloc (.cells #[.int .i64 e, .int .i64 t, .slice (some ⟨b, off, none⟩) s.length cap] 25))) := ⟨(Below.refl _ _).alloc (Nat.le_refl _) _, heap_alloc_new _ _⟩
        have s1 : IntKind.i64.wrap (t - 16) = t - 16 := by rw [IntKind.wrap_i64]; omega
        have s2 : IntKind.i64.wrap (t - 1) = t - 1 := by rw [IntKind.wrap_i64]; omega
        have HY : Hid (FitsTo t s s.length → RightW e t s) := fun h => ⟨h1, h2, h3, h⟩
        have HN : Hid (∀ k, k < s.length → ¬ Fits t s k → ¬ RightW e t s) := fun k hk h h' => h (h'.2.2.2 k hk)
        have HZ : Hid (FitsTo t s 0) := fitsTo_zero t s
        go_enter Tryd.func9, Tryd.ntmps9
        go_wp2_with (first | (go_at_call 19; (with_reducible refine (is_any _ _ _ _).mono ?_); rintro r w' ⟨rfl, hw'⟩; obtain rfl := hw'.symm) | (go_at_call 14; (with_reducible refine (maxM_any _ _ _).mono ?_); rintro r w' ⟨rfl, hw'⟩; obtain rfl := hw'.symm))
        go_loopw [3] (fun i u => ∃ k : Nat, k ≤ s.length ∧ i = .int .i64 k ∧ Hid (FitsTo t s k) ∧ Hid (InM w e t (.slice (some ⟨b, off, none⟩) s.length cap) u)) (fun i _ => s.length - (intOf i).toNat)
        case atStart => exact ⟨0, Nat.zero_le _, rfl, HZ, HI0⟩
        case round =>
          clear HI0
          obtain ⟨k, hk, rfl, HT, HI⟩ := hrel
          obtain ⟨c0, c1, c2⟩ := HI.out.cells
          by_cases hlt : k < s.length
          · have hcell := HR.out wr HI.out.1 k hlt
            have HF : Hid (Fits t s k → FitsTo t s (k + 1)) := fun h => fitsTo_succ HT.out h
            have HX : Hid (¬ Fits t s k → ¬ RightW e t s) := fun h => HN.out k hlt h
            have HD : Hid (Fits t s k ↔ low t ≤ s.getD k 0 ∧ s.getD k 0 ≤ t - 1 ∧ (0 < k → s.getD (k - 1) 0 < s.getD k 0)) := Iff.rfl
            have hprev : 0 < k → wr.cell? ⟨b, off + (k - 1), none⟩ = some (.int .i64 (s.getD (k - 1) 0)) := fun h => HR.out wr HI.out.1 (k - 1) (by omega)
            obtain ⟨x, hx⟩ : ∃ x, x = s.getD k 0 := ⟨_, rfl⟩
            obtain ⟨y, hy⟩ : ∃ y, y = s.getD (k - 1) 0 := ⟨_, rfl⟩
            rw [← hx] at hcell HD
            rw [← hy] at hprev HD
            clear hx hy HR HN HT HY HZ
            by_cases g0 : low t ≤ x ∧ x ≤ t - 1
            · have d := decide_eq_true g0
              by_cases hk0 : 0 < k
              · have hp := hprev hk0
                clear hprev
                have e1 : ((k : Int) - 1).toNat = k - 1 := by omega
                by_cases hyx : y < x
                · have HF' : Hid (FitsTo t s (k + 1)) := HF.out (HD.out.2 ⟨g0.1, g0.2, fun _ => hyx⟩)
                  clear HF HX HD
                  go_wp2
                  go_quiet (first | (go_at_call 19; refine Calls.quiet_of_same (is_any _ _ _ _)) | (go_at_call 14; refine Calls.quiet_of_same (maxM_low _ _)))
                  go_wp2
                  exact ⟨⟨k + 1, by omega, by go_num, HF', HI.out.drewN nq⟩, by simp [intOf]; omega⟩
                · have HX' : Hid (¬ RightW e t s) := HX.out (fun h => hyx ((HD.out.1 h).2.2 hk0))
                  clear HF HX HD
                  go_wp2
                  go_quiet (first | (go_at_call 19; refine Calls.quiet_of_same (is_any _ _ _ _)) | (go_at_call 14; refine Calls.quiet_of_same (maxM_low _ _)))
                  go_wp2
                  go_ret
                  exact ⟨by rw [decide_eq_false HX'.out]; rfl, (HI.out.drewN nq).1⟩
              · have dk : decide (0 < (k : Int)) = false := decide_eq_false (by omega)
                have HF' : Hid (FitsTo t s (k + 1)) := HF.out (HD.out.2 ⟨g0.1, g0.2, fun h => absurd h hk0⟩)
                clear HF HX HD hprev
                go_wp2
                go_quiet (first | (go_at_call 19; refine Calls.quiet_of_same (is_any _ _ _ _)) | (go_at_call 14; refine Calls.quiet_of_same (maxM_low _ _)))
                go_wp2
                exact ⟨⟨k + 1, by omega, by go_num, HF', HI.out.drewN nq⟩, by simp [intOf]; omega⟩
            · have d := decide_eq_false g0
              have HX' : Hid (¬ RightW e t s) := HX.out (fun h => g0 ⟨(HD.out.1 h).1, (HD.out.1 h).2.1⟩)
              clear HF HX HD hprev
              go_wp2
              go_quiet (first | (go_at_call 19; refine Calls.quiet_of_same (is_any _ _ _ _)) | (go_at_call 14; refine Calls.quiet_of_same (maxM_low _ _)))
              go_wp2
              go_ret
              exact ⟨by rw [decide_eq_false HX'.out]; rfl, (HI.out.drewN nq).1⟩
          · obtain rfl : k = s.length := by omega
            have HX : Hid (RightW e t s) := HY.out HT.out
            clear HT
            go_wp2
            go_ret
            exact ⟨by rw [decide_eq_true HX.out]; rfl, HI.out.1⟩
      · rw [decide_eq_false (fun h : RightW e t s => h3 h.2.2.1)]
        have d3 : decide (16 < (s.length : Int)) = true := decide_eq_true (by omega)
        go_enter Tryd.func9, Tryd.ntmps9
        go_wp2_with (first | (go_at_call 19; (with_reducible refine (is_any _ _ _ _).mono ?_); rintro r w' ⟨rfl, hw'⟩; obtain rfl := hw'.symm) | (go_at_call 14; (with_reducible refine (maxM_any _ _ _).mono ?_); rintro r w' ⟨rfl, hw'⟩; obtain rfl := hw'.symm))
        go_ret
        exact ⟨rfl, HB.out _⟩
    · rw [decide_eq_false (fun h : RightW e t s => h2 h.2.1)]
      have d2 := decide_eq_false h2
      go_enter Tryd.func9, Tryd.ntmps9
      go_wp2_with (first | (go_at_call 19; (with_reducible refine (is_any _ _ _ _).mono ?_); rintro r w' ⟨rfl, hw'⟩; obtain rfl := hw'.symm) | (go_at_call 14; (with_reducible refine (maxM_any _ _ _).mono ?_); rintro r w' ⟨rfl, hw'⟩; obtain rfl := hw'.symm))
      go_ret
      exact ⟨rfl, HB.out _⟩
  · rw [decide_eq_false (fun h : RightW e t s => h1 h.1)]
    have d1 := decide_eq_false h1
    go_enter Tryd.func9, Tryd.ntmps9
    go_wp2_with (first | (go_at_call 19; (with_reducible refine (is_any _ _ _ _).mono ?_); rintro r w' ⟨rfl, hw'⟩; obtain rfl := hw'.symm) | (go_at_call 14; (with_reducible refine (maxM_any _ _ _).mono ?_); rintro r w' ⟨rfl, hw'⟩; obtain rfl := hw'.symm))
    go_ret
    exact ⟨rfl, HB.out _⟩

set_option maxHeartbeats 8000000 in
theorem windowM_none (e t : Int) (p : Option Addr) (cap : Nat) (w : World) :
    Calls Tryd.prog 9 #[.agg #[.int .i64 e, .int .i64 t, .slice p 0 cap]] w fun r w' => r = .returned (.bool (decide (RightW e t []))) ∧ Below w.heap.size w w' := by
  have HB : Hid (∀ o, Below w.heap.size w (w.alloc o)) := fun o => (Below.refl _ _).alloc (Nat.le_refl _) o
  by_cases h1 : 0 ≤ e ∧ e ≤ 200
  · have d1 := decide_eq_true h1
    by_cases h2 : -1 ≤ t ∧ t ≤ 2000
    · have d2 := decide_eq_true h2
      rw [decide_eq_true (show RightW e t [] from ⟨h1, h2, by simp, fitsTo_zero t []⟩)]
      go_enter Tryd.func9, Tryd.ntmps9
      go_wp2_with (first | (go_at_call 19; (with_reducible refine (is_any _ _ _ _).mono ?_); rintro r w' ⟨rfl, hw'⟩; obtain rfl := hw'.symm) | (go_at_call 14; (with_reducible refine (maxM_any _ _ _).mono ?_); rintro r w' ⟨rfl, hw'⟩; obtain rfl := hw'.symm))
      refine wp_loop_rounds 1 ?_
      rw [rounds_succ]
      go_wp2
      go_ret
      exact ⟨rfl, HB.out _⟩
    · rw [decide_eq_false (fun h : RightW e t [] => h2 h.2.1)]
      have d2 := decide_eq_false h2
      go_enter Tryd.func9, Tryd.ntmps9
      go_wp2_with (first | (go_at_call 19; (with_reducible refine (is_any _ _ _ _).mono ?_); rintro r w' ⟨rfl, hw'⟩; obtain rfl := hw'.symm) | (go_at_call 14; (with_reducible refine (maxM_any _ _ _).mono ?_); rintro r w' ⟨rfl, hw'⟩; obtain rfl := hw'.symm))
      go_ret
      exact ⟨rfl, HB.out _⟩
  · rw [decide_eq_false (fun h : RightW e t [] => h1 h.1)]
    have d1 := decide_eq_false h1
    go_enter Tryd.func9, Tryd.ntmps9
    go_wp2_with (first | (go_at_call 19; (with_reducible refine (is_any _ _ _ _).mono ?_); rintro r w' ⟨rfl, hw'⟩; obtain rfl := hw'.symm) | (go_at_call 14; (with_reducible refine (maxM_any _ _ _).mono ?_); rintro r w' ⟨rfl, hw'⟩; obtain rfl := hw'.symm))
    go_ret
    exact ⟨rfl, HB.out _⟩
theorem windowM_any (e t : Int) (v : Value) (s : List Int) (w : World) (hs : s.length ≤ maxLen) (hv : SliceIs w v s) :
    Calls Tryd.prog 9 #[.agg #[.int .i64 e, .int .i64 t, v]] w fun r w' => r = .returned (.bool (decide (RightW e t s))) ∧ Below w.heap.size w w' := by
  rcases hv with ⟨p, cap, rfl, rfl⟩ | ⟨b, off, cap, hb, rfl, hR⟩
  · exact windowM_none e t p cap w
  · exact windowM_row e t b off cap s w hb hs hR
end Go.Proofs.YtodcjhckkbmikaaDoor.wi
