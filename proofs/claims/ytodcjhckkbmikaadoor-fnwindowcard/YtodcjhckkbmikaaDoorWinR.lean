/-
  WindowRight of the program and of the model at every window: both tell what the plain condition tells; no old block turns. No condition.
-/
import Derived.Test.YtodcjhckkbmikaaDoorGramRI
import Derived.Test.YtodcjhckkbmikaaDoorWinPlain
namespace Go.Proofs.YtodcjhckkbmikaaDoor.wi
open Go.ChangeShapes Go.WideShapes Go.ChangeAt Go.RowKit
open Classical
set_option linter.unusedVariables false

/-- a slice that holds these numbers -/
def Row (w : World) (b off : Nat) (s : List Int) : Prop := ∀ j, j < s.length → w.cell? ⟨b, off + j, none⟩ = some (.int .i64 (s.getD j 0))
def SliceIs (w : World) (v : Value) (s : List Int) : Prop := (∃ p cap, s = [] ∧ v = .slice p 0 cap) ∨ ∃ b off cap, b < w.heap.size ∧ v = .slice (some ⟨b, off, none⟩) s.length cap ∧ Row w b off s
theorem Row.below {w u : World} {n b off : Nat} {s : List Int} (h : Row w b off s) (hB : Below n w u) (hb : b < n) : Row u b off s := fun j hj => (hB.cell (p := ⟨b, off + j, none⟩) hb).trans (h j hj)

set_option maxHeartbeats 8000000 in
theorem windowI_row (e t : Int) (b off cap : Nat) (s : List Int) (w : World) (hb : b < w.heap.size) (hs : s.length ≤ maxLen) (hR : Row w b off s) :
    Calls Tryd.prog 8 #[.agg #[.int .i64 e, .int .i64 t, .slice (some ⟨b, off, none⟩) s.length cap]] w fun r w' => r = .returned (.bool (decide (RightW e t s))) ∧ Below w.heap.size w w' := by
  have HB : Hid (∀ o, Below w.heap.size w (w.alloc o)) := fun o => (Below.refl _ _).alloc (Nat.le_refl _) o
  unfold maxLen at hs
  by_cases h1 : 0 ≤ e ∧ e ≤ 200
  · have d1 := decide_eq_true h1
    by_cases h2 : -1 ≤ t ∧ t ≤ 2000
    · have d2 := decide_eq_true h2
      by_cases h3 : s.length ≤ 16
      · obtain ⟨n, hn⟩ : ∃ n, n = s.length := ⟨_, rfl⟩
        have d3 : decide (16 < (s.length : Int)) = false := decide_eq_false (by omega)
        have HR : Hid (∀ o j, j < s.length → (w.alloc o).cell? ⟨b, off + j, none⟩ = some (.int .i64 (s.getD j 0))) := fun o j hj => (World.cell?_alloc_lt _ _ ⟨b, off + j, none⟩ hb).trans (hR j hj)
        clear hR
        have HY : Hid (FitsTo t s s.length → RightW e t s) := fun h => ⟨h1, h2, h3, h⟩
        have HN : Hid (∀ k, k < s.length → ¬ Fits t s k → ¬ RightW e t s) := fun k hk h h' => h (h'.2.2.2 k hk)
        have HL : Hid (∀ x : Int, (x = if t - 16 < 0 then 0 else t - 16) → x = leastAt t s 0) := fun x hx => by simpa [leastAt, low] using hx
        have HS : Hid (∀ k, leastAt t s (k + 1) = s.getD k 0 + 1) := fun k => leastAt_succ t s k
        have HF : Hid (∀ k, FitsTo t s k → (Fits t s k ↔ leastAt t s k ≤ s.getD k 0 ∧ s.getD k 0 ≤ t - 1)) := fun k h => fits_iff h
        have HZ : Hid (FitsTo t s 0) := fitsTo_zero t s
        go_enter Tryd.func8, Tryd.ntmps8
        go_wp2_with (go_at_call 22; (with_reducible refine (within_any _ _ _ _).mono ?_); rintro r w' ⟨rfl, hw'⟩; obtain rfl := hw'.symm)
        all_goals
          go_loop [3, 5, 29] (fun x _ i => ∃ k : Nat, k ≤ s.length ∧ i = .int .i64 k ∧ x = .int .i64 (leastAt t s k) ∧ Hid (FitsTo t s k)) (fun _ _ i => s.length - (intOf i).toNat)
          case atStart => exact ⟨0, Nat.zero_le _, rfl, congrArg (Value.int .i64) (HL.out _ (by split <;> omega)), HZ⟩
          case round =>
            obtain ⟨k, hk, rfl, rfl, HT⟩ := hrel
            by_cases hlt : k < s.length
            · have hcell := HR.out (.cells #[.int .i64 e, .int .i64 t, .slice (some ⟨b, off, none⟩) s.length cap] 25) k hlt
              have HF' := HF.out k HT.out
              have HS' := HS.out k
              have HL' := low_nonneg t
              obtain ⟨x, hx⟩ : ∃ x, x = s.getD k 0 := ⟨_, rfl⟩
              obtain ⟨y, hy⟩ : ∃ y, y = leastAt t s k := ⟨_, rfl⟩
              rw [← hx] at hcell HF' HS'
              rw [← hy] at HF' ⊢
              by_cases hf : Fits t s k
              · have d := decide_eq_true (HF'.1 hf)
                have g1 := (HF'.1 hf).2
                have g0 := (HF'.1 hf).1
                have d' : (decide (y ≤ x) && decide (x ≤ t - 1)) = true := by simp [g0, g1]
                have g2 : low t ≤ x := by rw [hx]; exact hf.1
                have HN' : Hid (FitsTo t s (k + 1)) := fitsTo_succ HT.out hf
                have HS2 : Hid (leastAt t s (k + 1) = x + 1) := HS'
                clear hf HF' hx hy HT HS'
                go_wp2_with (go_at_call 22; (with_reducible refine (within_any _ _ _ _).mono ?_); rintro r w' ⟨rfl, hw'⟩; obtain rfl := hw'.symm)
                exact ⟨⟨k + 1, by omega, by go_num, by rw [HS2.out], HN'⟩, by simp [intOf]; omega⟩
              · have d := decide_eq_false (fun h => hf (HF'.2 h))
                have HX : Hid (¬ RightW e t s) := HN.out k hlt hf
                clear hf HF' hx hy HT HS'
                go_wp2_with (go_at_call 22; (with_reducible refine (within_any _ _ _ _).mono ?_); rintro r w' ⟨rfl, hw'⟩; obtain rfl := hw'.symm)
                go_ret
                exact ⟨by rw [decide_eq_false HX.out]; rfl, HB.out _⟩
            · obtain rfl : k = s.length := by omega
              have HX : Hid (RightW e t s) := HY.out HT.out
              clear HT
              go_wp2
              go_ret
              exact ⟨by rw [decide_eq_true HX.out]; rfl, HB.out _⟩
      · rw [decide_eq_false (fun h : RightW e t s => h3 h.2.2.1)]
        have d3 : decide (16 < (s.length : Int)) = true := decide_eq_true (by omega)
        go_enter Tryd.func8, Tryd.ntmps8
        go_wp2_with (go_at_call 22; (with_reducible refine (within_any _ _ _ _).mono ?_); rintro r w' ⟨rfl, hw'⟩; obtain rfl := hw'.symm)
        go_ret
        exact ⟨rfl, HB.out _⟩
    · rw [decide_eq_false (fun h : RightW e t s => h2 h.2.1)]
      have d2 := decide_eq_false h2
      go_enter Tryd.func8, Tryd.ntmps8
      go_wp2_with (go_at_call 22; (with_reducible refine (within_any _ _ _ _).mono ?_); rintro r w' ⟨rfl, hw'⟩; obtain rfl := hw'.symm)
      go_ret
      exact ⟨rfl, HB.out _⟩
  · rw [decide_eq_false (fun h : RightW e t s => h1 h.1)]
    have d1 := decide_eq_false h1
    go_enter Tryd.func8, Tryd.ntmps8
    go_wp2_with (go_at_call 22; (with_reducible refine (within_any _ _ _ _).mono ?_); rintro r w' ⟨rfl, hw'⟩; obtain rfl := hw'.symm)
    go_ret
    exact ⟨rfl, HB.out _⟩
set_option maxHeartbeats 8000000 in
theorem windowI_none (e t : Int) (p : Option Addr) (cap : Nat) (w : World) :
    Calls Tryd.prog 8 #[.agg #[.int .i64 e, .int .i64 t, .slice p 0 cap]] w fun r w' => r = .returned (.bool (decide (RightW e t []))) ∧ Below w.heap.size w w' := by
  have HB : Hid (∀ o, Below w.heap.size w (w.alloc o)) := fun o => (Below.refl _ _).alloc (Nat.le_refl _) o
  by_cases h1 : 0 ≤ e ∧ e ≤ 200
  · have d1 := decide_eq_true h1
    by_cases h2 : -1 ≤ t ∧ t ≤ 2000
    · have d2 := decide_eq_true h2
      rw [decide_eq_true (show RightW e t [] from ⟨h1, h2, by simp, fitsTo_zero t []⟩)]
      go_enter Tryd.func8, Tryd.ntmps8
      go_wp2_with (go_at_call 22; (with_reducible refine (within_any _ _ _ _).mono ?_); rintro r w' ⟨rfl, hw'⟩; obtain rfl := hw'.symm)
      all_goals
        refine wp_loop_rounds 1 ?_
        rw [rounds_succ]
        go_wp2
        go_ret
        exact ⟨rfl, HB.out _⟩
    · rw [decide_eq_false (fun h : RightW e t [] => h2 h.2.1)]
      have d2 := decide_eq_false h2
      go_enter Tryd.func8, Tryd.ntmps8
      go_wp2_with (go_at_call 22; (with_reducible refine (within_any _ _ _ _).mono ?_); rintro r w' ⟨rfl, hw'⟩; obtain rfl := hw'.symm)
      go_ret
      exact ⟨rfl, HB.out _⟩
  · rw [decide_eq_false (fun h : RightW e t [] => h1 h.1)]
    have d1 := decide_eq_false h1
    go_enter Tryd.func8, Tryd.ntmps8
    go_wp2_with (go_at_call 22; (with_reducible refine (within_any _ _ _ _).mono ?_); rintro r w' ⟨rfl, hw'⟩; obtain rfl := hw'.symm)
    go_ret
    exact ⟨rfl, HB.out _⟩
theorem windowI_any (e t : Int) (v : Value) (s : List Int) (w : World) (hs : s.length ≤ maxLen) (hv : SliceIs w v s) :
    Calls Tryd.prog 8 #[.agg #[.int .i64 e, .int .i64 t, v]] w fun r w' => r = .returned (.bool (decide (RightW e t s))) ∧ Below w.heap.size w w' := by
  rcases hv with ⟨p, cap, rfl, rfl⟩ | ⟨b, off, cap, hb, rfl, hR⟩
  · exact windowI_none e t p cap w
  · exact windowI_row e t b off cap s w hb hs hR
end Go.Proofs.YtodcjhckkbmikaaDoor.wi
