/-
  The law's own comparing of two answers of WindowTake that say the same: it tells true. No condition.
-/
import Derived.Test.YtodcjhckkbmikaaDoorWinT0
namespace Go.Proofs.YtodcjhckkbmikaaDoor.wi
open Go.ChangeShapes Go.WideShapes Go.ChangeAt Go.RowKit
set_option linter.unusedVariables false

set_option maxHeartbeats 8000000 in
theorem lwNums_any (va vb : Value) (s : List Int) (w : World) (hs : s.length ≤ maxLen) (ha : SliceIs w va s) (hb : SliceIs w vb s) :
    Calls Tryd.prog 18 #[va, vb] w fun r w' => r = .returned (.bool true) ∧ Below w.heap.size w w' := by
  have HB : Hid (Below w.heap.size w w) := Below.refl _ _
  unfold maxLen at hs
  by_cases h0 : s = []
  · subst h0
    obtain ⟨pa, ca, rfl⟩ : ∃ p cap, va = .slice p 0 cap := by
      rcases ha with ⟨p, cap, _, rfl⟩ | ⟨b, off, cap, hb, rfl, hR⟩
      · exact ⟨_, _, rfl⟩
      · exact ⟨_, _, rfl⟩
    obtain ⟨pb, cb, rfl⟩ : ∃ p cap, vb = .slice p 0 cap := by
      rcases hb with ⟨p, cap, _, rfl⟩ | ⟨b, off, cap, hb, rfl, hR⟩
      · exact ⟨_, _, rfl⟩
      · exact ⟨_, _, rfl⟩
    clear ha hb
    go_enter Tryd.func18, Tryd.ntmps18
    go_wp2
    refine wp_loop_rounds 1 ?_
    rw [rounds_succ]
    go_wp2
    go_ret
    exact ⟨rfl, HB.out⟩
  · obtain ⟨ba, oa, ca, rfl, hRa⟩ : ∃ b off cap, va = .slice (some ⟨b, off, none⟩) s.length cap ∧ Row w b off s := by
      rcases ha with ⟨p, cap, h, _⟩ | ⟨b, off, cap, hb, rfl, hR⟩
      · exact absurd h h0
      · exact ⟨_, _, _, rfl, hR⟩
    obtain ⟨bb, ob, cb, rfl, hRb⟩ : ∃ b off cap, vb = .slice (some ⟨b, off, none⟩) s.length cap ∧ Row w b off s := by
      rcases hb with ⟨p, cap, h, _⟩ | ⟨b, off, cap, hb, rfl, hR⟩
      · exact absurd h h0
      · exact ⟨_, _, _, rfl, hR⟩
    have HRa : Hid (Row w ba oa s) := hRa
    have HRb : Hid (Row w bb ob s) := hRb
    clear ha hb h0 hRa hRb
    go_enter Tryd.func18, Tryd.ntmps18
    go_wp2
    go_loopw [5] (fun i u => ∃ k : Nat, k ≤ s.length ∧ i = .int .i64 k ∧ ∃ n, u = w.drewN n) (fun i _ => s.length - (intOf i).toNat)
    case atStart => exact ⟨0, Nat.zero_le _, rfl, 0, rfl⟩
    case round =>
      obtain ⟨k, hk, rfl, n, rfl⟩ := hrel
      have HN : Hid (Below w.heap.size w (w.drewN n)) := below_drewN HB.out n
      by_cases hlt : k < s.length
      · have c1 := HRa.out k hlt
        have c2 := HRb.out k hlt
        obtain ⟨x, hx⟩ : ∃ x, x = s.getD k 0 := ⟨_, rfl⟩
        rw [← hx] at c1 c2
        clear hx
        go_wp2
        refine wp_w (fun u => (∃ n, u = w.drewN n) ∧ u.cell? ⟨ba, oa + k, none⟩ = some (.int .i64 x) ∧ u.cell? ⟨bb, ob + k, none⟩ = some (.int .i64 x)) ⟨⟨n, rfl⟩, c1, c2⟩ ?_
        clear c1 c2 HN
        rintro u ⟨hu, c1, c2⟩
        have HU : Hid (∃ n, u = w.drewN n) := hu
        clear hu
        go_quiet (fail)
        go_wp2
        refine ⟨⟨k + 1, by omega, by go_num, ?_⟩, by simp [intOf]; omega⟩
        obtain ⟨m, rfl⟩ := HU.out
        exact ⟨_, World.drewN_drewN _ _ _⟩
      · obtain rfl : k = s.length := by omega
        go_wp2
        go_ret
        exact ⟨rfl, HN.out⟩

/-- an answer's four cells -/
theorem ans_cells {u : World} {q : Nat} {a b c : Int} {v : Value} (h : u.heap[q]? = some (.cells #[.int .i64 a, .int .i64 b, v, .int .i64 c] 29 (0, 0))) : u.cell? ⟨q, 0, none⟩ = some (.int .i64 a) ∧ u.cell? ⟨q, 1, none⟩ = some (.int .i64 b) ∧ u.cell? ⟨q, 2, none⟩ = some v ∧ u.cell? ⟨q, 3, none⟩ = some (.int .i64 c) := by
  refine ⟨?_, ?_, ?_, ?_⟩ <;> simp [World.cell?, h]
set_option maxHeartbeats 8000000 in
theorem lwWindow_any (e t : Int) (va vb : Value) (c : Int) (s : List Int) (w : World) (hs : s.length ≤ maxLen) (ha : SliceIs w va s) (hb : SliceIs w vb s) :
    Calls Tryd.prog 6 #[.agg #[.int .i64 e, .int .i64 t, va, .int .i64 c], .agg #[.int .i64 e, .int .i64 t, vb, .int .i64 c]] w fun r w' => r = .returned (.bool true) ∧ Below w.heap.size w w' := by
  have q1 : (e == e) = true := by simp
  have q2 : (t == t) = true := by simp
  have q3 : (c == c) = true := by simp
  have HB : Hid (Below w.heap.size w ((w.alloc (.cells #[.int .i64 e, .int .i64 t, va, .int .i64 c] 29)).alloc (.cells #[.int .i64 e, .int .i64 t, vb, .int .i64 c] 29))) := ((Below.refl _ _).alloc (Nat.le_refl _) _).alloc (by simp) _
  go_enter Tryd.func6, Tryd.ntmps6
  go_wp2_with (go_at_call 18; fail)
  refine calls_w (fun u => Below w.heap.size w u) HB.out ?_
  clear HB
  intro u hu
  refine (lwNums_any va vb s u hs (ha.up hu) (hb.up hu)).mono ?_
  rintro r w1 ⟨rfl, hb1⟩
  have HP : Hid (Below w.heap.size w w1) := hu.trans (hb1.mono hu.size)
  clear hu hb1 ha hb
  go_wp2
  go_ret
  exact ⟨rfl, HP.out⟩
end Go.Proofs.YtodcjhckkbmikaaDoor.wi
