/-
  The law's own helper on slices of rules: how much they hold. No condition.
-/
import Derived.Test.YtndjjhcdnlkekaaDoorRuA
namespace Go.Proofs.YtndjjhcdnlkekaaDoor.rl
open Go.ChangeShapes Go.WideShapes Go.ChangeAt Go.RowKit
open Go.Proofs.YtndjjhcdnlkekaaDoor.wi (heap_lt calls_w wp_w)
set_option linter.unusedVariables false

/-- how many bytes the rules' texts have together -/
def tot (s : List Ln) : Nat := (s.map fun x => x.2.2.1.size + x.2.2.2.size).sum
theorem tot_app (a b : List Ln) : tot (a ++ b) = tot a + tot b := by simp [tot]
theorem tot_succ {s : List Ln} {k : Nat} (h : k < s.length) : tot (s.take (k + 1)) = tot (s.take k) + ((s.getD k ln0).2.2.1.size + (s.getD k ln0).2.2.2.size) := by
  rw [← List.take_append_getElem h, tot_app]
  simp [tot, List.getD, List.getElem?_eq_getElem h]
theorem tot_take_le (s : List Ln) (k : Nat) : tot (s.take k) ≤ tot s := by
  have := tot_app (s.take k) (s.drop k)
  rw [List.take_append_drop] at this
  omega
def szV (left : Int) (s : List Ln) : Int := if left - ((s.length : Int) + (tot s : Int)) < 0 then -1 else left - ((s.length : Int) + (tot s : Int))
theorem infoLn : (Tryd.prog.info? 23).map (·.size) = some 4 := by kernel_rfl

set_option maxHeartbeats 2000000 in
theorem szRule_any (k n : Int) (u g : ByteArray) (left : Int) (w : World) (h0 : 0 ≤ left) (h1 : left ≤ 1048576) (hu : u.size ≤ 9223372036854775807) (hg : g.size ≤ 9223372036854775807) :
    Calls Tryd.prog 9 #[.agg #[.int .i64 k, .int .i64 n, .string u, .string g], .int .i64 left] w fun r w' => r = .returned (.int .i64 (if left - ((u.size + g.size : Nat) : Int) < 0 then -1 else left - ((u.size + g.size : Nat) : Int))) ∧ Below w.heap.size w w' := by
  have HB : Hid (∀ o, Below w.heap.size w (w.alloc o)) := fun o => (Below.refl _ _).alloc (Nat.le_refl _) o
  by_cases h : left - (u.size : Int) < 0
  · have d : decide (left - (u.size : Int) < 0) = true := decide_eq_true h
    rw [if_pos (by omega)]
    go_enter Tryd.func9, Tryd.ntmps9
    go_wp2
    go_ret
    exact ⟨rfl, HB.out _⟩
  · have d : decide (left - (u.size : Int) < 0) = false := decide_eq_false h
    by_cases h2 : left - (u.size : Int) - (g.size : Int) < 0
    · have d2 : decide (left - (u.size : Int) - (g.size : Int) < 0) = true := decide_eq_true h2
      rw [if_pos (by omega)]
      go_enter Tryd.func9, Tryd.ntmps9
      go_wp2
      go_ret
      exact ⟨rfl, HB.out _⟩
    · have d2 : decide (left - (u.size : Int) - (g.size : Int) < 0) = false := decide_eq_false h2
      have HV : Hid ((if left - ((u.size + g.size : Nat) : Int) < 0 then -1 else left - ((u.size + g.size : Nat) : Int)) = left - (u.size : Int) - (g.size : Int)) := by
        show _ = _
        rw [if_neg (by omega)]; omega
      rw [HV.out]
      go_enter Tryd.func9, Tryd.ntmps9
      go_wp2
      go_ret
      exact ⟨rfl, HB.out _⟩
set_option maxHeartbeats 8000000 in
theorem szRules_any (v : Value) (s : List Ln) (left : Int) (w : World) (h0 : 0 ≤ left) (h1 : left ≤ 1048576) (hs : s.length ≤ maxLen) (hz : ∀ r ∈ s, r.2.2.1.size ≤ maxLen ∧ r.2.2.2.size ≤ maxLen) (hv : SliceIs w v s) :
    Calls Tryd.prog 13 #[v, .int .i64 left] w fun r w' => r = .returned (.int .i64 (szV left s)) ∧ Below w.heap.size w w' := by
  have HB : Hid (Below w.heap.size w w) := Below.refl _ _
  unfold maxLen at hs hz
  by_cases h2 : left - (s.length : Int) < 0
  · have HV : Hid (szV left s = -1) := if_pos (by omega)
    obtain ⟨p, cap, rfl⟩ := hv.shape
    clear hv
    go_enter Tryd.func13, Tryd.ntmps13
    go_wp2
    go_ret
    exact ⟨by rw [HV.out]; rfl, HB.out⟩
  · rcases hv with ⟨p, cap, rfl, rfl⟩ | ⟨b, off, cap, hb, rfl, hR⟩
    · have HV : Hid (szV left [] = left) := by
        show szV left [] = left
        unfold szV
        rw [show tot [] = 0 from rfl, if_neg (by simp; omega)]; simp
      go_enter Tryd.func13, Tryd.ntmps13
      go_wp2
      refine wp_loop_rounds 1 ?_
      rw [rounds_succ]
      go_wp2
      go_ret
      refine ⟨?_, HB.out⟩
      rw [HV.out]; simp
    · have HZ : Hid (∀ k, k < s.length → (s.getD k ln0).2.2.1.size ≤ 9223372036854775807 ∧ (s.getD k ln0).2.2.2.size ≤ 9223372036854775807) := fun k hk => by
        rw [List.getD_eq_getElem?_getD, List.getElem?_eq_getElem hk]; exact hz _ (List.getElem_mem hk)
      have HS : Hid (∀ k, k < s.length → tot (s.take (k + 1)) = tot (s.take k) + ((s.getD k ln0).2.2.1.size + (s.getD k ln0).2.2.2.size)) := fun k hk => tot_succ hk
      have HN : Hid (∀ k, left - (s.length : Int) - (tot (s.take k) : Int) < 0 → szV left s = -1) := fun k hk => if_pos (by have := tot_take_le s k; omega)
      have HY : Hid (¬ left - (s.length : Int) - (tot (s.take s.length) : Int) < 0 → szV left s = left - (s.length : Int) - (tot (s.take s.length) : Int)) := fun h => by
        rw [List.take_length] at h ⊢
        unfold szV
        rw [if_neg (by omega)]; omega
      obtain ⟨n, hn⟩ : ∃ n, n = s.length := ⟨_, rfl⟩
      have HR : Hid (∀ u, Below w.heap.size w u → ∀ k, k < n → u.cell? ⟨b, off + k * 4, none⟩ = some (.int .i64 (s.getD k ln0).1) ∧ u.cell? ⟨b, off + k * 4 + 1, none⟩ = some (.int .i64 (s.getD k ln0).2.1) ∧ u.cell? ⟨b, off + k * 4 + 2, none⟩ = some (.string (s.getD k ln0).2.2.1) ∧ u.cell? ⟨b, off + k * 4 + 3, none⟩ = some (.string (s.getD k ln0).2.2.2)) := fun u hu k hk => (hR.below hu hb) k (by omega)
      rw [← hn] at hs h2 HZ HS HN HY ⊢
      have HT0 : Hid (tot (s.take 0) = 0) := by show tot (s.take 0) = 0; simp [tot]
      clear hn hR hz
      go_enter Tryd.func13, Tryd.ntmps13
      go_wp2
      go_loopw [1, 5] (fun x i u => ∃ k : Nat, k ≤ n ∧ i = .int .i64 k ∧ x = .int .i64 (left - (n : Int) - (tot (s.take k) : Int)) ∧ 0 ≤ left - (n : Int) - (tot (s.take k) : Int) ∧ Hid (Below w.heap.size w u)) (fun _ i _ => n - (intOf i).toNat)
      case atStart => exact ⟨0, Nat.zero_le _, rfl, by rw [HT0.out]; simp, by rw [HT0.out]; simpa using h2, HB⟩
      case round =>
        obtain ⟨k, hk, rfl, rfl, h3, HU⟩ := hrel
        by_cases hlt : k < n
        · obtain ⟨c1, c2, c3, c4⟩ := HR.out wr HU.out k hlt
          obtain ⟨h4, h4'⟩ := HZ.out k hlt
          have h5 := HS.out k hlt
          have HN1 := HN.out (k + 1)
          rw [h5] at HN1
          obtain ⟨x, hx⟩ : ∃ x, x = s.getD k ln0 := ⟨_, rfl⟩
          obtain ⟨y, hy⟩ : ∃ y : Int, y = left - (n : Int) - (tot (s.take k) : Int) := ⟨_, rfl⟩
          rw [← hx] at c1 c2 c3 c4 h4 h4' h5 HN1
          clear hx
          obtain ⟨x1, x2, x3, x4⟩ := x
          dsimp only at c1 c2 c3 c4 h4 h4' h5 HN1
          have h6 : left - (n : Int) - (tot (s.take (k + 1)) : Int) = y - ((x3.size + x4.size : Nat) : Int) := by omega
          have HN2 : Hid (y - ((x3.size + x4.size : Nat) : Int) < 0 → szV left s = -1) := fun h => HN1 (by omega)
          have hy1 : y ≤ 1048576 := by omega
          rw [← hy] at h3 ⊢
          have H6 : Hid (left - (n : Int) - (tot (s.take (k + 1)) : Int) = y - ((x3.size + x4.size : Nat) : Int)) := h6
          clear hy HN1 h5 h6
          go_wp2_with (go_at_call 9; fail)
          refine (szRule_any x1 x2 x3 x4 y wr h3 hy1 h4 h4').mono ?_
          rintro r w2 ⟨rfl, hb2⟩
          have HU2 : Hid (Below w.heap.size w w2) := HU.out.trans (hb2.mono HU.out.size)
          clear hb2 c1 c2 c3 c4
          by_cases hneg : y - ((x3.size + x4.size : Nat) : Int) < 0
          · have HV : Hid (szV left s = -1) := HN2.out hneg
            rw [if_pos hneg]
            clear HN2 H6
            go_wp2
            go_ret
            exact ⟨by rw [HV.out]; rfl, HU2.out⟩
          · have d : decide (y - ((x3.size + x4.size : Nat) : Int) < 0) = false := decide_eq_false hneg
            rw [if_neg hneg]
            clear HN2
            obtain ⟨z, hz⟩ : ∃ z : Int, z = y - ((x3.size + x4.size : Nat) : Int) := ⟨_, rfl⟩
            rw [← hz] at d hneg ⊢
            have HZ2 : Hid (z = y - ((x3.size + x4.size : Nat) : Int)) := hz
            clear hz
            go_wp2
            refine ⟨⟨k + 1, by omega, by go_num, by rw [H6.out, HZ2.out], by rw [H6.out, ← HZ2.out]; omega, HU2⟩, by simp [intOf]; omega⟩
        · obtain rfl : k = n := by omega
          have HV := HY.out (by omega)
          go_wp2
          go_ret
          exact ⟨by rw [HV]; rfl, HU.out⟩
end Go.Proofs.YtndjjhcdnlkekaaDoor.rl
