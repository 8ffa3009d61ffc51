/-
  The law's own helpers on rules: a slice copied, held against another: what they tell; no old block turns. No condition.
-/
import Derived.Test.YtndjjhcdnlkekaaDoorRuS
import Derived.Test.YtndjjhcdnlkekaaDoorRuS0
import Derived.Deep.RegionWith
namespace Go.Proofs.YtndjjhcdnlkekaaDoor.rl
open Go.ChangeShapes Go.WideShapes Go.ChangeAt Go.RowKit
open Go.Proofs.YtndjjhcdnlkekaaDoor.wi (heap_lt calls_w wp_w)
open Go.Proofs.YtndjjhcdnlkekaaDoor.ss (below_drewN)
set_option linter.unusedVariables false
set_option linter.unusedSimpArgs false

theorem infoIL : (Tryd.prog.info? 26).map (·.size) = some 4 := by kernel_rfl
theorem infoILz : (Tryd.prog.info? 26).map (fun i => (i.zero, i.size, i.bytes)) = some (some (.agg #[.int .i64 0, .int .i64 0, .string ⟨#[]⟩, .string ⟨#[]⟩]), 4, 48) := by kernel_rfl
set_option maxHeartbeats 2000000 in
theorem toRule_any (k n : Int) (u g : ByteArray) (w : World) :
    Calls Tryd.prog 11 #[.agg #[.int .i64 k, .int .i64 n, .string u, .string g]] w fun r w' => r = .returned (.agg #[.int .i64 k, .int .i64 n, .string u, .string g]) ∧ Below w.heap.size w w' := by
  have HB : Hid (Below w.heap.size w (((w.alloc (.cells #[.int .i64 k, .int .i64 n, .string u, .string g] 23)).alloc (.cells #[.int .i64 k, .int .i64 n, .string u, .string g] 26)).alloc (.cells #[.int .i64 k, .int .i64 n, .string u, .string g] 26))) := (((Below.refl _ _).alloc (Nat.le_refl _) _).alloc (((Below.refl _ _).alloc (Nat.le_refl _) _).size) _).alloc ((((Below.refl _ _).alloc (Nat.le_refl _) _).alloc (((Below.refl _ _).alloc (Nat.le_refl _) _).size) _).size) _
  go_enter Tryd.func11, Tryd.ntmps11
  go_wp2
  exact bodyPost_ret (results_cell_row Tryd.results11 _ _ (w.heap.size + 1) _ _ _ _ rfl ((Below.heap_alloc _ _ _ (by simp)).trans (heap_alloc2_new _ _ _)) Tryd.underlying26 rfl infoIL) rfl ⟨rfl, HB.out⟩
set_option maxHeartbeats 8000000 in
theorem toRules_any (v : Value) (s : List Ln) (w : World) (hs : s.length ≤ 1048576) (hv : SliceIs w v s) :
    Calls Tryd.prog 15 #[v] w fun r w' => r = .returned (.slice (some ⟨w.heap.size, 0, none⟩) s.length s.length) ∧ Below w.heap.size w w' ∧ Blk w' w.heap.size s := by
  obtain ⟨i0, hi, hz0, hz1, hz2⟩ := info_parts infoILz
  have hmk : (Instr.makeSlice 32 (.int .i64 (s.length : Int)) (.int .i64 (s.length : Int))).run Tryd.prog w = .ok (.slice (some ⟨w.heap.size, 0, none⟩) s.length s.length) (w.alloc (.cells (cells (upTo s 0)) 26)) := by
    have h := run_make (P := Tryd.prog) w 32 26 i0 (.agg #[.int .i64 0, .int .i64 0, .string ⟨#[]⟩, .string ⟨#[]⟩]) Tryd.underlying32 hi hz0 .i64 .i64 (s.length : Int) (s.length : Int) (by omega) (Int.le_refl _) (by rw [hz2]; omega) (by omega)
    rw [upTo_zero, ← madeRow]
    simpa [hz1, Value.cells] using h
  have HR0 : Hid (Blk (w.alloc (.cells (cells (upTo s 0)) 26)) w.heap.size (upTo s 0)) := heap_alloc_new _ _
  have HB0 : Hid (Below w.heap.size w (w.alloc (.cells (cells (upTo s 0)) 26))) := (Below.refl _ _).alloc (Nat.le_refl _) _
  generalize hW : w.alloc (.cells (cells (upTo s 0)) 26) = W at *
  clear hW
  rcases hv with ⟨p, cap, rfl, rfl⟩ | ⟨b, off, cap, hb, rfl, hR⟩
  · have hmk' : (Instr.makeSlice 32 (.int .i64 0) (.int .i64 0)).run Tryd.prog w = .ok (.slice (some ⟨w.heap.size, 0, none⟩) 0 0) W := hmk
    clear hmk
    go_enter Tryd.func15, Tryd.ntmps15
    go_wp2
    refine wp_loop_rounds 1 ?_
    rw [rounds_succ]
    go_wp2
    go_ret
    exact ⟨rfl, HB0.out, HR0.out⟩
  · obtain ⟨n, hn⟩ : ∃ n, n = s.length := ⟨_, rfl⟩
    have HR : Hid (∀ u, Below w.heap.size w u → ∀ k, k < n → u.cell? ⟨b, off + k * 4, none⟩ = some (.int .i64 (s.getD k ln0).1) ∧ u.cell? ⟨b, off + k * 4 + 1, none⟩ = some (.int .i64 (s.getD k ln0).2.1) ∧ u.cell? ⟨b, off + k * 4 + 2, none⟩ = some (.string (s.getD k ln0).2.2.1) ∧ u.cell? ⟨b, off + k * 4 + 3, none⟩ = some (.string (s.getD k ln0).2.2.2)) := fun u hu k hk => (hR.below hu hb) k (by omega)
    have HNs : Hid (n = s.length) := hn
    rw [← hn] at hmk hs ⊢
    clear hR hn
    go_enter Tryd.func15, Tryd.ntmps15
    go_wp2
    clear hmk
    go_loopw [4] (fun i u => ∃ k : Nat, k ≤ n ∧ i = .int .i64 k ∧ Hid (Below w.heap.size w u) ∧ Hid (Blk u w.heap.size (upTo s k))) (fun i _ => n - (intOf i).toNat)
    case atStart => exact ⟨0, Nat.zero_le _, rfl, HB0, HR0⟩
    case round =>
      clear HB0 HR0
      obtain ⟨k, hk, rfl, HB, HK⟩ := hrel
      by_cases hlt : k < n
      · obtain ⟨c1, c2, c3, c4⟩ := HR.out wr HB.out k hlt
        obtain ⟨x, hx⟩ : ∃ x, x = s.getD k ln0 := ⟨_, rfl⟩
        have HX : Hid (x = s.getD k ln0) := hx
        rw [← hx] at c1 c2 c3 c4
        clear hx
        obtain ⟨x1, x2, x3, x4⟩ := x
        dsimp only at c1 c2 c3 c4
        go_wp2_with (go_at_call 11; fail)
        refine (toRule_any x1 x2 x3 x4 wr).mono ?_
        rintro r w2 ⟨rfl, hb2⟩
        have HB2 : Hid (Below w.heap.size w w2) := HB.out.trans (hb2.mono HB.out.size)
        have hK2 := HK.out.up hb2
        have hlen : k < (upTo s k).length := by rw [upTo_length s k (by rw [← HNs.out]; exact hk), ← HNs.out]; exact hlt
        obtain ⟨d1, d2, d3, d4⟩ := hK2.row k hlen
        rw [Nat.zero_add] at d1 d2 d3 d4
        have hf : ∀ j, w2.frozen? ⟨w.heap.size, j, none⟩ = false := fun j => frozen_of_row _ _ _ _ _ hK2
        have HK' : Hid (Blk ((((w2.setCell ⟨w.heap.size, k * 4, none⟩ (.int .i64 x1)).setCell ⟨w.heap.size, k * 4 + 1, none⟩ (.int .i64 x2)).setCell ⟨w.heap.size, k * 4 + 2, none⟩ (.string x3)).setCell ⟨w.heap.size, k * 4 + 3, none⟩ (.string x4)) w.heap.size (upTo s (k + 1))) := by
          have := hK2.set k hlen (x1, x2, x3, x4)
          rw [show ((upTo s k).set k (x1, x2, x3, x4)) = upTo s (k + 1) by rw [HX.out]; exact upTo_set s k (by rw [← HNs.out]; exact hlt)] at this
          exact this
        have HBX : Hid (Below w.heap.size w ((((w2.setCell ⟨w.heap.size, k * 4, none⟩ (.int .i64 x1)).setCell ⟨w.heap.size, k * 4 + 1, none⟩ (.int .i64 x2)).setCell ⟨w.heap.size, k * 4 + 2, none⟩ (.string x3)).setCell ⟨w.heap.size, k * 4 + 3, none⟩ (.string x4))) := (((HB2.out.setCell (Nat.le_refl _) _).setCell (Nat.le_refl _) _).setCell (Nat.le_refl _) _).setCell (Nat.le_refl _) _
        generalize (upTo s k).getD k ln0 = y at d1 d2 d3 d4
        clear HB HK hK2 hb2 hlen HX c1 c2 c3 c4 HB2
        go_wp2
        exact ⟨⟨k + 1, by omega, by go_num, HBX, HK'⟩, by simp [intOf]; omega⟩
      · obtain rfl : k = n := by omega
        have HK2 : Hid (Blk wr w.heap.size s) := by
          have := HK.out
          rw [HNs.out, upTo_end] at this
          exact this
        clear HK
        go_wp2
        go_ret
        exact ⟨rfl, HB.out, HK2.out⟩

theorem eqRule_any (k n : Int) (u g : ByteArray) (w : World) :
    Calls Tryd.prog 36 #[.agg #[.int .i64 k, .int .i64 n, .string u, .string g], .agg #[.int .i64 k, .int .i64 n, .string u, .string g]] w fun r w' => r = .returned (.bool true) ∧ Below w.heap.size w w' := by
  have HB : Hid (∀ o p, Below w.heap.size w ((w.alloc o).alloc p)) := fun o p => ((Below.refl _ _).alloc (Nat.le_refl _) _).alloc (by simp) _
  have q1 : (k == k) = true := by simp
  have q2 : (n == n) = true := by simp
  have q3 : (u.toList == u.toList) = true := by simp
  have q4 : (g.toList == g.toList) = true := by simp
  go_enter Tryd.func36, Tryd.ntmps36
  go_wp2
  go_ret
  exact ⟨rfl, HB.out _ _⟩
set_option maxHeartbeats 8000000 in
theorem eqRules_any (va vb : Value) (s : List Ln) (w : World) (hs : s.length ≤ maxLen) (ha : SliceIs w va s) (hb : SliceIs w vb s) :
    Calls Tryd.prog 17 #[va, vb] w fun r w' => r = .returned (.bool true) ∧ Below w.heap.size w w' := by
  have HB : Hid (Below w.heap.size w w) := Below.refl _ _
  unfold maxLen at hs
  by_cases h0 : s = []
  · subst h0
    obtain ⟨pa, ca, rfl⟩ := ha.shape
    obtain ⟨pb, cb, rfl⟩ := hb.shape
    clear ha hb
    go_enter Tryd.func17, Tryd.ntmps17
    go_wp2
    refine wp_loop_rounds 1 ?_
    rw [rounds_succ]
    go_wp2
    go_ret
    exact ⟨rfl, HB.out⟩
  · obtain ⟨ba, oa, ca, hba, rfl, hRa⟩ : ∃ b off cap, b < w.heap.size ∧ va = .slice (some ⟨b, off, none⟩) s.length cap ∧ Row w b off s := by
      rcases ha with ⟨p, cap, h, _⟩ | h
      · exact absurd h h0
      · exact h
    obtain ⟨bb, ob, cb, hbb, rfl, hRb⟩ : ∃ b off cap, b < w.heap.size ∧ vb = .slice (some ⟨b, off, none⟩) s.length cap ∧ Row w b off s := by
      rcases hb with ⟨p, cap, h, _⟩ | h
      · exact absurd h h0
      · exact h
    have HRa : Hid (∀ u, Below w.heap.size w u → Row u ba oa s) := fun u hu => hRa.below hu hba
    have HRb : Hid (∀ u, Below w.heap.size w u → Row u bb ob s) := fun u hu => hRb.below hu hbb
    clear ha hb h0 hRa hRb
    go_enter Tryd.func17, Tryd.ntmps17
    go_wp2
    go_loopw [5] (fun i u => ∃ k : Nat, k ≤ s.length ∧ i = .int .i64 k ∧ Hid (Below w.heap.size w u)) (fun i _ => s.length - (intOf i).toNat)
    case atStart => exact ⟨0, Nat.zero_le _, rfl, HB⟩
    case round =>
      obtain ⟨k, hk, rfl, HU⟩ := hrel
      by_cases hlt : k < s.length
      · obtain ⟨c1, c2, c3, c4⟩ := HRa.out wr HU.out k hlt
        obtain ⟨d1, d2, d3, d4⟩ := HRb.out wr HU.out k hlt
        obtain ⟨x, hx⟩ : ∃ x, x = s.getD k ln0 := ⟨_, rfl⟩
        rw [← hx] at c1 c2 c3 c4 d1 d2 d3 d4
        clear hx
        obtain ⟨x1, x2, x3, x4⟩ := x
        dsimp only at c1 c2 c3 c4 d1 d2 d3 d4
        have hki : (k : Int) < (s.length : Int) := by omega
        have hk0 : (0 : Int) ≤ (k : Int) := by omega
        go_wp2_with fail
        have HD : Hid (Below w.heap.size w wr.drew) := HU.out.drew
        clear HU HRa HRb
        go_region_with (go_at_call 36; (with_reducible refine (eqRule_any _ _ _ _ _).mono ?_); rintro r w8 ⟨rfl, hb8⟩)
        all_goals
          have H8 : Hid (Below w.heap.size w w8) := HD.out.trans (hb8.mono HD.out.size)
          clear hb8 HD c1 c2 c3 c4 d1 d2 d3 d4
          go_wp2
          exact ⟨⟨k + 1, by omega, by go_num, H8⟩, by simp [intOf]; omega⟩
      · obtain rfl : k = s.length := by omega
        go_wp2
        go_ret
        exact ⟨rfl, HU.out⟩
end Go.Proofs.YtndjjhcdnlkekaaDoor.rl
