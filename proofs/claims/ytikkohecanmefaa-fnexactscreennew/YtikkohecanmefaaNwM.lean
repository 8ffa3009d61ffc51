/-
  The model's ScreenNew: a blank screen of that size, or a code. No condition.
-/
import Derived.Test.YtikkohecanmefaaNwI
namespace Go.Proofs.Ytikkohecanmefaa.sc
open Go.ChangeShapes Go.WideShapes Go.ChangeAt Go.RowKit
open Go.Proofs.Ytikkohecanmefaa.ss (beqT beqF Row SliceIs infoS)
open Go.Proofs.Ytikkohecanmefaa.ot
open Go.Proofs.Ytikkohecanmefaa.rp (fitB fitL fitL_length)
open Go.Proofs.Ytikkohecanmefaa.wi (heap_lt calls_w wp_w)
set_option linter.unusedVariables false

theorem info8 : (Try.prog.info? 5).map (fun i => (i.zero, i.size, i.bytes)) = some (some (.int .u8 0), 1, 1) := by kernel_rfl
theorem fit_none (n : Nat) : fitL ⟨#[]⟩ n = List.replicate n 32 := by
  have h0 : (⟨#[]⟩ : ByteArray).size = 0 := rfl
  simp [fitL, h0]
set_option maxHeartbeats 8000000 in
theorem blankM_any (n : Nat) (w : World) (h1 : 1 ≤ n) (h : n ≤ 20) : Calls Try.prog 44 #[.int .i64 (n : Int)] w fun r w' => r = .returned (.string (fitB ⟨#[]⟩ n)) ∧ Below w.heap.size w w' := by
  obtain ⟨i0, hi, hz0, hz1, hz2⟩ := info_parts info8
  have H0 : Hid ((w.alloc (.cells #[] 5)).ownsRow w.heap.size 5 1 (.slice (some ⟨w.heap.size, 0, none⟩) 0 0) 0 []) := ⟨rfl, .inr ⟨w.heap.size, 0, #[], rfl, Nat.le_refl _, heap_alloc_new _ _, Nat.le_refl _, by simp, rfl, rfl⟩⟩
  have HB0 : Hid (Below w.heap.size w (w.alloc (.cells #[] 5))) := (Below.refl _ _).alloc (Nat.le_refl _) _
  go_enter Try.func44, Try.ntmps44
  go_wp2_with fail
  go_loopw [3, 4] (fun v i u => ∃ k : Nat, k ≤ n ∧ i = .int .i64 k ∧ (k = 0 → v = .slice (some ⟨w.heap.size, 0, none⟩) 0 0) ∧ Hid (u.ownsRow w.heap.size 5 1 v k (rp.blk k)) ∧ Hid (Below w.heap.size w u)) (fun _ i _ => n - (intOf i).toNat)
  case atStart => exact ⟨0, Nat.zero_le _, rfl, fun _ => rfl, H0, HB0⟩
  case round =>
    clear H0 HB0
    obtain ⟨k, hk, rfl, hv0, HO, HB⟩ := hrel
    obtain ⟨p, c, hp⟩ : ∃ p c, u3 = .slice p k c := by
      rcases HO.out.2 with ⟨hv, hn⟩ | ⟨g, cap2, cur, hv, _⟩
      · exact ⟨none, 0, by rw [hv, hn]⟩
      · exact ⟨_, _, hv⟩
    subst hp
    by_cases hlt : k < n
    · have hO2 : Hid (∀ o, World.ownsRow (wr.alloc o) w.heap.size 5 1 (.slice p k c) k (rp.blk k)) := fun o => HO.out.alloc o
      have hs2 : Hid (∀ o, w.heap.size ≤ (wr.alloc o).heap.size) := fun o => Nat.le_trans HB.out.size (by rw [World.size_alloc]; exact Nat.le_succ _)
      have HBX : Hid (∀ o u', (wr.alloc o).grownBy u' (Value.slice p k c).ownBlock → Below w.heap.size w u') := fun o u' hg => below_own (HB.out.alloc HB.out.size o) hg (hO2.out o) (Nat.le_refl _) (hs2.out o)
      clear HO HB hv0
      go_wp2_with (refine wpList_append_own _ rfl _ _ 83 rfl w.heap.size 5 i0 (.int .u8 0) 1 1 Try.underlying83 hi hz0 hz1 hz2 rfl (by decide) (.slice p k c) k (rp.blk k) rfl (hO2.out _) ⟨wr.heap.size, 0, none⟩ 1 1 [.int .u8 32] rfl rfl (cell_one_new _ _ _) (by simp [Value.oneCell']) (by unfold maxLen; omega) (by omega) (hs2.out _) ?_; intro v4 w4 hown hgr hnil; clear hnil)
      have HF : Hid (w4.ownsRow w.heap.size 5 1 v4 (k + 1) (rp.blk (k + 1))) := by
        have e : rp.blk k ++ [.int .u8 32] = rp.blk (k + 1) := by unfold rp.blk; rw [List.replicate_succ']
        rw [← e]; exact hown
      have HBF : Hid (Below w.heap.size w w4) := HBX.out _ w4 hgr
      clear hown hgr hO2 hs2 HBX
      go_wp2
      exact ⟨⟨k + 1, by omega, by go_num, fun h => by omega, HF, HBF⟩, by simp [intOf]; omega⟩
    · obtain rfl : k = n := by omega
      obtain ⟨g, hg⟩ : ∃ g, p = some ⟨g, 0, none⟩ := by
        rcases HO.out.2 with ⟨hv, hn⟩ | ⟨g, cap2, cur, hv, _⟩
        · omega
        · simp only [Value.slice.injEq] at hv; exact ⟨g, hv.1⟩
      subst hg
      have hcv : (convert 83 9 (.slice (some ⟨g, 0, none⟩) k c)).run Try.prog wr = .ok (.string (fitB ⟨#[]⟩ k)) wr := by
        have hb := run_convert_bytes_back (P := Try.prog) wr 83 9 5 ⟨g, 0, none⟩ c (fitL ⟨#[]⟩ k) Try.underlying83 Try.underlying5 Try.underlying9 (fun j hj => by
          have hjk : j < k := by rw [fitL_length] at hj; exact hj
          have e : (⟨g, 0, none⟩ : Addr).add j = ⟨g, j, none⟩ := by unfold Addr.add; split <;> simp_all
          rw [e, HO.out.cellAt j (by omega)]
          have e2 : (fitL ⟨#[]⟩ k)[j] = 32 := by simp [fit_none]
          rw [e2]
          unfold rp.blk
          rw [List.getElem?_replicate, if_pos hjk]; rfl)
        rw [fitL_length] at hb
        exact hb
      clear HO hv0
      go_wp2
      go_ret
      exact ⟨rfl, HB.out⟩
end Go.Proofs.Ytikkohecanmefaa.sc
