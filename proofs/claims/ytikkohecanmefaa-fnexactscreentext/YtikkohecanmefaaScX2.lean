/-
  The program's ScreenText at every screen. No condition.
-/
import Derived.Test.YtikkohecanmefaaScX0
import Derived.Test.YtikkohecanmefaaScI3
import Derived.Test.YtikkohecanmefaaJoinT
namespace Go.Proofs.Ytikkohecanmefaa.sc
open Go.ChangeShapes Go.WideShapes Go.ChangeAt Go.RowKit
open Go.Proofs.Ytikkohecanmefaa.ss (beqT beqF Row SliceIs infoS)
open Go.Proofs.Ytikkohecanmefaa.ot
open Go.Proofs.Ytikkohecanmefaa.jo (joinB)
open Go.Proofs.Ytikkohecanmefaa.wi (heap_lt calls_w wp_w)
open Classical
set_option linter.unusedVariables false

set_option maxHeartbeats 8000000 in
theorem textI_any (v : Value) (l : List ByteArray) (row col : Int) (e : ByteArray) (w : World) (hl : l.length ≤ maxLen) (hz : ∀ r ∈ l, r.size ≤ maxLen) (he : e.size ≤ maxLen) (hv : SliceIs w v l) :
    Calls Try.prog 23 #[.agg #[v, .int .i64 row, .int .i64 col, .string e]] w fun r w' => ∃ A, r = .returned (.string A) ∧ ScrTx l row col e A ∧ Below w.heap.size w w' := by
  have HI0 : Hid (InB w v row col e (w.alloc (.cells #[v, .int .i64 row, .int .i64 col, .string e] 27))) := InB.new
  have HV : Hid (∀ u, Below w.heap.size w u → SliceIs u v l) := fun u hu => hv.up hu
  by_cases h : ScrR l row col e
  · obtain ⟨b, off, cap, hb, rfl, hRow⟩ := slice_row hv h.1
    have hsz : ∀ j, j < l.length → (l.getD j ⟨#[]⟩).size ≤ 20 := fun j hj => by have h1 := (h.2.2.1 j hj).1; have h2 := h.2.1.1.2; omega
    have hn6 : l.length ≤ 6 := by have := h.2.1.2.2; omega
    have HTX : Hid (∀ k, k ≤ l.length → (tx l k).size ≤ 21 * k) := tx_size l hsz
    obtain ⟨n, hn⟩ : ∃ n, n = l.length := ⟨_, rfl⟩
    have HN : Hid (n = l.length) := hn
    have hd := decide_eq_true h
    have HM : Hid (∀ u, Below w.heap.size w u → Calls Try.prog 12 #[.agg #[.slice (some ⟨b, off, none⟩) l.length cap, .int .i64 row, .int .i64 col, .string e]] u fun r w' => r = .returned (.bool true) ∧ Below u.heap.size u w') := fun u hu => by
      have := scrI_any (.slice (some ⟨b, off, none⟩) l.length cap) l row col e u hl hz he (HV.out u hu)
      rwa [hd] at this
    rw [← hn] at HI0 HM HTX ⊢
    clear hd hn
    have HQ : Hid (ScrTx l row col e (tx l l.length)) := ⟨fun _ => rfl, fun hr => absurd h hr⟩
    go_enter Try.func23, Try.ntmps23
    go_wp2_with (go_at_call 12; fail)
    refine calls_w (InB w (.slice (some ⟨b, off, none⟩) n cap) row col e) HI0.out ?_
    clear HI0
    intro u0 i0
    refine (HM.out u0 i0.1).mono ?_
    rintro r w1 ⟨rfl, hb1⟩
    have i1 := i0.up hb1
    clear i0 hb1 HM
    have hcr : w1.cell? ⟨w.heap.size, 0, none⟩ = some (.slice (some ⟨b, off, none⟩) n cap) := by simp [World.cell?, i1.2]
    have hn6' : n ≤ 6 := by rw [HN.out]; exact hn6
    go_wp2_with fail
    obtain ⟨i0, hi, hz0, hz1, hz2⟩ := info_parts infoS
    have hRw : Hid (∀ u, Below w1.heap.size w1 u → ∀ k, k < n → u.cell? ⟨b, off + k, none⟩ = some (.string (l.getD k ⟨#[]⟩))) := fun u hu k hk => (hRow.below (i1.1.trans (hu.mono i1.1.size)) hb) k (by rw [← HN.out]; exact hk)
    have HB1 : Hid (Below w.heap.size w w1) := i1.1
    have H0 : Hid (OwT w1.heap.size (.slice none 0 0) (pts l 0) w1) := OwT.nil _ _
    clear i1 hRow hv hsz HV hl hz hn6 h hcr
    go_loopw [3, 12] (fun v i u => ∃ k : Nat, k ≤ n ∧ i = .int .i64 k ∧ Hid (OwT w1.heap.size v (pts l k) u) ∧ Hid (Below w1.heap.size w1 u)) (fun _ i _ => n - (intOf i).toNat)
    case atStart => exact ⟨0, Nat.zero_le _, rfl, H0, Below.refl _ _⟩
    case round =>
      clear H0
      obtain ⟨k, hk, rfl, HO, HB⟩ := hrel
      obtain ⟨p, c, hp⟩ := HO.out.shape
      rw [pts_length] at hp
      subst hp
      by_cases hlt : k < n
      · have hcell := hRw.out wr HB.out k hlt
        obtain ⟨x, hx⟩ : ∃ x, x = l.getD k ⟨#[]⟩ := ⟨_, rfl⟩
        have HX : Hid (pts l k ++ [x, nlB] = pts l (k + 1)) := by rw [hx]; rfl
        rw [← hx] at hcell
        have hO2 : Hid (∀ o, World.ownsRow (wr.alloc o) w1.heap.size 9 1 (.slice p (2 * k) c) (2 * k) ((pts l k).map Value.string)) := fun o => by have := HO.out.alloc o; unfold OwT at this; rwa [pts_length] at this
        have hs2 : Hid (∀ o, w1.heap.size ≤ (wr.alloc o).heap.size) := fun o => Nat.le_trans HB.out.size (by rw [World.size_alloc]; exact Nat.le_succ _)
        have hk6 : k < 6 := by omega
        have HBX : Hid (∀ o u', (wr.alloc o).grownBy u' (Value.slice p (2 * k) c).ownBlock → Below w1.heap.size w1 u') := fun o u' hg => below_own (HB.out.alloc HB.out.size o) hg (hO2.out o) (Nat.le_refl _) (hs2.out o)
        clear hx HO HB
        go_wp2_with (refine wpList_append_own _ rfl _ _ 22 rfl w1.heap.size 9 i0 (.string ⟨#[]⟩) 1 16 Try.underlying22 hi hz0 hz1 hz2 rfl (by decide) (.slice p (2 * k) c) (2 * k) ((pts l k).map Value.string) rfl (hO2.out _) ⟨wr.heap.size, 0, none⟩ 2 2 [.string x, .string nlB] rfl rfl (cell_two_new _ _ _ _) (fun y hy => by simp at hy; rcases hy with rfl | rfl <;> rfl) (by unfold maxLen; omega) (by omega) (hs2.out _) ?_; intro v4 w4 hown hgr hnil; clear hnil)
        have HF : Hid (OwT w1.heap.size v4 (pts l (k + 1)) w4) := by
          show OwT _ _ _ _
          rw [← HX.out]
          refine OwT.of (m := [x, nlB]) ?_
          rw [pts_length]; exact hown
        have HBF : Hid (Below w1.heap.size w1 w4) := HBX.out _ w4 hgr
        clear hown hgr hO2 hs2 HBX HX
        go_wp2
        exact ⟨⟨k + 1, by omega, by go_num, HF, HBF⟩, by simp [intOf]; omega⟩
      · obtain rfl : k = n := by omega
        have hj := joined_own (pts l k) w1.heap.size _ wr (by rw [pts_length]; omega) (by rw [join_pts]; have := HTX.out k (Nat.le_refl _); omega) HO.out
        rw [join_pts] at hj
        have HE : Hid (ScrTx l row col e (tx l k)) := by rw [HN.out]; exact HQ.out
        generalize tx l k = A at *
        clear HTX HQ
        go_wp2_with (go_at_call 52; fail)
        refine hj.mono ?_
        rintro r w5 ⟨rfl, hb5⟩
        have HB5 : Hid (Below w.heap.size w w5) := HB1.out.trans ((HB.out.trans (hb5.mono HB.out.size)).mono HB1.out.size)
        clear hj hb5 HO HB
        go_wp2
        go_ret
        exact ⟨A, rfl, HE.out, HB5.out⟩
  · have HQ : Hid (ScrTx l row col e ⟨#[]⟩) := ⟨fun hr => absurd hr h, fun _ => rfl⟩
    have HM : Hid (∀ u, Below w.heap.size w u → Calls Try.prog 12 #[.agg #[v, .int .i64 row, .int .i64 col, .string e]] u fun r w' => r = .returned (.bool false) ∧ Below u.heap.size u w') := fun u hu => by
      have := scrI_any v l row col e u hl hz he (HV.out u hu)
      rwa [decide_eq_false h] at this
    clear hv
    go_enter Try.func23, Try.ntmps23
    go_wp2_with (go_at_call 12; fail)
    refine calls_w (InB w v row col e) HI0.out ?_
    clear HI0
    intro u0 i0
    refine (HM.out u0 i0.1).mono ?_
    rintro r w1 ⟨rfl, hb1⟩
    have HB : Hid (Below w.heap.size w w1) := (i0.up hb1).1
    clear i0 hb1 HM
    go_wp2
    go_ret
    exact ⟨_, rfl, HQ.out, HB.out⟩
end Go.Proofs.Ytikkohecanmefaa.sc
