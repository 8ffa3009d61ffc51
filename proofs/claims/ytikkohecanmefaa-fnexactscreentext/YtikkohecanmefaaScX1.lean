/-
  The model's ScreenText at every screen. No condition.
-/
import Derived.Test.YtikkohecanmefaaScX0
import Derived.Test.YtikkohecanmefaaScM2
namespace Go.Proofs.Ytikkohecanmefaa.sc
open Go.ChangeShapes Go.WideShapes Go.ChangeAt Go.RowKit
open Go.Proofs.Ytikkohecanmefaa.ss (beqT beqF Row SliceIs)
open Go.Proofs.Ytikkohecanmefaa.wi (heap_lt calls_w wp_w)
open Classical
set_option linter.unusedVariables false

set_option maxHeartbeats 8000000 in
theorem textM_any (v : Value) (l : List ByteArray) (row col : Int) (e : ByteArray) (w : World) (hl : l.length ≤ maxLen) (hz : ∀ r ∈ l, r.size ≤ maxLen) (he : e.size ≤ maxLen) (hv : SliceIs w v l) :
    Calls Try.prog 22 #[.agg #[v, .int .i64 row, .int .i64 col, .string e]] w fun r w' => ∃ A, r = .returned (.string A) ∧ ScrTx l row col e A ∧ Below w.heap.size w w' := by
  have HI0 : Hid (InB w v row col e (w.alloc (.cells #[v, .int .i64 row, .int .i64 col, .string e] 27))) := InB.new
  have HV : Hid (∀ u, Below w.heap.size w u → SliceIs u v l) := fun u hu => hv.up hu
  by_cases h : ScrR l row col e
  · obtain ⟨b, off, cap, hb, rfl, hRow⟩ := slice_row hv h.1
    have hsz : ∀ j, j < l.length → (l.getD j ⟨#[]⟩).size ≤ 20 := fun j hj => by have h1 := (h.2.2.1 j hj).1; have h2 := h.2.1.1.2; omega
    have hn6 : l.length ≤ 6 := by have := h.2.1.2.2; omega
    have HTX : Hid (∀ k, k ≤ l.length → (tx l k).size ≤ 21 * k) := tx_size l hsz
    obtain ⟨n, hn⟩ : ∃ n, n = l.length := ⟨_, rfl⟩
    have HN : Hid (n = l.length) := hn
    have hd := decide_eq_true h
    have HM : Hid (∀ u, Below w.heap.size w u → Calls Try.prog 10 #[.agg #[.slice (some ⟨b, off, none⟩) l.length cap, .int .i64 row, .int .i64 col, .string e]] u fun r w' => r = .returned (.bool true) ∧ Below u.heap.size u w') := fun u hu => by
      have := scrM_any (.slice (some ⟨b, off, none⟩) l.length cap) l row col e u hl hz he (HV.out u hu)
      rwa [hd] at this
    rw [← hn] at HI0 HM HTX ⊢
    clear hd hn
    obtain ⟨A, hA⟩ : ∃ A, A = tx l l.length := ⟨_, rfl⟩
    have HR : Hid (A = tx l l.length) := hA
    have HQ : Hid (ScrTx l row col e A) := ⟨fun _ => hA, fun hr => absurd h hr⟩
    clear hA
    go_enter Try.func22, Try.ntmps22
    go_wp2_with (go_at_call 10; fail)
    refine calls_w (InB w (.slice (some ⟨b, off, none⟩) n cap) row col e) HI0.out ?_
    clear HI0
    intro u0 i0
    refine (HM.out u0 i0.1).mono ?_
    rintro r w1 ⟨rfl, hb1⟩
    have i1 := i0.up hb1
    clear i0 hb1 HM
    go_wp2_with fail
    have hcr := i1.rows
    have hRw : Hid (∀ k, k < n → w1.cell? ⟨b, off + k, none⟩ = some (.string (l.getD k ⟨#[]⟩))) := fun k hk => (hRow.below i1.1 hb) k (by rw [← HN.out]; exact hk)
    have HB : Hid (Below w.heap.size w w1) := i1.1
    have HS : Hid (∀ k, k < n → (l.getD k ⟨#[]⟩).size ≤ 20) := fun k hk => hsz k (by rw [← HN.out]; exact hk)
    have hn6' : n ≤ 6 := by rw [HN.out]; exact hn6
    clear i1 hRow hv hsz HV hl hz hn6 h
    go_loop [3, 4] (fun t i => ∃ k : Nat, k ≤ n ∧ i = .int .i64 k ∧ t = .string (tx l k)) (fun _ i => n - (intOf i).toNat)
    case atStart => exact ⟨0, Nat.zero_le _, rfl, rfl⟩
    case round =>
      obtain ⟨k, hk, rfl, rfl⟩ := hrel
      by_cases hlt : k < n
      · have hcell := hRw.out k hlt
        have h1 := HTX.out k hk
        have h2 := HS.out k hlt
        have hki : (k : Int) < (n : Int) := by omega
        have h3 : Hid (tx l (k + 1) = tx l k ++ l.getD k ⟨#[]⟩ ++ nlB) := rfl
        obtain ⟨x, hx⟩ : ∃ x, x = l.getD k ⟨#[]⟩ := ⟨_, rfl⟩
        obtain ⟨y, hy⟩ : ∃ y, y = tx l k := ⟨_, rfl⟩
        rw [← hx] at hcell h2 h3
        rw [← hy] at h1 h3 ⊢
        clear hx hy
        go_wp2
        go_round
        case rel => exact ⟨k + 1, by omega, by go_num, by rw [h3.out]⟩
        case measure => simp [intOf]; omega
      · obtain rfl : k = n := by omega
        have HE : Hid (tx l k = A) := by show _ = A; rw [HR.out, ← HN.out]
        go_wp2
        go_ret
        exact ⟨A, by rw [← HE.out]; rfl, HQ.out, HB.out⟩
  · have HQ : Hid (ScrTx l row col e ⟨#[]⟩) := ⟨fun hr => absurd hr h, fun _ => rfl⟩
    have HM : Hid (∀ u, Below w.heap.size w u → Calls Try.prog 10 #[.agg #[v, .int .i64 row, .int .i64 col, .string e]] u fun r w' => r = .returned (.bool false) ∧ Below u.heap.size u w') := fun u hu => by
      have := scrM_any v l row col e u hl hz he (HV.out u hu)
      rwa [decide_eq_false h] at this
    clear hv
    go_enter Try.func22, Try.ntmps22
    go_wp2_with (go_at_call 10; fail)
    refine calls_w (InB w v row col e) HI0.out ?_
    clear HI0
    intro u0 i0
    refine (HM.out u0 i0.1).mono ?_
    rintro r w1 ⟨rfl, hb1⟩
    have HB : Hid (Below w.heap.size w w1) := (i0.up hb1).1
    clear i0 hb1 HM
    go_wp2
    go_ret
    exact ⟨_, rfl, HQ.out, HB.out⟩
end Go.Proofs.Ytikkohecanmefaa.sc
