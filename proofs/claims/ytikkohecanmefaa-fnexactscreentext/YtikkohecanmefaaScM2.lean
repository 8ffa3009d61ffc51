/-
  The model's ScreenRight at every screen: it tells what the plain condition tells; no old block turns. No condition.
-/
import Derived.Test.YtikkohecanmefaaScI3
import Derived.Test.YtikkohecanmefaaScM1
import Derived.Deep.QuietTactic
import Derived.BigQuiet
namespace Go.Proofs.Ytikkohecanmefaa.sc
open Go.ChangeShapes Go.WideShapes Go.ChangeAt Go.RowKit
open Go.Proofs.Ytikkohecanmefaa.ss (beqT beqF Row SliceIs)
open Classical
set_option linter.unusedVariables false

theorem InB.drewN {w u : World} {v : Value} {row col : Int} {e : ByteArray} (h : InB w v row col e u) (m : Nat) : InB w v row col e (u.drewN m) := ⟨ss.below_drewN h.1 m, h.2⟩
theorem InB.rows {w u : World} {v : Value} {row col : Int} {e : ByteArray} (h : InB w v row col e u) : u.cell? ⟨w.heap.size, 0, none⟩ = some v := by simp [World.cell?, h.2]
set_option maxHeartbeats 8000000 in
theorem scrM_any (v : Value) (l : List ByteArray) (row col : Int) (e : ByteArray) (w : World) (hl : l.length ≤ maxLen) (hz : ∀ r ∈ l, r.size ≤ maxLen) (he : e.size ≤ maxLen) (hv : SliceIs w v l) :
    Calls Try.prog 10 #[.agg #[v, .int .i64 row, .int .i64 col, .string e]] w fun r w' => r = .returned (.bool (decide (ScrR l row col e))) ∧ Below w.heap.size w w' := by
  have HB0 : Hid (∀ o, Below w.heap.size w (w.alloc o)) := fun o => (Below.refl _ _).alloc (Nat.le_refl _) o
  by_cases hn : l = []
  · obtain ⟨p, cap, rfl⟩ := hv.shape
    rw [decide_eq_false (fun h : ScrR l row col e => h.1 hn)]
    subst hn
    clear hv
    go_enter Try.func10, Try.ntmps10
    go_wp2
    go_ret
    exact ⟨rfl, HB0.out _⟩
  · obtain ⟨b, off, cap, hb, rfl, hR⟩ := slice_row hv hn
    have hpos : 0 < l.length := List.length_pos_iff.2 hn
    have h9 := size_le hz hpos
    clear hv
    unfold maxLen at hl
    by_cases h2 : SizeR (wideOf l) l.length
    · have HR : Hid (∀ u, Below w.heap.size w u → ∀ k, k < l.length → u.cell? ⟨b, off + k, none⟩ = some (.string (l.getD k ⟨#[]⟩))) := fun u hu k hk => (hR.below hu hb) k hk
      have HZ : Hid (∀ k, k < l.length → (l.getD k ⟨#[]⟩).size ≤ 9223372036854775807) := fun k hk => size_le hz hk
      have c0 : ∀ o, (w.alloc o).cell? ⟨b, off, none⟩ = some (.string (l.getD 0 ⟨#[]⟩)) := fun o => HR.out _ (HB0.out o) 0 hpos
      have hs := sizeM_any (wideOf l) l.length
      rw [decide_eq_true h2] at hs
      have HH : Hid (SizeR (wideOf l) l.length) := h2
      unfold wideOf at hs
      have hlz : ((l.length : Int) == 0) = false := by simp; omega
      obtain ⟨n, hnl⟩ : ∃ n, n = l.length := ⟨_, rfl⟩
      obtain ⟨x, hx⟩ : ∃ x, x = l.getD 0 ⟨#[]⟩ := ⟨_, rfl⟩
      have HX : Hid (x = l.getD 0 ⟨#[]⟩) := hx
      have HN : Hid (n = l.length) := hnl
      rw [← hx] at c0 hs h9
      rw [← hnl] at hs hl hlz hpos ⊢
      clear hR hz hx hnl h2
      go_enter Try.func10, Try.ntmps10
      go_wp2_with (go_at_call 32; (with_reducible refine (hs _).mono ?_); rintro r w' ⟨rfl, hw'⟩; obtain rfl := hw'.symm)
      clear hs
      obtain ⟨v0, hv0⟩ : ∃ v0, v0 = Value.slice (some ⟨b, off, none⟩) n cap := ⟨_, rfl⟩
      have HI0 : Hid (InB w (.slice (some ⟨b, off, none⟩) n cap) row col e (w.alloc (.cells #[.slice (some ⟨b, off, none⟩) n cap, .int .i64 row, .int .i64 col, .string e] 27))) := InB.new
      generalize w.alloc (.cells #[.slice (some ⟨b, off, none⟩) n cap, .int .i64 row, .int .i64 col, .string e] 27) = W at *
      clear c0 hv0 v0 HB0
      go_loopw [4] (fun i u => ∃ k : Nat, k ≤ n ∧ i = .int .i64 k ∧ Hid (InB w (.slice (some ⟨b, off, none⟩) n cap) row col e u) ∧ Hid (Rows l k)) (fun i _ => n - (intOf i).toNat)
      case atStart => exact ⟨0, Nat.zero_le _, rfl, HI0, Rows.zero l⟩
      case round =>
        clear HI0
        obtain ⟨k, hk, rfl, HI, HG⟩ := hrel
        by_cases hlt : k < n
        · have hcell := HR.out wr HI.out.1 k (by rw [← HN.out]; exact hlt)
          have hc00 := HR.out wr HI.out.1 0 (by rw [← HN.out]; exact hpos)
          rw [Nat.add_zero, ← HX.out] at hc00
          have hcr := HI.out.rows
          have hki : (k : Int) < (n : Int) := by omega
          have hk0 : (0 : Int) ≤ (k : Int) := by omega
          have hn0 : (0 : Int) < (n : Int) := by omega
          have hy9 := HZ.out k (by rw [← HN.out]; exact hlt)
          have HS : Hid ((l.getD k ⟨#[]⟩).size = x.size → AllB prn (l.getD k ⟨#[]⟩) → Rows l (k + 1)) := fun h1 h2 => HG.out.succ (by rw [h1, HX.out]; rfl) h2
          have HF : Hid (¬ ((l.getD k ⟨#[]⟩).size = x.size ∧ AllB prn (l.getD k ⟨#[]⟩)) → decide (ScrR l row col e) = false) := fun h => decide_eq_false (fun h' => h (by
            have := h'.2.2.1 k (by rw [← HN.out]; exact hlt)
            rw [HX.out]; exact this))
          have ha := fun u => plainM_any (l.getD k ⟨#[]⟩) u (by unfold maxLen; exact Nat.le_trans hy9 (by decide))
          generalize l.getD k ⟨#[]⟩ = y at *
          clear HR HZ HG
          by_cases hy : y.size = x.size
          · have e1 : ((y.size : Int) != (x.size : Int)) = false := by simp [hy]
            by_cases hp : AllB prn y
            · have HQ : Hid (Rows l (k + 1)) := HS.out hy hp
              rw [decide_eq_true hp] at ha
              clear HS HF hp hy
              go_wp2_with fail
              go_quiet ((go_at_call 33; refine Calls.quiet_of_same (ha _)))
              go_wp2
              exact ⟨⟨k + 1, by omega, by go_num, HI.out.drewN _, HQ⟩, by simp [intOf]; omega⟩
            · have HQ : Hid (decide (ScrR l row col e) = false) := HF.out (fun h => hp h.2)
              rw [decide_eq_false hp] at ha
              clear HS HF hp hy
              go_wp2_with fail
              go_quiet ((go_at_call 33; refine Calls.quiet_of_same (ha _)))
              go_wp2
              go_ret
              exact ⟨ret_b HQ.out.symm, (HI.out.drewN _).1⟩
          · have e1 : ((y.size : Int) != (x.size : Int)) = true := by simp; omega
            have HQ : Hid (decide (ScrR l row col e) = false) := HF.out (fun h => hy h.1)
            clear HS HF hy ha
            go_wp2_with fail
            go_quiet (fail)
            go_wp2
            go_ret
            exact ⟨ret_b HQ.out.symm, (HI.out.drewN _).1⟩
        · obtain rfl : k = n := by omega
          have hcs := HI.out.cells
          obtain ⟨hc1, hc2, hc3⟩ := hcs
          have hcr := HI.out.rows
          have hc00 := HR.out wr HI.out.1 0 (by rw [← HN.out]; exact hpos)
          rw [Nat.add_zero, ← HX.out] at hc00
          have HP : Hid ((0 ≤ row ∧ row ≤ (k : Int) - 1) → (0 ≤ col ∧ col ≤ (x.size : Int)) → decide (ScrR l row col e) = decide (EscR e)) := fun h1 h2' => by
            rw [decide_eq_decide]
            refine ⟨fun h => h.2.2.2.2.2, fun h => ⟨hn, ?_, ?_, ?_, ?_, h⟩⟩
            · exact HH.out
            · rw [← HN.out]; exact HG.out
            · rw [← HN.out]; exact h1
            · have := h2'; rwa [HX.out] at this
          have HF1 : Hid (¬ (0 ≤ row ∧ row ≤ (k : Int) - 1) → decide (ScrR l row col e) = false) := fun h => decide_eq_false (fun h' => h (by rw [HN.out]; exact h'.2.2.2.1))
          have HF2 : Hid (¬ (0 ≤ col ∧ col ≤ (x.size : Int)) → decide (ScrR l row col e) = false) := fun h => decide_eq_false (fun h' => h (by rw [HX.out]; exact h'.2.2.2.2.1))
          have hE := fun u => escM_any e u he
          have hw1 := is_any row 0 ((k : Int) - 1)
          have hw2 := is_any col 0 (x.size : Int)
          have e2 : IntKind.i64.wrap ((k : Int) - 1) = (k : Int) - 1 := by rw [IntKind.wrap_i64]; omega
          clear HR HZ HG
          by_cases h1 : 0 ≤ row ∧ row ≤ (k : Int) - 1
          · rw [decide_eq_true h1] at hw1
            by_cases h2' : 0 ≤ col ∧ col ≤ (x.size : Int)
            · rw [decide_eq_true h2'] at hw2
              have HQ : Hid (decide (ScrR l row col e) = decide (EscR e)) := HP.out h1 h2'
              clear HP HF1 HF2 h1 h2'
              go_wp2_with fail
              go_quiet ((first | (go_at_call 34; with_reducible refine Calls.quiet_of_same (hw1 _)) | (go_at_call 34; with_reducible refine Calls.quiet_of_same (hw2 _)) | (go_at_call 35; with_reducible refine Calls.quiet_of_same (hE _))))
              go_wp2
              go_ret
              exact ⟨ret_b HQ.out.symm, (HI.out.drewN _).1⟩
            · rw [decide_eq_false h2'] at hw2
              have HQ : Hid (decide (ScrR l row col e) = false) := HF2.out h2'
              clear HP HF1 HF2 h1 h2'
              go_wp2_with fail
              go_quiet ((first | (go_at_call 34; with_reducible refine Calls.quiet_of_same (hw1 _)) | (go_at_call 34; with_reducible refine Calls.quiet_of_same (hw2 _)) | (go_at_call 35; with_reducible refine Calls.quiet_of_same (hE _))))
              go_wp2
              go_ret
              exact ⟨ret_b HQ.out.symm, (HI.out.drewN _).1⟩
          · rw [decide_eq_false h1] at hw1
            have HQ : Hid (decide (ScrR l row col e) = false) := HF1.out h1
            clear HP HF1 HF2 h1
            go_wp2_with fail
            go_quiet ((first | (go_at_call 34; with_reducible refine Calls.quiet_of_same (hw1 _)) | (go_at_call 34; with_reducible refine Calls.quiet_of_same (hw2 _)) | (go_at_call 35; with_reducible refine Calls.quiet_of_same (hE _))))
            go_wp2
            go_ret
            exact ⟨ret_b HQ.out.symm, (HI.out.drewN _).1⟩
    · have c0 : ∀ o, (w.alloc o).cell? ⟨b, off, none⟩ = some (.string (l.getD 0 ⟨#[]⟩)) := fun o => (hR.below (HB0.out o) hb) 0 hpos
      have HRet : Hid (decide (ScrR l row col e) = false) := decide_eq_false (fun h => h2 h.2.1)
      have hs := sizeM_any (wideOf l) l.length
      rw [decide_eq_false h2] at hs
      unfold wideOf at hs
      have hlz : ((l.length : Int) == 0) = false := by simp; omega
      clear hR h2 hz
      generalize l.getD 0 ⟨#[]⟩ = x at *
      have d := decide (EscR e)
      go_enter Try.func10, Try.ntmps10
      go_wp2_with (go_at_call 32; (with_reducible refine (hs _).mono ?_); rintro r w' ⟨rfl, hw'⟩; obtain rfl := hw'.symm)
      go_ret
      exact ⟨ret_b HRet.out.symm, HB0.out _⟩
end Go.Proofs.Ytikkohecanmefaa.sc
