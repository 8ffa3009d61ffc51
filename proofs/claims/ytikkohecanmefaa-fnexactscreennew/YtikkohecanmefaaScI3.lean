/-
  The program's ScreenRight at every screen: it tells what the plain condition tells; no old block turns. No condition.
-/
import Derived.Test.YtikkohecanmefaaSc2
namespace Go.Proofs.Ytikkohecanmefaa.sc
open Go.ChangeShapes Go.WideShapes Go.ChangeAt Go.RowKit
open Go.Proofs.Ytikkohecanmefaa.ss (beqT beqF Row SliceIs)
open Classical
set_option linter.unusedVariables false

theorem size_le {s : List ByteArray} (hz : ∀ r ∈ s, r.size ≤ maxLen) {k : Nat} (hk : k < s.length) : (s.getD k ⟨#[]⟩).size ≤ 9223372036854775807 := by
  rw [List.getD_eq_getElem?_getD, List.getElem?_eq_getElem hk]
  have := hz _ (List.getElem_mem hk)
  unfold maxLen at this
  exact Nat.le_trans this (by decide)
theorem slice_row {w : World} {v : Value} {l : List ByteArray} (h : SliceIs w v l) (hl : l ≠ []) : ∃ b off cap, b < w.heap.size ∧ v = .slice (some ⟨b, off, none⟩) l.length cap ∧ Row w b off l := by
  rcases h with ⟨p, cap, rfl, rfl⟩ | h
  · exact absurd rfl hl
  · exact h
/-- what is known at work: the argument's block -/
def InB (w : World) (v : Value) (row col : Int) (e : ByteArray) (u : World) : Prop := Below w.heap.size w u ∧ u.heap[w.heap.size]? = some (.cells #[v, .int .i64 row, .int .i64 col, .string e] 27 (0, 0))
theorem InB.new {w : World} {v : Value} {row col : Int} {e : ByteArray} : InB w v row col e (w.alloc (.cells #[v, .int .i64 row, .int .i64 col, .string e] 27)) := ⟨(Below.refl _ _).alloc (Nat.le_refl _) _, heap_alloc_new _ _⟩
theorem InB.up {w u u' : World} {v : Value} {row col : Int} {e : ByteArray} (h : InB w v row col e u) (hb : Below u.heap.size u u') : InB w v row col e u' := ⟨h.1.trans (hb.mono h.1.size), (hb.block _ (wi.heap_lt h.2)).trans h.2⟩
theorem InB.cells {w u : World} {v : Value} {row col : Int} {e : ByteArray} (h : InB w v row col e u) : u.cell? ⟨w.heap.size, 1, none⟩ = some (.int .i64 row) ∧ u.cell? ⟨w.heap.size, 2, none⟩ = some (.int .i64 col) ∧ u.cell? ⟨w.heap.size, 3, none⟩ = some (.string e) := by
  refine ⟨?_, ?_, ?_⟩ <;> simp [World.cell?, h.2]
/-- the rows so far are right -/
def Rows (l : List ByteArray) (k : Nat) : Prop := ∀ j, j < k → (l.getD j ⟨#[]⟩).size = wideOf l ∧ AllB prn (l.getD j ⟨#[]⟩)
theorem Rows.zero (l : List ByteArray) : Rows l 0 := fun j hj => by omega
theorem Rows.succ {l : List ByteArray} {k : Nat} (h : Rows l k) (h1 : (l.getD k ⟨#[]⟩).size = wideOf l) (h2 : AllB prn (l.getD k ⟨#[]⟩)) : Rows l (k + 1) := fun j hj => by
  by_cases e : j = k
  · subst e; exact ⟨h1, h2⟩
  · exact h j (by omega)
set_option maxHeartbeats 8000000 in
theorem scrI_any (v : Value) (l : List ByteArray) (row col : Int) (e : ByteArray) (w : World) (hl : l.length ≤ maxLen) (hz : ∀ r ∈ l, r.size ≤ maxLen) (he : e.size ≤ maxLen) (hv : SliceIs w v l) :
    Calls Try.prog 12 #[.agg #[v, .int .i64 row, .int .i64 col, .string e]] w fun r w' => r = .returned (.bool (decide (ScrR l row col e))) ∧ Below w.heap.size w w' := by
  have HB0 : Hid (∀ o, Below w.heap.size w (w.alloc o)) := fun o => (Below.refl _ _).alloc (Nat.le_refl _) o
  by_cases hn : l = []
  · obtain ⟨p, cap, rfl⟩ := hv.shape
    rw [decide_eq_false (fun h : ScrR l row col e => h.1 hn)]
    subst hn
    clear hv
    go_enter Try.func12, Try.ntmps12
    go_wp2
    go_ret
    exact ⟨rfl, HB0.out _⟩
  · obtain ⟨b, off, cap, hb, rfl, hR⟩ := slice_row hv hn
    have hpos : 0 < l.length := List.length_pos_iff.2 hn
    have h9 := size_le hz hpos
    clear hv
    unfold maxLen at hl
    by_cases h2 : SizeR (wideOf l) l.length
    · have HR : Hid (∀ u, Below w.heap.size w u → ∀ k, k < l.length → u.cell? ⟨b, off + k, none⟩ = some (.string (l.getD k ⟨#[]⟩))) := fun u hu k hk => (hR.below hu hb) k hk
      have HZ : Hid (∀ k, k < l.length → (l.getD k ⟨#[]⟩).size ≤ 9223372036854775807) := fun k hk => size_le hz hk
      have c0 : ∀ o, (w.alloc o).cell? ⟨b, off, none⟩ = some (.string (l.getD 0 ⟨#[]⟩)) := fun o => HR.out _ (HB0.out o) 0 hpos
      have hs := sizeI_any (wideOf l) l.length
      rw [decide_eq_true h2] at hs
      have HH : Hid (SizeR (wideOf l) l.length) := h2
      unfold wideOf at hs
      have hlz : ((l.length : Int) == 0) = false := by simp; omega
      obtain ⟨n, hnl⟩ : ∃ n, n = l.length := ⟨_, rfl⟩
      obtain ⟨x, hx⟩ : ∃ x, x = l.getD 0 ⟨#[]⟩ := ⟨_, rfl⟩
      have HX : Hid (x = l.getD 0 ⟨#[]⟩) := hx
      have HN : Hid (n = l.length) := hnl
      rw [← hx] at c0 hs h9
      rw [← hnl] at hs hl hlz hpos ⊢
      clear hR hz hx hnl h2
      go_enter Try.func12, Try.ntmps12
      go_wp2_with (go_at_call 37; (with_reducible refine (hs _).mono ?_); rintro r w' ⟨rfl, hw'⟩; obtain rfl := hw'.symm)
      clear hs
      obtain ⟨v0, hv0⟩ : ∃ v0, v0 = Value.slice (some ⟨b, off, none⟩) n cap := ⟨_, rfl⟩
      have HI0 : Hid (InB w (.slice (some ⟨b, off, none⟩) n cap) row col e (w.alloc (.cells #[.slice (some ⟨b, off, none⟩) n cap, .int .i64 row, .int .i64 col, .string e] 27))) := InB.new
      generalize w.alloc (.cells #[.slice (some ⟨b, off, none⟩) n cap, .int .i64 row, .int .i64 col, .string e] 27) = W at *
      clear c0 hv0 v0 HB0
      go_loopw [24] (fun i u => ∃ k : Nat, k ≤ n ∧ i = .int .i64 k ∧ Hid (InB w (.slice (some ⟨b, off, none⟩) n cap) row col e u) ∧ Hid (Rows l k)) (fun i _ => n - (intOf i).toNat)
      case atStart => exact ⟨0, Nat.zero_le _, rfl, HI0, Rows.zero l⟩
      case round =>
        clear HI0
        obtain ⟨k, hk, rfl, HI, HG⟩ := hrel
        by_cases hlt : k < n
        · have hcell := HR.out wr HI.out.1 k (by rw [← HN.out]; exact hlt)
          have hy9 := HZ.out k (by rw [← HN.out]; exact hlt)
          have HS : Hid ((l.getD k ⟨#[]⟩).size = x.size → AllB prn (l.getD k ⟨#[]⟩) → Rows l (k + 1)) := fun h1 h2 => HG.out.succ (by rw [h1, HX.out]; rfl) h2
          have HF : Hid (¬ ((l.getD k ⟨#[]⟩).size = x.size ∧ AllB prn (l.getD k ⟨#[]⟩)) → decide (ScrR l row col e) = false) := fun h => decide_eq_false (fun h' => h (by
            have := h'.2.2.1 k (by rw [← HN.out]; exact hlt)
            rw [HX.out]; exact this))
          have ha := all_prn (l.getD k ⟨#[]⟩) wr
          generalize l.getD k ⟨#[]⟩ = y at *
          clear HR HZ HG
          by_cases hy : y.size = x.size
          · have e1 : ((y.size : Int) != (x.size : Int)) = false := by simp [hy]
            by_cases hp : AllB prn y
            · have HQ : Hid (Rows l (k + 1)) := HS.out hy hp
              rw [decide_eq_true hp] at ha
              clear HS HF hp hy
              go_wp2_with (go_at_call 38; (with_reducible refine ha.mono ?_); rintro r w3 ⟨rfl, hb3⟩)
              exact ⟨⟨k + 1, by omega, by go_num, HI.out.up hb3, HQ⟩, by simp [intOf]; omega⟩
            · have HQ : Hid (decide (ScrR l row col e) = false) := HF.out (fun h => hp h.2)
              rw [decide_eq_false hp] at ha
              clear HS HF hp hy
              go_wp2_with (go_at_call 38; (with_reducible refine ha.mono ?_); rintro r w3 ⟨rfl, hb3⟩)
              go_ret
              exact ⟨ret_b HQ.out.symm, (HI.out.up hb3).1⟩
          · have e1 : ((y.size : Int) != (x.size : Int)) = true := by simp; omega
            have HQ : Hid (decide (ScrR l row col e) = false) := HF.out (fun h => hy h.1)
            clear HS HF hy ha
            go_wp2_with (go_at_call 38; fail)
            go_ret
            exact ⟨ret_b HQ.out.symm, HI.out.1⟩
        · obtain rfl : k = n := by omega
          have hcs := HI.out.cells
          obtain ⟨hc1, hc2, hc3⟩ := hcs
          have HP : Hid ((0 ≤ row ∧ row ≤ (k : Int) - 1) → (0 ≤ col ∧ col ≤ (x.size : Int)) → decide (ScrR l row col e) = decide (EscR e)) := fun h1 h2' => by
            rw [decide_eq_decide]
            refine ⟨fun h => h.2.2.2.2.2, fun h => ⟨hn, ?_, ?_, ?_, ?_, h⟩⟩
            · exact HH.out
            · rw [← HN.out]; exact HG.out
            · rw [← HN.out]; exact h1
            · have := h2'; rwa [HX.out] at this
          have HF1 : Hid (¬ (0 ≤ row ∧ row ≤ (k : Int) - 1) → decide (ScrR l row col e) = false) := fun h => decide_eq_false (fun h' => h (by rw [HN.out]; exact h'.2.2.2.1))
          have HF2 : Hid (¬ (0 ≤ col ∧ col ≤ (x.size : Int)) → decide (ScrR l row col e) = false) := fun h => decide_eq_false (fun h' => h (by rw [HX.out]; exact h'.2.2.2.2.1))
          have hE := escI_any e wr he
          have hw1 := within_any row 0 ((k : Int) - 1)
          have hw2 := within_any col 0 (x.size : Int)
          have e2 : IntKind.i64.wrap ((k : Int) - 1) = (k : Int) - 1 := by rw [IntKind.wrap_i64]; omega
          clear HR HZ HG
          by_cases h1 : 0 ≤ row ∧ row ≤ (k : Int) - 1
          · rw [decide_eq_true h1] at hw1
            by_cases h2' : 0 ≤ col ∧ col ≤ (x.size : Int)
            · rw [decide_eq_true h2'] at hw2
              have HQ : Hid (decide (ScrR l row col e) = decide (EscR e)) := HP.out h1 h2'
              clear HP HF1 HF2 h1 h2'
              go_wp2_with (first | (go_at_call 40; (with_reducible refine (hw1 _).mono ?_); rintro r w3 ⟨rfl, hw3⟩; obtain rfl := hw3.symm) | (go_at_call 40; (with_reducible refine (hw2 _).mono ?_); rintro r w3 ⟨rfl, hw3⟩; obtain rfl := hw3.symm) | (go_at_call 41; (with_reducible refine hE.mono ?_); rintro r w3 ⟨rfl, hb3⟩))
              go_ret
              exact ⟨ret_b HQ.out.symm, (HI.out.up hb3).1⟩
            · rw [decide_eq_false h2'] at hw2
              have HQ : Hid (decide (ScrR l row col e) = false) := HF2.out h2'
              clear HP HF1 HF2 h1 h2'
              go_wp2_with (first | (go_at_call 40; (with_reducible refine (hw1 _).mono ?_); rintro r w3 ⟨rfl, hw3⟩; obtain rfl := hw3.symm) | (go_at_call 40; (with_reducible refine (hw2 _).mono ?_); rintro r w3 ⟨rfl, hw3⟩; obtain rfl := hw3.symm) | (go_at_call 41; (with_reducible refine hE.mono ?_); rintro r w3 ⟨rfl, hb3⟩))
              go_ret
              exact ⟨ret_b HQ.out.symm, HI.out.1⟩
          · rw [decide_eq_false h1] at hw1
            have HQ : Hid (decide (ScrR l row col e) = false) := HF1.out h1
            clear HP HF1 HF2 h1
            go_wp2_with (first | (go_at_call 40; (with_reducible refine (hw1 _).mono ?_); rintro r w3 ⟨rfl, hw3⟩; obtain rfl := hw3.symm) | (go_at_call 40; (with_reducible refine (hw2 _).mono ?_); rintro r w3 ⟨rfl, hw3⟩; obtain rfl := hw3.symm) | (go_at_call 41; (with_reducible refine hE.mono ?_); rintro r w3 ⟨rfl, hb3⟩))
            go_ret
            exact ⟨ret_b HQ.out.symm, HI.out.1⟩
    · have c0 : ∀ o, (w.alloc o).cell? ⟨b, off, none⟩ = some (.string (l.getD 0 ⟨#[]⟩)) := fun o => (hR.below (HB0.out o) hb) 0 hpos
      have HRet : Hid (decide (ScrR l row col e) = false) := decide_eq_false (fun h => h2 h.2.1)
      have hs := sizeI_any (wideOf l) l.length
      rw [decide_eq_false h2] at hs
      unfold wideOf at hs
      have hlz : ((l.length : Int) == 0) = false := by simp; omega
      clear hR h2 hz
      generalize l.getD 0 ⟨#[]⟩ = x at *
      have d := decide (EscR e)
      go_enter Try.func12, Try.ntmps12
      go_wp2_with (go_at_call 37; (with_reducible refine (hs _).mono ?_); rintro r w' ⟨rfl, hw'⟩; obtain rfl := hw'.symm)
      go_ret
      exact ⟨ret_b HRet.out.symm, HB0.out _⟩
end Go.Proofs.Ytikkohecanmefaa.sc
