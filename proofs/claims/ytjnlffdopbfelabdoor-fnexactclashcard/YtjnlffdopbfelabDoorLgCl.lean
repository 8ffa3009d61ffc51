/-
  The program's macText and slices.Equal over texts: what plain functions tell; no old block turns. No condition.
-/
import Derived.Test.YtjnlffdopbfelabDoorLgI0
namespace Go.Proofs.YtjnlffdopbfelabDoor.li
open Go.ChangeShapes Go.WideShapes Go.ChangeAt Go.RowKit
open Go.Proofs.YtjnlffdopbfelabDoor.wi (heap_lt calls_w wp_w)
open Go.Proofs.YtjnlffdopbfelabDoor.lg Go.Proofs.YtjnlffdopbfelabDoor.ss
open Go.Proofs.YtjnlffdopbfelabDoor.jo (joined_any joinB_two total_append total_one)
set_option linter.unusedVariables false
set_option linter.unusedSimpArgs false

theorem joined2_at (s t : ByteArray) (o : Obj) (w : World) (h : s.size + t.size ≤ 1099511627776) :
    Calls Tryd.prog 34 #[.slice (some ⟨w.heap.size + 1, 0, none⟩) 2 2] ((w.alloc o).alloc (.cells #[.string s, .string t] 9)) fun e w' => e = .returned (.string (s ++ t)) ∧ Below w.heap.size w w' := by
  have hb : Below w.heap.size w ((w.alloc o).alloc (.cells #[.string s, .string t] 9)) := ((Below.refl _ _).alloc (Nat.le_refl _) _).alloc (by simp) _
  refine (joined_any [s, t] (w.heap.size + 1) 2 ((w.alloc o).alloc (.cells #[.string s, .string t] 9)) (by simp) (by simp) (by rw [show [s, t] = [s] ++ [t] from rfl, total_append, total_one, total_one]; omega) (fun i hi => ?_)).mono ?_
  · have h2 := heap_alloc_new (w.alloc o) (.cells #[.string s, .string t] 9)
    rw [World.size_alloc] at h2
    match i, hi with
    | 0, _ => simp only [World.cell?, h2]; rfl
    | 1, _ => simp only [World.cell?, h2]; rfl
  · rintro e w' ⟨rfl, hb2⟩
    rw [joinB_two]
    exact ⟨rfl, hb.trans (hb2.mono hb.size)⟩
set_option maxRecDepth 20000 in
set_option maxHeartbeats 8000000 in
theorem macText_any (r a c : ByteArray) (w : World) (h : a.size + r.size ≤ 8000) :
    Calls Tryd.prog 28 #[.agg #[.string r, .string a, .string c]] w fun e w' => e = .returned (.string (a ++ r)) ∧ Below w.heap.size w w' := by
  have HJ : Hid (∀ o, Calls Tryd.prog 34 #[.slice (some ⟨w.heap.size + 1, 0, none⟩) 2 2] ((w.alloc o).alloc (.cells #[.string a, .string r] 9)) fun e w' => e = .returned (.string (a ++ r)) ∧ Below w.heap.size w w') := fun o => joined2_at a r o w (by omega)
  generalize a ++ r = x at *
  go_enter Tryd.func28, Tryd.ntmps28
  go_wp2_with (go_at_call 34; (refine (HJ.out _).mono ?_); rintro e w1 ⟨rfl, hb1⟩)
  go_ret
  exact ⟨rfl, hb1⟩
set_option maxRecDepth 20000 in
set_option maxHeartbeats 8000000 in
theorem equal_any (va vb : Value) (a b : List ByteArray) (w : World) (ha : a.length ≤ maxLen) (hb : b.length ≤ maxLen) (hva : SliceIs w va a) (hvb : SliceIs w vb b) :
    Calls Tryd.prog 19 #[va, vb] w fun e w' => e = .returned (.bool (decide (a = b))) ∧ Below w.heap.size w w' := by
  have HB : Hid (Below w.heap.size w w) := Below.refl _ _
  unfold maxLen at ha hb
  by_cases hlen : a.length = b.length
  · by_cases h0 : a.length = 0
    · have e1 : a = [] := List.eq_nil_of_length_eq_zero h0
      have e2 : b = [] := List.eq_nil_of_length_eq_zero (by omega)
      obtain ⟨pa, ca, rfl⟩ := hva.shape
      obtain ⟨pb, cb, rfl⟩ := hvb.shape
      rw [← hlen, h0, decide_eq_true (e1.trans e2.symm)]
      clear hva hvb
      go_enter Tryd.func19, Tryd.ntmps19
      go_wp2
      refine wp_loop_rounds 1 ?_
      rw [rounds_succ]
      go_wp2
      go_ret
      exact ⟨rfl, HB.out⟩
    · obtain ⟨ba, oa, ca, hba, rfl, hRa⟩ : ∃ b off cap, b < w.heap.size ∧ va = .slice (some ⟨b, off, none⟩) a.length cap ∧ Row w b off a := by
        rcases hva with ⟨p, cap, he, _⟩ | h
        · rw [he] at h0; simp at h0
        · exact h
      obtain ⟨bb, ob, cb, hbb, rfl, hRb⟩ : ∃ b' off cap, b' < w.heap.size ∧ vb = .slice (some ⟨b', off, none⟩) b.length cap ∧ Row w b' off b := by
        rcases hvb with ⟨p, cap, he, _⟩ | h
        · rw [he] at hlen; exact absurd hlen h0
        · exact h
      rw [← hlen]
      obtain ⟨n, hn⟩ : ∃ n, n = a.length := ⟨_, rfl⟩
      have HRa : Hid (∀ k, k < n → w.cell? ⟨ba, oa + k, none⟩ = some (.string (a.getD k ⟨#[]⟩))) := fun k hk => hRa k (by omega)
      have HRb : Hid (∀ k, k < n → w.cell? ⟨bb, ob + k, none⟩ = some (.string (b.getD k ⟨#[]⟩))) := fun k hk => hRb k (by omega)
      have HNo : Hid (∀ k, k < n → ¬ a.getD k ⟨#[]⟩ = b.getD k ⟨#[]⟩ → decide (a = b) = false) := fun k hk h => decide_eq_false fun e => h (by rw [e])
      have HYes : Hid ((∀ j, j < n → a.getD j ⟨#[]⟩ = b.getD j ⟨#[]⟩) → decide (a = b) = true) := fun h => decide_eq_true (by
        apply List.ext_getElem hlen
        intro j h1 h2
        have := h j (by omega)
        rwa [getD_at h1, getD_at h2] at this)
      generalize decide (a = b) = d at *
      rw [← hn] at ha ⊢
      clear hva hvb hRa hRb hlen h0 hn hb
      go_enter Tryd.func19, Tryd.ntmps19
      go_wp2
      go_loopw [5, 13] (fun _ i u => ∃ k : Nat, k ≤ n ∧ i = .int .i64 k ∧ Hid (∀ j, j < k → a.getD j ⟨#[]⟩ = b.getD j ⟨#[]⟩) ∧ Hid (Below w.heap.size w u)) (fun _ i _ => n - (intOf i).toNat)
      case atStart => exact ⟨0, Nat.zero_le _, rfl, fun j hj => by omega, HB⟩
      case round =>
        obtain ⟨k, hk, rfl, HE, HU⟩ := hrel
        by_cases hlt : k < n
        · have c1 : wr.cell? ⟨ba, oa + k, none⟩ = some (.string (a.getD k ⟨#[]⟩)) := (HU.out.cell (p := ⟨ba, oa + k, none⟩) hba).trans (HRa.out k hlt)
          have c2 : wr.cell? ⟨bb, ob + k, none⟩ = some (.string (b.getD k ⟨#[]⟩)) := (HU.out.cell (p := ⟨bb, ob + k, none⟩) hbb).trans (HRb.out k hlt)
          have HNk := HNo.out k hlt
          by_cases he : a.getD k ⟨#[]⟩ = b.getD k ⟨#[]⟩
          · have HE2 : Hid (∀ j, j < k + 1 → a.getD j ⟨#[]⟩ = b.getD j ⟨#[]⟩) := fun j hj => by
              by_cases e : j = k
              · rw [e]; exact he
              · exact HE.out j (by omega)
            have HU2 : Hid (Below w.heap.size w wr.drew) := HU.out.drew
            rw [← he] at c2
            clear HNk he HE HNo HYes HRa HRb HU
            generalize a.getD k ⟨#[]⟩ = x at c1 c2
            have q : (x.toList == x.toList) = true := by simp
            go_wp2
            go_region_with (fail)
            all_goals
              go_wp2
              exact ⟨⟨k + 1, by omega, by go_num, HE2, HU2⟩, by simp [intOf]; omega⟩
          · have hd := HNk he
            have HU2 : Hid (Below w.heap.size w wr.drew) := HU.out.drew
            have q := beqF he
            clear HNk he HE HNo HYes HRa HRb HU
            generalize a.getD k ⟨#[]⟩ = x at *
            generalize b.getD k ⟨#[]⟩ = y at *
            go_wp2
            go_region_with (fail)
            all_goals
              go_wp2
              go_ret
              exact ⟨by rw [hd]; rfl, HU2.out⟩
        · obtain rfl : k = n := by omega
          have hd := HYes.out HE.out
          clear HE HNo HYes HRa HRb
          go_wp2
          go_ret
          exact ⟨by rw [hd]; rfl, HU.out⟩
  · have d : ((a.length : Int) != (b.length : Int)) = true := by simp; omega
    rw [decide_eq_false (fun e => hlen (by rw [e]))]
    obtain ⟨pa, ca, rfl⟩ := hva.shape
    obtain ⟨pb, cb, rfl⟩ := hvb.shape
    generalize a.length = n at *
    generalize b.length = m at *
    clear hva hvb hlen
    go_enter Tryd.func19, Tryd.ntmps19
    go_wp2
    go_ret
    exact ⟨rfl, HB.out⟩
end Go.Proofs.YtjnlffdopbfelabDoor.li
