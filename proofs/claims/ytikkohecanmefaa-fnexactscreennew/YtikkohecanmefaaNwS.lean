/-
  The model's ScreenNew at every size: a blank screen, or a code. No condition.
-/
import Derived.Test.YtikkohecanmefaaNwM
namespace Go.Proofs.Ytikkohecanmefaa.sc
open Go.ChangeShapes Go.WideShapes Go.ChangeAt Go.RowKit
open Go.Proofs.Ytikkohecanmefaa.ss (beqT beqF Row SliceIs infoS)
open Go.Proofs.Ytikkohecanmefaa.ot
open Go.Proofs.Ytikkohecanmefaa.rp (fitB)
open Go.Proofs.Ytikkohecanmefaa.wi (heap_lt calls_w wp_w)
set_option linter.unusedVariables false
set_option linter.unusedSimpArgs false

theorem illM_any (c : Int) (w : World) : Calls Try.prog 43 #[.int .i64 c] w (ScrPost w [] 0 0 ⟨#[]⟩ c) := by
  have HB : Hid (∀ o, Below w.heap.size w (w.alloc o)) := fun o => (Below.refl _ _).alloc (Nat.le_refl _) o
  go_enter Try.func43, Try.ntmps43
  go_wp2
  exact bodyPost_ret (results_cell_row Try.results43 _ _ w.heap.size _ #[.slice none 0 0, .int .i64 0, .int .i64 0, .string ⟨#[]⟩, .int .i64 c] _ _ rfl (heap_alloc_new _ _) Try.underlying32 rfl infoO) rfl ⟨_, rfl, HB.out _, OwT.nil _ _⟩
/-- at work: the screen's block q bears the slice vq; the row v of these texts is the call's own -/
structure Wn (w : World) (q : Nat) (vq v : Value) (l : List ByteArray) (u : World) : Prop where
  bel : Below w.heap.size w u
  res : u.heap[w.heap.size]? = some (.cells #[.slice none 0 0, .int .i64 0, .int .i64 0, .string ⟨#[]⟩, .int .i64 0] 32 (0, 0))
  row : u.heap[q]? = some (.cells #[vq, .int .i64 0, .int .i64 0, .string ⟨#[]⟩] 27 (0, 0))
  own : OwT w.heap.size v l u
  far : w.heap.size < q
theorem Wn.up {w u u' : World} {q : Nat} {vq v : Value} {l : List ByteArray} (h : Wn w q vq v l u) (hb : Below u.heap.size u u') : Wn w q vq v l u' :=
  ⟨h.bel.trans (hb.mono h.bel.size), (hb.block _ (heap_lt h.res)).trans h.res, (hb.block _ (heap_lt h.row)).trans h.row, h.own.up hb, h.far⟩
theorem Wn.drew {w u : World} {q : Nat} {vq v : Value} {l : List ByteArray} (h : Wn w q vq v l u) : Wn w q vq v l u.drew := h.up ⟨rfl, rfl, rfl, Nat.le_refl _, fun _ _ => rfl⟩
theorem Wn.cell {w u : World} {q : Nat} {vq v : Value} {l : List ByteArray} (h : Wn w q vq v l u) : u.cell? ⟨q, 0, none⟩ = some vq := by simp [World.cell?, h.row]
theorem Wn.frozen {w u : World} {q : Nat} {vq v : Value} {l : List ByteArray} (h : Wn w q vq v l u) : u.frozen? ⟨q, 0, none⟩ = false := frozen_of_row _ _ _ _ _ h.row
theorem Wn.own' {w u : World} {q : Nat} {vq v : Value} {l : List ByteArray} {n k : Nat} (h : Wn w q vq v (szd l n k) u) : u.ownsRow w.heap.size 9 1 v k ((szd l n k).map Value.string) := by
  have := h.own
  unfold OwT at this
  rwa [szd_length] at this
theorem Wn.far' {w u : World} {q : Nat} {vq v : Value} {l : List ByteArray} (h : Wn w q vq v l u) : w.heap.size ≤ u.heap.size := h.bel.size
theorem Wn.shape {w u : World} {q : Nat} {vq v : Value} {l : List ByteArray} {n k : Nat} (h : Wn w q vq v (szd l n k) u) : ∃ p c, v = .slice p k c := by
  obtain ⟨p, c, hp⟩ := h.own.shape
  rw [szd_length] at hp
  exact ⟨p, c, hp⟩
theorem own_other2 {u : World} {base : Nat} {v : Value} {l : List ByteArray} (h : OwT base v l u) {q : Nat} {cs : Array Value} (hq : u.heap[q]? = some (.cells cs 32 (0, 0))) : v.ownBlock ≠ some q := by
  rcases h.2 with ⟨rfl, _⟩ | ⟨g, cap, cur, rfl, _, hg, _⟩
  · simp [Value.ownBlock]
  · intro e
    simp only [Value.ownBlock, Option.some.injEq] at e
    subst e
    rw [hg] at hq
    simp at hq
theorem Wn.app {w u u' : World} {q : Nat} {v v' : Value} {n k : Nat} (h : Wn w q v v (szd [] n k) u)
    (hA : la.After u w.heap.size 9 1 v (k + 1) ((szd [] n k).map Value.string ++ [.string (fitB ⟨#[]⟩ n)]) v' u') : Wn w q v v' (szd [] n (k + 1)) u' := by
  have hne := own_other h.own h.row
  have hne2 := own_other2 h.own h.res
  refine ⟨below_own h.bel hA.grown h.own' (Nat.le_refl _) h.bel.size, ?_, ?_, ?_, h.far⟩
  · exact (hA.grown.block _ (heap_lt h.res) (fun e => hne2 e.symm)).trans h.res
  · exact (hA.grown.block _ (heap_lt h.row) (fun e => hne e.symm)).trans h.row
  · have := hA.own
    show OwT _ _ (szd [] n k ++ [fitB ⟨#[]⟩ n]) _
    refine OwT.of1 ?_
    rw [szd_length]
    exact this
theorem Wn.store {w u : World} {q : Nat} {vq v : Value} {l : List ByteArray} (h : Wn w q vq v l u) : Wn w q v v l (u.setCell ⟨q, 0, none⟩ v) := by
  have hf := h.far
  refine ⟨h.bel.setCell (by simp; omega) _, ?_, ?_, ?_, hf⟩
  · rw [heap_setCell_other _ _ _ _ (by simp; omega)]; exact h.res
  · rw [heap_setCell_same _ _ _ _ _ _ h.row]; rfl
  · exact World.ownsRow.kept h.own (Go.Lib.grownBy_setCell u q 0 v) (.inr (own_other h.own h.row))
open Classical in
set_option maxHeartbeats 8000000 in
theorem newM_no (a b : Int) (w : World) (h : ¬ SizeR a b) : Calls Try.prog 14 #[.int .i64 a, .int .i64 b] w (ScrPost w [] 0 0 ⟨#[]⟩ 1) := by
  have hs := sizeM_any a b
  rw [decide_eq_false h] at hs
  have HB : Hid (∀ o, Below w.heap.size w (w.alloc o)) := fun o => (Below.refl _ _).alloc (Nat.le_refl _) o
  go_enter Try.func14, Try.ntmps14
  go_wp2_with (go_at_call 32; (with_reducible refine (hs _).mono ?_); rintro r w' ⟨rfl, hw'⟩; obtain rfl := hw'.symm)
  have hR0 : (w.alloc (.cells #[.slice none 0 0, .int .i64 0, .int .i64 0, .string ⟨#[]⟩, .int .i64 0] 32)).heap[w.heap.size]? = some (.cells #[.slice none 0 0, .int .i64 0, .int .i64 0, .string ⟨#[]⟩, .int .i64 0] 32 (0, 0)) := heap_alloc_new _ _
  refine calls_w (fun u => Below w.heap.size w u ∧ u.heap[w.heap.size]? = some (.cells #[.slice none 0 0, .int .i64 0, .int .i64 0, .string ⟨#[]⟩, .int .i64 0] 32 (0, 0))) ⟨HB.out _, hR0⟩ ?_
  clear hR0 HB
  rintro u ⟨hu, hR⟩
  refine (illM_any 1 u).mono ?_
  rintro r w1 ⟨v, rfl, hb, ho⟩
  have hR1 := (hb.block _ (heap_lt hR)).trans hR
  have hB1 : Below w.heap.size w w1 := hu.trans (hb.mono hu.size)
  obtain ⟨p, c, rfl⟩ := OwT.shape (l := []) ho
  have hne := own_other2 (l := []) ho hR1
  have r0 : w1.cell? ⟨w.heap.size, 0, none⟩ = some (.slice none 0 0) := by simp [World.cell?, hR1]
  have r1 : w1.cell? ⟨w.heap.size, 1, none⟩ = some (.int .i64 0) := by simp [World.cell?, hR1]
  have r2 : w1.cell? ⟨w.heap.size, 2, none⟩ = some (.int .i64 0) := by simp [World.cell?, hR1]
  have r3 : w1.cell? ⟨w.heap.size, 3, none⟩ = some (.string ⟨#[]⟩) := by simp [World.cell?, hR1]
  have r4 : w1.cell? ⟨w.heap.size, 4, none⟩ = some (.int .i64 0) := by simp [World.cell?, hR1]
  have g0 : ∀ k, w1.frozen? ⟨w.heap.size, k, none⟩ = false := fun k => frozen_of_row _ _ _ _ _ hR1
  have HF : Hid (ScrFin w [] (.slice p 0 c) w1) := ⟨hB1, hR1, la.own_le ho hu.size⟩
  clear hR hR1 hB1 hu hb ho
  go_wp2
  obtain ⟨d1, d2, d3⟩ := HF.out.done hne (.slice p 0 c) (.int .i64 0) (.int .i64 0) (.string ⟨#[]⟩) (.int .i64 1)
  exact bodyPost_ret (results_cell_row Try.results14 _ _ w.heap.size _ #[.slice p 0 c, .int .i64 0, .int .i64 0, .string ⟨#[]⟩, .int .i64 1] _ _ rfl d1 Try.underlying32 rfl infoO) rfl ⟨_, rfl, d2, d3⟩
open Classical in
set_option maxRecDepth 20000 in
set_option maxHeartbeats 8000000 in
theorem newM_yes (n high : Nat) (w : World) (h : SizeR n high) : Calls Try.prog 14 #[.int .i64 (n : Int), .int .i64 (high : Int)] w (ScrPost w (szd [] n high) 0 0 ⟨#[]⟩ 0) := by
  have hs := sizeM_any (n : Int) (high : Int)
  rw [decide_eq_true h] at hs
  go_enter Try.func14, Try.ntmps14
  go_wp2_with (go_at_call 32; (with_reducible refine (hs _).mono ?_); rintro r w' ⟨rfl, hw'⟩; obtain rfl := hw'.symm)
  have h1 : 1 ≤ n := by have := h.1; omega
  have h2 : n ≤ 20 := by have := h.1; omega
  have h6 : high ≤ 6 := by have := h.2; omega
  obtain ⟨i0, hi, hz0, hz1, hz2⟩ := info_parts infoS
  have W0 : Hid (Wn w (w.heap.size + 1) (.slice none 0 0) (.slice none 0 0) (szd [] n 0) ((w.alloc (.cells #[.slice none 0 0, .int .i64 0, .int .i64 0, .string ⟨#[]⟩, .int .i64 0] 32)).alloc (.cells #[.slice none 0 0, .int .i64 0, .int .i64 0, .string ⟨#[]⟩] 27))) :=
    ⟨((Below.refl _ _).alloc (Nat.le_refl _) _).alloc (by simp) _, (Below.heap_alloc _ _ _ (by simp)).trans (heap_alloc_new _ _), by simpa using heap_alloc_new (w.alloc (.cells #[.slice none 0 0, .int .i64 0, .int .i64 0, .string ⟨#[]⟩, .int .i64 0] 32)) (.cells #[.slice none 0 0, .int .i64 0, .int .i64 0, .string ⟨#[]⟩] 27), OwT.nil _ _, Nat.lt_succ_self _⟩
  go_loopw [6] (fun i u => ∃ k : Nat, k ≤ high ∧ i = .int .i64 k ∧ ∃ v, (k = 0 → v = .slice none 0 0) ∧ Hid (Wn w (w.heap.size + 1) v v (szd [] n k) u)) (fun i _ => high - (intOf i).toNat)
  case atStart => exact ⟨0, Nat.zero_le _, rfl, _, fun _ => rfl, W0⟩
  case round =>
    clear W0
    obtain ⟨k, hk, rfl, v, hnil, HW⟩ := hrel
    obtain ⟨p9, c9, hv9⟩ := HW.out.shape
    subst hv9
    by_cases hlt : k < high
    · go_wp2_with fail
      have hk0 := HW.out.drew
      clear HW
      refine wp_region_noPanic ?_
      refine wp_region_held_drew (S := fun _ => True) (by kernel_rfl) trivial (fun hHeld => ?_)
      generalize wr.drew = Y0 at *
      refine wpAnyH_take (i := 0) (oi := { dst := some 18, op := Op.fieldAddr 27 (Operand.tmp 5) 0, type := 0, pos := "l06_term.go:65", after := #[], guard := none }) (v := ?_) rfl (by kernel_rfl) (by kernel_rfl) (by kernel_rfl) (fun _ _ _ h => h) (Or.inl ⟨by rfl, ?_⟩) hHeld ?_
      rotate_left
      · rintro w _; go_simp; (try with_reducible rfl)
      try simp only [Act.put, List.setIfInBounds_toArray, List.set_cons_zero, List.set_cons_succ]
      refine wpAnyH_take (i := 2) (oi := { dst := some 20, op := Op.move (Operand.tmp 0), type := 2, pos := "l06_term.go:65", after := #[], guard := none }) (v := ?_) rfl (by kernel_rfl) (by kernel_rfl) (by kernel_rfl) (fun _ _ _ h => h) (Or.inl ⟨by rfl, ?_⟩) hHeld ?_
      rotate_left
      · rintro w _; go_simp; (try with_reducible rfl)
      try simp only [Act.put, List.setIfInBounds_toArray, List.set_cons_zero, List.set_cons_succ]
      refine wpAnyH_ready (rs := [1, 3]) (by kernel_rfl) (by simp) ?_
      refine AllReadyH.cons rfl (fun K hK => ?_) (AllReadyH.cons rfl (fun K hK => ?_) AllReadyH.nil)
      · skip
        have c0 := (hk0).cell
        go_simp
        refine hK.out _ _ trivial (fun hHeld => ?_)
        clear c0
        clear hK K
        try simp only [Act.put, List.setIfInBounds_toArray, List.set_cons_zero, List.set_cons_succ]
        refine wpAnyH_ready (rs := [3]) (by kernel_rfl) (by simp) ?_
        refine AllReadyH.cons rfl (fun K hK => ?_) AllReadyH.nil
        go_simp
        go_at_call 44
        refine (blankM_any n _ h1 h2).mono ?_
        rintro e1 Y_1 ⟨rfl, hb_1⟩
        have k_1 := (hk0).up hb_1
        go_wp2_with fail
        refine hK.out _ _ trivial (fun hHeld => ?_)
        clear hb_1
        clear hK K
        try simp only [Act.put, List.setIfInBounds_toArray, List.set_cons_zero, List.set_cons_succ]
        refine wpAnyH_ready (rs := [4]) (by kernel_rfl) (by simp) ?_
        refine AllReadyH.cons rfl (fun K hK => ?_) AllReadyH.nil
        go_simp
        obtain ⟨Y_2, hY_2⟩ : ∃ X, X = Y_1.alloc (.cells #[.string (fitB ⟨#[]⟩ n)] 9) := ⟨_, rfl⟩
        obtain ⟨b_2, hb_2⟩ : ∃ b, b = Y_1.heap.size := ⟨_, rfl⟩
        have k_2 := (k_1).up ((Below.refl _ _).alloc (Nat.le_refl _) (.cells #[.string (fitB ⟨#[]⟩ n)] 9))
        have n_2 : (Y_1.alloc (.cells #[.string (fitB ⟨#[]⟩ n)] 9)).heap[Y_1.heap.size]? = some (.cells #[.string (fitB ⟨#[]⟩ n)] 9 (0, 0)) := heap_alloc_new _ _
        rw [← hY_2] at k_2 n_2
        rw [← hb_2] at n_2
        rw [← hY_2, ← hb_2]
        refine hK.out _ _ trivial (fun hHeld => ?_)
        clear hY_2 hb_2
        clear hK K
        try simp only [Act.put, List.setIfInBounds_toArray, List.set_cons_zero, List.set_cons_succ]
        refine wpAnyH_ready (rs := [5]) (by kernel_rfl) (by simp) ?_
        refine AllReadyH.cons rfl (fun K hK => ?_) AllReadyH.nil
        refine la.wp_append_first _ (.tmp 19) (.tmp 22) 22 rfl w.heap.size 9 i0 (.string ⟨#[]⟩) 1 16 Try.underlying22 hi hz0 hz1 hz2 rfl (by decide) (.slice p9 k c9) k ((szd [] n k).map Value.string) rfl (k_2).own' hnil ⟨b_2, 0, none⟩ 1 1 [.string (fitB ⟨#[]⟩ n)] rfl rfl (one_at n_2) (by simp [Value.oneCell']) (by unfold maxLen; omega) (by omega) (k_2).far' (fun v_3 Y_3 hA => ?_)
        have k_3 := (k_2).app hA
        clear hA
        obtain ⟨p_3, c_3, hv_3⟩ := k_3.shape
        subst hv_3
        refine hK.out _ _ trivial (fun hHeld => ?_)
        clear hK K
        try simp only [Act.put, List.setIfInBounds_toArray, List.set_cons_zero, List.set_cons_succ]
        refine wpAnyH_take (i := 6) (oi := { dst := some 24, op := Op.fieldAddr 27 (Operand.tmp 5) 0, type := 0, pos := "l06_term.go:65", after := #[{ on := 0, ground := Ground.phase }, { on := 1, ground := Ground.phase }, { on := 2, ground := Ground.phase }, { on := 3, ground := Ground.phase }, { on := 4, ground := Ground.phase }, { on := 5, ground := Ground.phase }], guard := none }) (v := ?_) rfl (by kernel_rfl) (by kernel_rfl) (by kernel_rfl) (fun _ _ _ h => h) (Or.inl ⟨by rfl, ?_⟩) hHeld ?_
        rotate_left
        · rintro w _; go_simp; (try with_reducible rfl)
        try simp only [Act.put, List.setIfInBounds_toArray, List.set_cons_zero, List.set_cons_succ]
        refine wpAnyH_ready (rs := [7]) (by kernel_rfl) (by simp) ?_
        refine AllReadyH.cons rfl (fun K hK => ?_) AllReadyH.nil
        have f3 := (k_3).frozen
        have d3 := (k_3).cell
        go_simp
        have k_4 := (k_3).store
        refine hK.out _ _ trivial (fun hHeld => ?_)
        clear f3 d3
        clear hK K
        try simp only [Act.put, List.setIfInBounds_toArray, List.set_cons_zero, List.set_cons_succ]
        refine wpAnyH_done (by kernel_rfl) ?_ _
        refine NoPanic.normal ?_
        have HF : Hid (Wn w (w.heap.size + 1) _ _ (szd [] n (k + 1)) _) := k_4
        go_wp2
        exact ⟨⟨k + 1, by omega, by go_num, _, fun h => by omega, HF⟩, by simp [intOf]; omega⟩
      · skip
        go_simp
        go_at_call 44
        refine (blankM_any n _ h1 h2).mono ?_
        rintro e1 Y_1 ⟨rfl, hb_1⟩
        have k_1 := (hk0).up hb_1
        go_wp2_with fail
        refine hK.out _ _ trivial (fun hHeld => ?_)
        clear hb_1
        clear hK K
        try simp only [Act.put, List.setIfInBounds_toArray, List.set_cons_zero, List.set_cons_succ]
        refine wpAnyH_ready (rs := [1, 4]) (by kernel_rfl) (by simp) ?_
        refine AllReadyH.cons rfl (fun K hK => ?_) (AllReadyH.cons rfl (fun K hK => ?_) AllReadyH.nil)
        · skip
          have c0 := (k_1).cell
          go_simp
          refine hK.out _ _ trivial (fun hHeld => ?_)
          clear c0
          clear hK K
          try simp only [Act.put, List.setIfInBounds_toArray, List.set_cons_zero, List.set_cons_succ]
          refine wpAnyH_ready (rs := [4]) (by kernel_rfl) (by simp) ?_
          refine AllReadyH.cons rfl (fun K hK => ?_) AllReadyH.nil
          go_simp
          obtain ⟨Y_2, hY_2⟩ : ∃ X, X = Y_1.alloc (.cells #[.string (fitB ⟨#[]⟩ n)] 9) := ⟨_, rfl⟩
          obtain ⟨b_2, hb_2⟩ : ∃ b, b = Y_1.heap.size := ⟨_, rfl⟩
          have k_2 := (k_1).up ((Below.refl _ _).alloc (Nat.le_refl _) (.cells #[.string (fitB ⟨#[]⟩ n)] 9))
          have n_2 : (Y_1.alloc (.cells #[.string (fitB ⟨#[]⟩ n)] 9)).heap[Y_1.heap.size]? = some (.cells #[.string (fitB ⟨#[]⟩ n)] 9 (0, 0)) := heap_alloc_new _ _
          rw [← hY_2] at k_2 n_2
          rw [← hb_2] at n_2
          rw [← hY_2, ← hb_2]
          refine hK.out _ _ trivial (fun hHeld => ?_)
          clear hY_2 hb_2
          clear hK K
          try simp only [Act.put, List.setIfInBounds_toArray, List.set_cons_zero, List.set_cons_succ]
          refine wpAnyH_ready (rs := [5]) (by kernel_rfl) (by simp) ?_
          refine AllReadyH.cons rfl (fun K hK => ?_) AllReadyH.nil
          refine la.wp_append_first _ (.tmp 19) (.tmp 22) 22 rfl w.heap.size 9 i0 (.string ⟨#[]⟩) 1 16 Try.underlying22 hi hz0 hz1 hz2 rfl (by decide) (.slice p9 k c9) k ((szd [] n k).map Value.string) rfl (k_2).own' hnil ⟨b_2, 0, none⟩ 1 1 [.string (fitB ⟨#[]⟩ n)] rfl rfl (one_at n_2) (by simp [Value.oneCell']) (by unfold maxLen; omega) (by omega) (k_2).far' (fun v_3 Y_3 hA => ?_)
          have k_3 := (k_2).app hA
          clear hA
          obtain ⟨p_3, c_3, hv_3⟩ := k_3.shape
          subst hv_3
          refine hK.out _ _ trivial (fun hHeld => ?_)
          clear hK K
          try simp only [Act.put, List.setIfInBounds_toArray, List.set_cons_zero, List.set_cons_succ]
          refine wpAnyH_take (i := 6) (oi := { dst := some 24, op := Op.fieldAddr 27 (Operand.tmp 5) 0, type := 0, pos := "l06_term.go:65", after := #[{ on := 0, ground := Ground.phase }, { on := 1, ground := Ground.phase }, { on := 2, ground := Ground.phase }, { on := 3, ground := Ground.phase }, { on := 4, ground := Ground.phase }, { on := 5, ground := Ground.phase }], guard := none }) (v := ?_) rfl (by kernel_rfl) (by kernel_rfl) (by kernel_rfl) (fun _ _ _ h => h) (Or.inl ⟨by rfl, ?_⟩) hHeld ?_
          rotate_left
          · rintro w _; go_simp; (try with_reducible rfl)
          try simp only [Act.put, List.setIfInBounds_toArray, List.set_cons_zero, List.set_cons_succ]
          refine wpAnyH_ready (rs := [7]) (by kernel_rfl) (by simp) ?_
          refine AllReadyH.cons rfl (fun K hK => ?_) AllReadyH.nil
          have f3 := (k_3).frozen
          have d3 := (k_3).cell
          go_simp
          have k_4 := (k_3).store
          refine hK.out _ _ trivial (fun hHeld => ?_)
          clear f3 d3
          clear hK K
          try simp only [Act.put, List.setIfInBounds_toArray, List.set_cons_zero, List.set_cons_succ]
          refine wpAnyH_done (by kernel_rfl) ?_ _
          refine NoPanic.normal ?_
          have HF : Hid (Wn w (w.heap.size + 1) _ _ (szd [] n (k + 1)) _) := k_4
          go_wp2
          exact ⟨⟨k + 1, by omega, by go_num, _, fun h => by omega, HF⟩, by simp [intOf]; omega⟩
        · skip
          go_simp
          obtain ⟨Y_2, hY_2⟩ : ∃ X, X = Y_1.alloc (.cells #[.string (fitB ⟨#[]⟩ n)] 9) := ⟨_, rfl⟩
          obtain ⟨b_2, hb_2⟩ : ∃ b, b = Y_1.heap.size := ⟨_, rfl⟩
          have k_2 := (k_1).up ((Below.refl _ _).alloc (Nat.le_refl _) (.cells #[.string (fitB ⟨#[]⟩ n)] 9))
          have n_2 : (Y_1.alloc (.cells #[.string (fitB ⟨#[]⟩ n)] 9)).heap[Y_1.heap.size]? = some (.cells #[.string (fitB ⟨#[]⟩ n)] 9 (0, 0)) := heap_alloc_new _ _
          rw [← hY_2] at k_2 n_2
          rw [← hb_2] at n_2
          rw [← hY_2, ← hb_2]
          refine hK.out _ _ trivial (fun hHeld => ?_)
          clear hY_2 hb_2
          clear hK K
          try simp only [Act.put, List.setIfInBounds_toArray, List.set_cons_zero, List.set_cons_succ]
          refine wpAnyH_ready (rs := [1]) (by kernel_rfl) (by simp) ?_
          refine AllReadyH.cons rfl (fun K hK => ?_) AllReadyH.nil
          have c0 := (k_2).cell
          go_simp
          refine hK.out _ _ trivial (fun hHeld => ?_)
          clear c0
          clear hK K
          try simp only [Act.put, List.setIfInBounds_toArray, List.set_cons_zero, List.set_cons_succ]
          refine wpAnyH_ready (rs := [5]) (by kernel_rfl) (by simp) ?_
          refine AllReadyH.cons rfl (fun K hK => ?_) AllReadyH.nil
          refine la.wp_append_first _ (.tmp 19) (.tmp 22) 22 rfl w.heap.size 9 i0 (.string ⟨#[]⟩) 1 16 Try.underlying22 hi hz0 hz1 hz2 rfl (by decide) (.slice p9 k c9) k ((szd [] n k).map Value.string) rfl (k_2).own' hnil ⟨b_2, 0, none⟩ 1 1 [.string (fitB ⟨#[]⟩ n)] rfl rfl (one_at n_2) (by simp [Value.oneCell']) (by unfold maxLen; omega) (by omega) (k_2).far' (fun v_3 Y_3 hA => ?_)
          have k_3 := (k_2).app hA
          clear hA
          obtain ⟨p_3, c_3, hv_3⟩ := k_3.shape
          subst hv_3
          refine hK.out _ _ trivial (fun hHeld => ?_)
          clear hK K
          try simp only [Act.put, List.setIfInBounds_toArray, List.set_cons_zero, List.set_cons_succ]
          refine wpAnyH_take (i := 6) (oi := { dst := some 24, op := Op.fieldAddr 27 (Operand.tmp 5) 0, type := 0, pos := "l06_term.go:65", after := #[{ on := 0, ground := Ground.phase }, { on := 1, ground := Ground.phase }, { on := 2, ground := Ground.phase }, { on := 3, ground := Ground.phase }, { on := 4, ground := Ground.phase }, { on := 5, ground := Ground.phase }], guard := none }) (v := ?_) rfl (by kernel_rfl) (by kernel_rfl) (by kernel_rfl) (fun _ _ _ h => h) (Or.inl ⟨by rfl, ?_⟩) hHeld ?_
          rotate_left
          · rintro w _; go_simp; (try with_reducible rfl)
          try simp only [Act.put, List.setIfInBounds_toArray, List.set_cons_zero, List.set_cons_succ]
          refine wpAnyH_ready (rs := [7]) (by kernel_rfl) (by simp) ?_
          refine AllReadyH.cons rfl (fun K hK => ?_) AllReadyH.nil
          have f3 := (k_3).frozen
          have d3 := (k_3).cell
          go_simp
          have k_4 := (k_3).store
          refine hK.out _ _ trivial (fun hHeld => ?_)
          clear f3 d3
          clear hK K
          try simp only [Act.put, List.setIfInBounds_toArray, List.set_cons_zero, List.set_cons_succ]
          refine wpAnyH_done (by kernel_rfl) ?_ _
          refine NoPanic.normal ?_
          have HF : Hid (Wn w (w.heap.size + 1) _ _ (szd [] n (k + 1)) _) := k_4
          go_wp2
          exact ⟨⟨k + 1, by omega, by go_num, _, fun h => by omega, HF⟩, by simp [intOf]; omega⟩
    · obtain rfl : k = high := by omega
      have hR1 := HW.out.res
      have hO := HW.out.row
      have o0 : wr.cell? ⟨w.heap.size + 1, 0, none⟩ = some (.slice p9 k c9) := by simp [World.cell?, hO]
      have o1 : wr.cell? ⟨w.heap.size + 1, 1, none⟩ = some (.int .i64 0) := by simp [World.cell?, hO]
      have o2 : wr.cell? ⟨w.heap.size + 1, 2, none⟩ = some (.int .i64 0) := by simp [World.cell?, hO]
      have o3 : wr.cell? ⟨w.heap.size + 1, 3, none⟩ = some (.string ⟨#[]⟩) := by simp [World.cell?, hO]
      have r0 : wr.cell? ⟨w.heap.size, 0, none⟩ = some (.slice none 0 0) := by simp [World.cell?, hR1]
      have r1 : wr.cell? ⟨w.heap.size, 1, none⟩ = some (.int .i64 0) := by simp [World.cell?, hR1]
      have r2 : wr.cell? ⟨w.heap.size, 2, none⟩ = some (.int .i64 0) := by simp [World.cell?, hR1]
      have r3 : wr.cell? ⟨w.heap.size, 3, none⟩ = some (.string ⟨#[]⟩) := by simp [World.cell?, hR1]
      have r4 : wr.cell? ⟨w.heap.size, 4, none⟩ = some (.int .i64 0) := by simp [World.cell?, hR1]
      have g0 : ∀ k, wr.frozen? ⟨w.heap.size, k, none⟩ = false := fun k => frozen_of_row _ _ _ _ _ hR1
      have hne := own_other2 HW.out.own hR1
      have HF : Hid (ScrFin w (szd [] n k) (.slice p9 k c9) wr) := ⟨HW.out.bel, hR1, HW.out.own⟩
      clear HW hR1 hO
      go_wp2
      obtain ⟨d1, d2, d3⟩ := HF.out.done hne (.slice p9 k c9) (.int .i64 0) (.int .i64 0) (.string ⟨#[]⟩) (.int .i64 0)
      exact bodyPost_ret (results_cell_row Try.results14 _ _ w.heap.size _ #[.slice p9 k c9, .int .i64 0, .int .i64 0, .string ⟨#[]⟩, .int .i64 0] _ _ rfl d1 Try.underlying32 rfl infoO) rfl ⟨_, rfl, d2, d3⟩
end Go.Proofs.Ytikkohecanmefaa.sc
