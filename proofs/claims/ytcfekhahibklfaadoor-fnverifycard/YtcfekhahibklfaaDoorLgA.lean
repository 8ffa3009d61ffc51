/-
  The program's ChainNext, within and AnchorOf by plain functions; no old block turns. Condition: the table of the rounds' numbers lies in its variable.
-/
import Derived.Test.YtcfekhahibklfaaDoorMg15
import Derived.Test.YtcfekhahibklfaaDoorLogA
namespace Go.Proofs.YtcfekhahibklfaaDoor.li
open Go.ChangeShapes Go.WideShapes Go.ChangeAt Go.RowKit
open Go.Proofs.YtcfekhahibklfaaDoor.wi (heap_lt calls_w wp_w)
open Go.Proofs.YtcfekhahibklfaaDoor.lg Go.Proofs.YtcfekhahibklfaaDoor.ss
open Go.Proofs.YtcfekhahibklfaaDoor.lm (anchorA_yes anchorA_no InA infoA outA)
open Go.Proofs.YtcfekhahibklfaaDoor.sh (macB macB_size Tab Tab.up Tab.below Tab.lt)
set_option linter.unusedVariables false

set_option maxHeartbeats 8000000 in
theorem nextI_any (key c r : ByteArray) (w : World) (hk : key.size ≤ maxLen) (hc : c.size ≤ maxLen) (hr : r.size ≤ maxLen) (hT : Tab w) :
    Calls Tryd.prog 16 #[.string key, .string c, .string r] w fun e w' => e = .returned (.string (chainN macB key c r)) ∧ Below w.heap.size w w' := by
  have HC : Hid (∀ u, Calls Tryd.prog 50 #[.string r] u fun e w' => e = .returned (.bool (decide (r.size ≤ 200))) ∧ w' = u) := fun u => recI_any r u hr
  have HB0 : Hid (Below w.heap.size w w) := Below.refl _ _
  unfold maxLen at hc hr
  by_cases h : KeyL key
  · have HK : Hid (∀ u, Calls Tryd.prog 34 #[.string key] u fun e w' => e = .returned (.bool true) ∧ w' = u) := fun u => keyI_yes key u h
    by_cases h32 : c.size = 32
    · have d32 : ((c.size : Int) != 32) = false := by simp; omega
      by_cases h200 : r.size ≤ 200
      · rw [decide_eq_true h200] at HC
        obtain ⟨W2, hW2⟩ : ∃ W2, W2 = w.alloc (boxT key) := ⟨_, rfl⟩
        have HN : Hid (Calls Tryd.prog 51 #[.string key] w fun e w' => e = .returned (.func (.func 72) #[] #[.pointer (some ⟨w.heap.size, 0, none⟩)]) ∧ w' = W2) := by rw [hW2]; exact nextBy_any key w
        have hb2 : Below w.heap.size w W2 := by rw [hW2]; exact (Below.refl _ _).alloc (Nat.le_refl _) _
        have hg2 : W2.cell? ⟨w.heap.size, 0, none⟩ = some (.string key) := by rw [hW2]; simp [boxT]
        have HX : Hid (Calls Tryd.prog 72 #[.string c, .string r, .pointer (some ⟨w.heap.size, 0, none⟩)] W2 fun e w' => e = .returned (.string (chainN macB key c r)) ∧ Below w.heap.size w w') := by
          rw [chainN_yes h h32 h200]
          refine (step_any key c r w.heap.size W2 (by have := h.2; omega) (by omega) (hT.up hb2) hg2).mono ?_
          rintro e u ⟨he, hb⟩
          exact ⟨he, hb2.trans (hb.mono hb2.size)⟩
        obtain ⟨x, hx⟩ : ∃ x, x = chainN macB key c r := ⟨_, rfl⟩
        rw [← hx] at HX ⊢
        clear hx h hb2 hg2 hW2 hT
        go_enter Tryd.func16, Tryd.ntmps16
        go_wp2_with (first | (go_at_call 34; (with_reducible refine (HK.out _).mono ?_); rintro r w' ⟨rfl, hw'⟩; obtain rfl := hw'.symm) | (go_at_call 50; (with_reducible refine (HC.out _).mono ?_); rintro r w' ⟨rfl, hw'⟩; obtain rfl := hw'.symm) | (go_at_call 51; (with_reducible refine (HN.out).mono ?_); rintro r w' ⟨rfl, hw'⟩; obtain rfl := hw'.symm) | (go_at_call 72; (with_reducible refine (HX.out).mono ?_); rintro r w' ⟨rfl, hb⟩))
        go_ret
        exact ⟨rfl, hb⟩
      · rw [decide_eq_false h200] at HC
        rw [chainN_no fun x => h200 x.2.2]
        clear h
        go_enter Tryd.func16, Tryd.ntmps16
        go_wp2_with (first | (go_at_call 34; (with_reducible refine (HK.out _).mono ?_); rintro r w' ⟨rfl, hw'⟩; obtain rfl := hw'.symm) | (go_at_call 50; (with_reducible refine (HC.out _).mono ?_); rintro r w' ⟨rfl, hw'⟩; obtain rfl := hw'.symm))
        go_ret
        exact ⟨rfl, HB0.out⟩
    · rw [chainN_no fun x => h32 x.2.1]
      have d32 : ((c.size : Int) != 32) = true := by simp; omega
      clear h HC
      go_enter Tryd.func16, Tryd.ntmps16
      go_wp2_with (first | (go_at_call 34; (with_reducible refine (HK.out _).mono ?_); rintro r w' ⟨rfl, hw'⟩; obtain rfl := hw'.symm))
      go_ret
      exact ⟨rfl, HB0.out⟩
  · have HK : Hid (∀ u, Calls Tryd.prog 34 #[.string key] u fun e w' => e = .returned (.bool false) ∧ w' = u) := fun u => keyI_no key u hk h
    rw [chainN_no fun x => h x.1]
    clear h HC
    go_enter Tryd.func16, Tryd.ntmps16
    go_wp2_with (first | (go_at_call 34; (with_reducible refine (HK.out _).mono ?_); rintro r w' ⟨rfl, hw'⟩; obtain rfl := hw'.symm))
    go_ret
    exact ⟨rfl, HB0.out⟩
set_option maxHeartbeats 8000000 in
theorem anchorI_yes (key : ByteArray) (v : Value) (l : List ByteArray) (n : Nat) (w : World) (h : RecsL key l) (hn : n ≤ l.length) (hT : Tab w) (hv : SliceIs w v l) (hcap : Capd v) :
    Calls Tryd.prog 20 #[.string key, v, .int .i64 (n : Int)] w fun r w' => r = .returned (outA (anchorA macB key l (n : Int))) ∧ Below w.heap.size w w' := by
  have hk : key.size ≤ 64 := h.2.1.2
  have hl : l.length ≤ 60 := h.2.2
  rw [anchorA_yes h hn]
  have HQ : Hid (∀ u, Below w.heap.size w u → Calls Tryd.prog 35 #[v] u fun r w' => r = .returned (.bool true) ∧ w' = u) := fun u hu => logI_yes v l u ⟨h.1, h.2.2⟩ (hv.up hu)
  have HK : Hid (∀ u, Calls Tryd.prog 34 #[.string key] u fun e w' => e = .returned (.bool true) ∧ w' = u) := fun u => keyI_yes key u h.2.1
  have HW : Hid (∀ u, Calls Tryd.prog 53 #[.int .i64 (n : Int), .int .i64 0, .int .i64 (l.length : Int)] u fun r w' => r = .returned (.bool true) ∧ w' = u) := fun u => by
    have := withinI_any (n : Int) 0 (l.length : Int) u
    rwa [decide_eq_true (by omega)] at this
  obtain ⟨p, cap, rfl⟩ := hv.shape
  have hc := hcap _ _ _ rfl
  have HF : Hid (∀ u, Calls Tryd.prog 55 #[.slice p l.length cap, .int .i64 (n : Int)] u fun e w' => e = .returned (.slice p n n) ∧ w' = u) := fun u => firstOf_any p l.length cap n u (by omega) hc.2
  have HC : Hid (∀ u, Below w.heap.size w u → Calls Tryd.prog 54 #[.string key, .slice p n n] u fun r w' => r = .returned (.string (chain macB key (l.take n))) ∧ Below u.heap.size u w') := fun u hu =>
    chainOf_any key _ (l.take n) u h.2.1 (fun r hr => h.1 r (List.mem_of_mem_take hr)) (by rw [List.length_take]; omega) (hT.up hu) (slice_take (hv.up hu) hn)
  obtain ⟨c, hc2⟩ : ∃ c, c = chain macB key (l.take n) := ⟨_, rfl⟩
  rw [← hc2] at HC ⊢
  obtain ⟨m, hm⟩ : ∃ m, m = l.length := ⟨_, rfl⟩
  rw [← hm] at hl HQ HW HF hn ⊢
  have hI := InA.start w
  clear hv h hc2 hm hT hcap hc
  go_enter Tryd.func20, Tryd.ntmps20
  go_wp2_with (go_at_call 34; fail)
  refine calls_w (InA w) hI ?_
  clear hI
  intro u hI
  refine (HK.out u).mono ?_
  rintro r w1 ⟨rfl, hw1⟩
  obtain rfl := hw1.symm
  clear HK
  go_wp2_with (go_at_call 35; fail)
  refine (HQ.out u hI.1).mono ?_
  rintro r w1 ⟨rfl, hw1⟩
  obtain rfl := hw1.symm
  clear HQ
  go_wp2_with (first | (go_at_call 53; (with_reducible refine (HW.out _).mono ?_); rintro r w' ⟨rfl, hw'⟩; obtain rfl := hw'.symm) | (go_at_call 55; (with_reducible refine (HF.out _).mono ?_); rintro r w' ⟨rfl, hw'⟩; obtain rfl := hw'.symm) | (go_at_call 54; (refine (HC.out _ hI.1).mono ?_); rintro r w2 ⟨rfl, hb2⟩; replace hI := hI.up hb2; clear hb2 HC HF HW; obtain ⟨x0, x1, f0, f1⟩ := hI.cells))
  obtain ⟨hg, hB⟩ := hI.fill (.int .i64 (n : Int)) (.string c)
  exact bodyPost_ret (results_cell_row Tryd.results20 _ _ w.heap.size _ _ _ _ rfl hg Tryd.underlying41 rfl infoA) rfl ⟨rfl, hB⟩
set_option maxHeartbeats 8000000 in
theorem anchorI_no (key : ByteArray) (v : Value) (l : List ByteArray) (n : Int) (w : World) (hk : key.size ≤ maxLen) (hl : l.length ≤ maxLen) (hz : ∀ r ∈ l, r.size ≤ maxLen) (hno : ¬ (RecsL key l ∧ 0 ≤ n ∧ n ≤ (l.length : Int))) (hv : SliceIs w v l) :
    Calls Tryd.prog 20 #[.string key, v, .int .i64 n] w fun r w' => r = .returned (outA (anchorA macB key l n)) ∧ Below w.heap.size w w' := by
  rw [anchorA_no hno]
  have hI := InA.start w
  have HQ : Hid (∀ u, Below w.heap.size w u → ∃ d : Bool, (d = true ↔ RecsR l) ∧ Calls Tryd.prog 35 #[v] u fun r w' => r = .returned (.bool d) ∧ w' = u) := fun u hu => by
    by_cases h : RecsR l
    · exact ⟨true, by simp [h], logI_yes v l u h (hv.up hu)⟩
    · exact ⟨false, by simp [h], logI_no v l u hl hz h (hv.up hu)⟩
  have HW : Hid (∀ u, Calls Tryd.prog 53 #[.int .i64 n, .int .i64 0, .int .i64 (l.length : Int)] u fun r w' => r = .returned (.bool (decide (0 ≤ n ∧ n ≤ (l.length : Int)))) ∧ w' = u) := fun u => withinI_any n 0 (l.length : Int) u
  obtain ⟨p, cap, rfl⟩ := hv.shape
  by_cases hK : KeyL key
  · have HK : Hid (∀ u, Calls Tryd.prog 34 #[.string key] u fun e w' => e = .returned (.bool true) ∧ w' = u) := fun u => keyI_yes key u hK
    by_cases hR : RecsR l
    · rw [decide_eq_false (fun x => hno ⟨⟨hR.1, hK, hR.2⟩, x⟩)] at HW
      have HQ2 : Hid (∀ u, Below w.heap.size w u → Calls Tryd.prog 35 #[.slice p l.length cap] u fun r w' => r = .returned (.bool true) ∧ w' = u) := fun u hu => logI_yes _ l u hR (hv.up hu)
      unfold maxLen at hk hl
      obtain ⟨m, hm⟩ : ∃ m, m = l.length := ⟨_, rfl⟩
      rw [← hm] at hl HQ2 HW ⊢
      clear hm hv hz hno hR hK HQ
      go_enter Tryd.func20, Tryd.ntmps20
      go_wp2_with (go_at_call 34; fail)
      refine calls_w (InA w) hI ?_
      clear hI
      intro u hI
      refine (HK.out u).mono ?_
      rintro r w1 ⟨rfl, hw1⟩
      obtain rfl := hw1.symm
      clear HK
      obtain ⟨x0, x1, f0, f1⟩ := hI.cells
      have hIb : Below w.heap.size w u := hI.1
      go_wp2_with (first | (go_at_call 35; (with_reducible refine (HQ2.out _ hIb).mono ?_); rintro r w' ⟨rfl, hw'⟩; obtain rfl := hw'.symm) | (go_at_call 53; (with_reducible refine (HW.out _).mono ?_); rintro r w' ⟨rfl, hw'⟩; obtain rfl := hw'.symm))
      obtain ⟨hg, hB⟩ := hI.fill (.int .i64 0) (.string ⟨#[]⟩)
      exact bodyPost_ret (results_cell_row Tryd.results20 _ _ w.heap.size _ _ _ _ rfl hg Tryd.underlying41 rfl infoA) rfl ⟨rfl, hB⟩
    · have HQ2 : Hid (∀ u, Below w.heap.size w u → Calls Tryd.prog 35 #[.slice p l.length cap] u fun r w' => r = .returned (.bool false) ∧ w' = u) := fun u hu => logI_no _ l u hl hz hR (hv.up hu)
      unfold maxLen at hk hl
      obtain ⟨m, hm⟩ : ∃ m, m = l.length := ⟨_, rfl⟩
      rw [← hm] at hl HQ2 HW ⊢
      clear hm hv hz hno hR hK HQ
      go_enter Tryd.func20, Tryd.ntmps20
      go_wp2_with (go_at_call 34; fail)
      refine calls_w (InA w) hI ?_
      clear hI
      intro u hI
      refine (HK.out u).mono ?_
      rintro r w1 ⟨rfl, hw1⟩
      obtain rfl := hw1.symm
      clear HK
      obtain ⟨x0, x1, f0, f1⟩ := hI.cells
      have hIb : Below w.heap.size w u := hI.1
      go_wp2_with (first | (go_at_call 35; (with_reducible refine (HQ2.out _ hIb).mono ?_); rintro r w' ⟨rfl, hw'⟩; obtain rfl := hw'.symm))
      obtain ⟨hg, hB⟩ := hI.fill (.int .i64 0) (.string ⟨#[]⟩)
      exact bodyPost_ret (results_cell_row Tryd.results20 _ _ w.heap.size _ _ _ _ rfl hg Tryd.underlying41 rfl infoA) rfl ⟨rfl, hB⟩
  · have HK : Hid (∀ u, Calls Tryd.prog 34 #[.string key] u fun e w' => e = .returned (.bool false) ∧ w' = u) := fun u => keyI_no key u hk hK
    unfold maxLen at hk hl
    obtain ⟨m, hm⟩ : ∃ m, m = l.length := ⟨_, rfl⟩
    rw [← hm] at hl ⊢
    clear hm hv hz hno hK HQ HW
    go_enter Tryd.func20, Tryd.ntmps20
    go_wp2_with (go_at_call 34; fail)
    refine calls_w (InA w) hI ?_
    clear hI
    intro u hI
    refine (HK.out u).mono ?_
    rintro r w1 ⟨rfl, hw1⟩
    obtain rfl := hw1.symm
    clear HK
    obtain ⟨x0, x1, f0, f1⟩ := hI.cells
    go_wp2
    obtain ⟨hg, hB⟩ := hI.fill (.int .i64 0) (.string ⟨#[]⟩)
    exact bodyPost_ret (results_cell_row Tryd.results20 _ _ w.heap.size _ _ _ _ rfl hg Tryd.underlying41 rfl infoA) rfl ⟨rfl, hB⟩
theorem anchorI_any (key : ByteArray) (v : Value) (l : List ByteArray) (n : Int) (w : World) (hk : key.size ≤ maxLen) (hl : l.length ≤ maxLen) (hz : ∀ r ∈ l, r.size ≤ maxLen) (hT : Tab w) (hv : SliceIs w v l) (hcap : Capd v) :
    Calls Tryd.prog 20 #[.string key, v, .int .i64 n] w fun r w' => r = .returned (outA (anchorA macB key l n)) ∧ Below w.heap.size w w' := by
  by_cases h : RecsL key l ∧ 0 ≤ n ∧ n ≤ (l.length : Int)
  · obtain ⟨m, rfl⟩ : ∃ m : Nat, n = (m : Int) := ⟨n.toNat, by omega⟩
    exact anchorI_yes key v l m w h.1 (by omega) hT hv hcap
  · exact anchorI_no key v l n w hk hl hz h hv
end Go.Proofs.YtcfekhahibklfaaDoor.li
