/-
  The model's AnchorOf by a plain function; no old block turns. No condition.
-/
import Derived.Test.YtcfekhahibklfaaDoorLogM2
import Derived.Test.YtcfekhahibklfaaDoorMg14
namespace Go.Proofs.YtcfekhahibklfaaDoor.lm
open Go.ChangeShapes Go.WideShapes Go.ChangeAt Go.RowKit
open Go.Proofs.YtcfekhahibklfaaDoor.wi (heap_lt calls_w wp_w)
open Go.Proofs.YtcfekhahibklfaaDoor.lg Go.Proofs.YtcfekhahibklfaaDoor.ss
open Go.Proofs.YtcfekhahibklfaaDoor.sh (macB macB_size macM_any)
set_option linter.unusedVariables false

theorem anchorA_yes {key : ByteArray} {l : List ByteArray} {n : Nat} (h : RecsL key l) (hn : n ≤ l.length) : anchorA macB key l (n : Int) = ((n : Int), chain macB key (l.take n)) := if_pos ⟨h, by omega, by omega⟩
theorem anchorA_no {key : ByteArray} {l : List ByteArray} {n : Int} (h : ¬ (RecsL key l ∧ 0 ≤ n ∧ n ≤ (l.length : Int))) : anchorA macB key l n = (0, ⟨#[]⟩) := if_neg h
def outA (r : Int × ByteArray) : Value := .agg #[.int .i64 r.1, .string r.2]

/-- the answer's block, still empty -/
def InA (w u : World) : Prop := Below w.heap.size w u ∧ u.heap[w.heap.size]? = some (.cells #[.int .i64 0, .string ⟨#[]⟩] 41 (0, 0))
theorem InA.start (w : World) : InA w (w.alloc (.cells #[.int .i64 0, .string ⟨#[]⟩] 41)) := ⟨(Below.refl _ _).alloc (Nat.le_refl _) _, heap_alloc_new _ _⟩
theorem InA.up {w u u' : World} (h : InA w u) (hb : Below u.heap.size u u') : InA w u' := ⟨h.1.trans (hb.mono h.1.size), (hb.block _ (heap_lt h.2)).trans h.2⟩
theorem InA.cells {w u : World} (h : InA w u) : u.cell? ⟨w.heap.size, 0, none⟩ = some (.int .i64 0) ∧ u.cell? ⟨w.heap.size, 1, none⟩ = some (.string ⟨#[]⟩) ∧ u.frozen? ⟨w.heap.size, 0, none⟩ = false ∧ u.frozen? ⟨w.heap.size, 1, none⟩ = false := by
  refine ⟨by simp [World.cell?, h.2], by simp [World.cell?, h.2], frozen_of_row _ _ _ _ _ h.2, frozen_of_row _ _ _ _ _ h.2⟩
theorem InA.fill {w u : World} (h : InA w u) (a b : Value) : ((u.setCell ⟨w.heap.size, 0, none⟩ a).setCell ⟨w.heap.size, 1, none⟩ b).heap[w.heap.size]? = some (.cells #[a, b] 41 (0, 0)) ∧ Below w.heap.size w ((u.setCell ⟨w.heap.size, 0, none⟩ a).setCell ⟨w.heap.size, 1, none⟩ b) :=
  ⟨heap_setCell_same _ _ _ _ _ _ (heap_setCell_same u _ _ _ _ _ h.2), (h.1.setCell (Nat.le_refl _) _).setCell (Nat.le_refl _) _⟩
theorem infoA : (Tryd.prog.info? 41).map (·.size) = some 2 := by kernel_rfl
set_option maxHeartbeats 8000000 in
theorem anchorM_yes (key : ByteArray) (v : Value) (l : List ByteArray) (n : Nat) (w : World) (h : RecsL key l) (hn : n ≤ l.length) (hv : SliceIs w v l) :
    Calls Tryd.prog 21 #[.string key, v, .int .i64 (n : Int)] w fun r w' => r = .returned (outA (anchorA macB key l (n : Int))) ∧ Below w.heap.size w w' := by
  have hk : key.size ≤ 64 := h.2.1.2
  have hl : l.length ≤ 60 := h.2.2
  rw [anchorA_yes h hn]
  have HQ : Hid (∀ u, Below w.heap.size w u → Calls Tryd.prog 44 #[.string key, v] u fun r w' => r = .returned (.bool true) ∧ Below u.heap.size u w') := fun u hu => recsM_yes key v l u h (hv.up hu)
  have HC : Hid (∀ u, Below w.heap.size w u → Calls Tryd.prog 57 #[.string key, v, .int .i64 (n : Int)] u fun r w' => r = .returned (.string (chain macB key (l.take n))) ∧ Below u.heap.size u w') := fun u hu => chainM_any key v l n u (Nat.le_trans hk (by decide)) (fun r hr => Nat.le_trans (h.1 r hr) (by decide)) (Nat.le_trans hl (by decide)) hn (hv.up hu)
  have HI : Hid (∀ u, Calls Tryd.prog 56 #[.int .i64 (n : Int), .int .i64 0, .int .i64 (l.length : Int)] u fun r w' => r = .returned (.bool true) ∧ w' = u) := fun u => by
    have := isM_any (n : Int) 0 (l.length : Int) u
    rwa [decide_eq_true (by omega)] at this
  obtain ⟨p, cap, rfl⟩ := hv.shape
  obtain ⟨c, hc⟩ : ∃ c, c = chain macB key (l.take n) := ⟨_, rfl⟩
  rw [← hc] at HC ⊢
  have d1 : decide (8000 < (key.size : Int)) = false := decide_eq_false (by omega)
  have d2 : decide (400 < (l.length : Int)) = false := decide_eq_false (by omega)
  obtain ⟨m, hm⟩ : ∃ m, m = l.length := ⟨_, rfl⟩
  rw [← hm] at hl HQ HC HI d2 hn ⊢
  clear hv h hc hm
  go_enter Tryd.func21, Tryd.ntmps21
  go_wp2_with (go_at_call 44; fail)
  refine calls_w (InA w) (InA.start w) ?_
  intro u hI
  refine (HQ.out u hI.1).mono ?_
  rintro r w1 ⟨rfl, hb1⟩
  replace hI := hI.up hb1
  clear hb1 HQ u
  go_wp2_with (first | (go_at_call 56; (refine (HI.out _).mono ?_); rintro r w' ⟨rfl, hw'⟩; obtain rfl := hw'.symm) | (go_at_call 57; (refine (HC.out _ hI.1).mono ?_); rintro r w2 ⟨rfl, hb2⟩; replace hI := hI.up hb2; clear hb2 HC HI; obtain ⟨x0, x1, f0, f1⟩ := hI.cells))
  obtain ⟨hg, hB⟩ := hI.fill (.int .i64 (n : Int)) (.string c)
  exact bodyPost_ret (results_cell_row Tryd.results21 _ _ w.heap.size _ _ _ _ rfl hg Tryd.underlying41 rfl infoA) rfl ⟨rfl, hB⟩
set_option maxHeartbeats 8000000 in
theorem anchorM_no (key : ByteArray) (v : Value) (l : List ByteArray) (n : Int) (w : World) (hk : key.size ≤ maxLen) (hl : l.length ≤ maxLen) (hz : ∀ r ∈ l, r.size ≤ maxLen) (hno : ¬ (RecsL key l ∧ 0 ≤ n ∧ n ≤ (l.length : Int))) (hv : SliceIs w v l) :
    Calls Tryd.prog 21 #[.string key, v, .int .i64 n] w fun r w' => r = .returned (outA (anchorA macB key l n)) ∧ Below w.heap.size w w' := by
  rw [anchorA_no hno]
  have HI0 := InA.start w
  obtain ⟨p, cap, rfl⟩ := hv.shape
  by_cases h1 : 8000 < key.size
  · unfold maxLen at hk hl
    obtain ⟨m, hm⟩ : ∃ m, m = l.length := ⟨_, rfl⟩
    rw [← hm] at hl ⊢
    have d1 : decide (8000 < (key.size : Int)) = true := decide_eq_true (by omega)
    clear hm hv hz hno
    go_enter Tryd.func21, Tryd.ntmps21
    go_wp2
    exact bodyPost_ret (results_cell_row Tryd.results21 _ _ w.heap.size _ _ _ _ rfl HI0.2 Tryd.underlying41 rfl infoA) rfl ⟨rfl, HI0.1⟩
  · by_cases h2 : 400 < l.length
    · unfold maxLen at hk hl
      obtain ⟨m, hm⟩ : ∃ m, m = l.length := ⟨_, rfl⟩
      rw [← hm] at hl h2 ⊢
      have d1 : decide (8000 < (key.size : Int)) = false := decide_eq_false (by omega)
      have d2 : decide (400 < (m : Int)) = true := decide_eq_true (by omega)
      clear hm hv hz hno
      go_enter Tryd.func21, Tryd.ntmps21
      go_wp2
      exact bodyPost_ret (results_cell_row Tryd.results21 _ _ w.heap.size _ _ _ _ rfl HI0.2 Tryd.underlying41 rfl infoA) rfl ⟨rfl, HI0.1⟩
    · have d1 : decide (8000 < (key.size : Int)) = false := decide_eq_false (by omega)
      have d2 : decide (400 < (l.length : Int)) = false := decide_eq_false (by omega)
      by_cases h : RecsL key l
      · have HQ : Hid (∀ u, Below w.heap.size w u → Calls Tryd.prog 44 #[.string key, .slice p l.length cap] u fun r w' => r = .returned (.bool true) ∧ Below u.heap.size u w') := fun u hu => recsM_yes key _ l u h (hv.up hu)
        have HI : Hid (∀ u, Calls Tryd.prog 56 #[.int .i64 n, .int .i64 0, .int .i64 (l.length : Int)] u fun r w' => r = .returned (.bool false) ∧ w' = u) := fun u => by
          have := isM_any n 0 (l.length : Int) u
          rwa [decide_eq_false (fun x => hno ⟨h, x⟩)] at this
        unfold maxLen at hk hl
        obtain ⟨m, hm⟩ : ∃ m, m = l.length := ⟨_, rfl⟩
        rw [← hm] at hl h2 d2 HQ HI ⊢
        clear hm hv hz hno h
        go_enter Tryd.func21, Tryd.ntmps21
        go_wp2_with (go_at_call 44; fail)
        refine calls_w (InA w) HI0 ?_
        clear HI0
        intro u HI0
        refine (HQ.out u HI0.1).mono ?_
        rintro r w1 ⟨rfl, hb1⟩
        replace HI0 := HI0.up hb1
        clear hb1 HQ u
        obtain ⟨x0, x1, f0, f1⟩ := HI0.cells
        go_wp2_with (go_at_call 56; (refine (HI.out _).mono ?_); rintro r w' ⟨rfl, hw'⟩; obtain rfl := hw'.symm)
        obtain ⟨hg, hB⟩ := HI0.fill (.int .i64 0) (.string ⟨#[]⟩)
        exact bodyPost_ret (results_cell_row Tryd.results21 _ _ w.heap.size _ _ _ _ rfl hg Tryd.underlying41 rfl infoA) rfl ⟨rfl, hB⟩
      · have HQ : Hid (∀ u, Below w.heap.size w u → Calls Tryd.prog 44 #[.string key, .slice p l.length cap] u fun r w' => r = .returned (.bool false) ∧ Below u.heap.size u w') := fun u hu => recsM_no key _ l u hk hl hz h (hv.up hu)
        unfold maxLen at hk hl
        obtain ⟨m, hm⟩ : ∃ m, m = l.length := ⟨_, rfl⟩
        rw [← hm] at hl h2 d2 HQ ⊢
        clear hm hv hz hno h
        go_enter Tryd.func21, Tryd.ntmps21
        go_wp2_with (go_at_call 44; fail)
        refine calls_w (InA w) HI0 ?_
        clear HI0
        intro u HI0
        refine (HQ.out u HI0.1).mono ?_
        rintro r w1 ⟨rfl, hb1⟩
        replace HI0 := HI0.up hb1
        clear hb1 HQ u
        obtain ⟨x0, x1, f0, f1⟩ := HI0.cells
        go_wp2
        obtain ⟨hg, hB⟩ := HI0.fill (.int .i64 0) (.string ⟨#[]⟩)
        exact bodyPost_ret (results_cell_row Tryd.results21 _ _ w.heap.size _ _ _ _ rfl hg Tryd.underlying41 rfl infoA) rfl ⟨rfl, hB⟩
theorem anchorM_any (key : ByteArray) (v : Value) (l : List ByteArray) (n : Int) (w : World) (hk : key.size ≤ maxLen) (hl : l.length ≤ maxLen) (hz : ∀ r ∈ l, r.size ≤ maxLen) (hv : SliceIs w v l) :
    Calls Tryd.prog 21 #[.string key, v, .int .i64 n] w fun r w' => r = .returned (outA (anchorA macB key l n)) ∧ Below w.heap.size w w' := by
  by_cases h : RecsL key l ∧ 0 ≤ n ∧ n ≤ (l.length : Int)
  · obtain ⟨m, rfl⟩ : ∃ m : Nat, n = (m : Int) := ⟨n.toNat, by omega⟩
    exact anchorM_yes key v l m w h.1 (by omega) hv
  · exact anchorM_no key v l n w hk hl hz h hv
end Go.Proofs.YtcfekhahibklfaaDoor.lm
