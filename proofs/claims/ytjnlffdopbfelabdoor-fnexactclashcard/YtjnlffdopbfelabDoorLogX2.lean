/-
  The model's Clash at every argument; no old block turns. No condition.
-/
import Derived.Test.YtjnlffdopbfelabDoorLogX
namespace Go.Proofs.YtjnlffdopbfelabDoor.lm
open Go.ChangeShapes Go.WideShapes Go.ChangeAt Go.RowKit
open Go.Proofs.YtjnlffdopbfelabDoor.wi (heap_lt calls_w wp_w)
open Go.Proofs.YtjnlffdopbfelabDoor.lg Go.Proofs.YtjnlffdopbfelabDoor.ss
open Go.Proofs.YtjnlffdopbfelabDoor.sh (macB macB_size macM_any)
set_option linter.unusedVariables false

def ClashPost (w : World) (o : ByteArray × ByteArray × Int) (r : Ending) (w' : World) : Prop := r = .returned (.agg #[.string o.1, .string o.2.1, .int .i64 o.2.2]) ∧ Below w.heap.size w w'
theorem InC0.cells {w u : World} (h : InC0 w u) : (u.cell? ⟨w.heap.size, 0, none⟩ = some (.string ⟨#[]⟩) ∧ u.cell? ⟨w.heap.size, 1, none⟩ = some (.string ⟨#[]⟩) ∧ u.cell? ⟨w.heap.size, 2, none⟩ = some (.int .i64 0)) ∧ u.frozen? ⟨w.heap.size, 0, none⟩ = false ∧ u.frozen? ⟨w.heap.size, 1, none⟩ = false ∧ u.frozen? ⟨w.heap.size, 2, none⟩ = false := by
  refine ⟨⟨?_, ?_, ?_⟩, frozen_of_row _ _ _ _ _ h.2, frozen_of_row _ _ _ _ _ h.2, frozen_of_row _ _ _ _ _ h.2⟩ <;> simp [World.cell?, h.2]
theorem InC0.fin {w u : World} (h : InC0 w u) (a b c : Value) : (((u.setCell ⟨w.heap.size, 0, none⟩ a).setCell ⟨w.heap.size, 1, none⟩ b).setCell ⟨w.heap.size, 2, none⟩ c).heap[w.heap.size]? = some (.cells #[a, b, c] 25 (0, 0)) ∧ Below w.heap.size w (((u.setCell ⟨w.heap.size, 0, none⟩ a).setCell ⟨w.heap.size, 1, none⟩ b).setCell ⟨w.heap.size, 2, none⟩ c) :=
  ⟨heap_setCell_same _ _ _ _ _ _ (heap_setCell_same _ _ _ _ _ _ (heap_setCell_same u _ _ _ _ _ h.2)), ((h.1.setCell (Nat.le_refl _) _).setCell (Nat.le_refl _) _).setCell (Nat.le_refl _) _⟩
theorem clash_stop (w : World) (c : Int) : (w.alloc (.cells #[.string ⟨#[]⟩, .string ⟨#[]⟩, .int .i64 c] 25)).heap[w.heap.size]? = some (.cells #[.string ⟨#[]⟩, .string ⟨#[]⟩, .int .i64 c] 25 (0, 0)) ∧ Below w.heap.size w (w.alloc (.cells #[.string ⟨#[]⟩, .string ⟨#[]⟩, .int .i64 c] 25)) := ⟨heap_alloc_new _ _, (Below.refl _ _).alloc (Nat.le_refl _) _⟩
set_option maxRecDepth 20000 in
set_option maxHeartbeats 8000000 in
theorem clashM_size (key : ByteArray) (n : Int) (va vb : Value) (a b : List ByteArray) (w : World) (hk : key.size ≤ maxLen) (hla : a.length ≤ maxLen) (hlb : b.length ≤ maxLen) (hva : SliceIs w va a) (hvb : SliceIs w vb b) (h : 8000 < key.size ∨ 400 < a.length ∨ 400 < b.length) :
    Calls Tryd.prog 5 #[.string key, .int .i64 n, va, vb] w (ClashPost w (⟨#[]⟩, ⟨#[]⟩, 2)) := by
  obtain ⟨hg, hB⟩ := clash_stop w 2
  obtain ⟨pa, ca, rfl⟩ := hva.shape
  obtain ⟨pb, cb, rfl⟩ := hvb.shape
  unfold maxLen at hk hla hlb
  clear hva hvb
  by_cases h1 : 8000 < key.size
  · have d1 : decide (8000 < (key.size : Int)) = true := decide_eq_true (by omega)
    go_enter Tryd.func5, Tryd.ntmps5
    go_wp2
    exact bodyPost_ret (results_cell_row Tryd.results5 _ _ w.heap.size _ _ _ _ rfl hg Tryd.underlying25 rfl infoC) rfl ⟨rfl, hB⟩
  · have d1 : decide (8000 < (key.size : Int)) = false := decide_eq_false (by omega)
    by_cases h2 : 400 < a.length
    · have d2 : decide (400 < (a.length : Int)) = true := decide_eq_true (by omega)
      go_enter Tryd.func5, Tryd.ntmps5
      go_wp2
      exact bodyPost_ret (results_cell_row Tryd.results5 _ _ w.heap.size _ _ _ _ rfl hg Tryd.underlying25 rfl infoC) rfl ⟨rfl, hB⟩
    · have d2 : decide (400 < (a.length : Int)) = false := decide_eq_false (by omega)
      have d3 : decide (400 < (b.length : Int)) = true := decide_eq_true (by omega)
      go_enter Tryd.func5, Tryd.ntmps5
      go_wp2
      exact bodyPost_ret (results_cell_row Tryd.results5 _ _ w.heap.size _ _ _ _ rfl hg Tryd.underlying25 rfl infoC) rfl ⟨rfl, hB⟩
set_option maxRecDepth 20000 in
set_option maxHeartbeats 8000000 in
theorem clashM_form (key : ByteArray) (n : Int) (va vb : Value) (a b : List ByteArray) (w : World) (hza : ∀ r ∈ a, r.size ≤ maxLen) (hzb : ∀ r ∈ b, r.size ≤ maxLen) (hva : SliceIs w va a) (hvb : SliceIs w vb b) (h0 : ¬ (8000 < key.size ∨ 400 < a.length ∨ 400 < b.length)) (h : ¬ ClashR key n a b) :
    Calls Tryd.prog 5 #[.string key, .int .i64 n, va, vb] w (ClashPost w (⟨#[]⟩, ⟨#[]⟩, 1)) := by
  have hk : key.size ≤ 8000 := by omega
  have hla : a.length ≤ 400 := by omega
  have hlb : b.length ≤ 400 := by omega
  have d1 : decide (8000 < (key.size : Int)) = false := decide_eq_false (by omega)
  have d2 : decide (400 < (a.length : Int)) = false := decide_eq_false (by omega)
  have d3 : decide (400 < (b.length : Int)) = false := decide_eq_false (by omega)
  obtain ⟨pa, ca, rfl⟩ := hva.shape
  obtain ⟨pb, cb, rfl⟩ := hvb.shape
  by_cases h1 : RecsL key a
  · have HQa : Hid (∀ u, Below w.heap.size w u → Calls Tryd.prog 10 #[.string key, .slice pa a.length ca] u fun r w' => r = .returned (.bool true) ∧ Below u.heap.size u w') := fun u hu => recsM_yes key _ a u h1 (hva.up hu)
    by_cases h2 : RecsL key b
    · have HQb : Hid (∀ u, Below w.heap.size w u → Calls Tryd.prog 10 #[.string key, .slice pb b.length cb] u fun r w' => r = .returned (.bool true) ∧ Below u.heap.size u w') := fun u hu => recsM_yes key _ b u h2 (hvb.up hu)
      have HMin : Hid (∀ u, Calls Tryd.prog 12 #[.int .i64 (a.length : Int), .int .i64 (b.length : Int)] u fun r w' => r = .returned (.int .i64 (min (a.length : Int) (b.length : Int))) ∧ w' = u) := fun u => minM_any _ _ u
      have HIs : Hid (∀ u, Calls Tryd.prog 11 #[.int .i64 n, .int .i64 0, .int .i64 (min (a.length : Int) (b.length : Int))] u fun r w' => r = .returned (.bool false) ∧ w' = u) := fun u => by
        have := isM_any n 0 (min (a.length : Int) (b.length : Int)) u
        rwa [decide_eq_false (fun x => h ⟨h1, h2, x.1, by omega, by omega⟩)] at this
      clear hva hvb hza hzb h h1 h2
      go_enter Tryd.func5, Tryd.ntmps5
      go_wp2_with (go_at_call 10; fail)
      refine calls_w (InC0 w) (InC0.start w) ?_
      intro u hI
      refine (HQa.out u hI.1).mono ?_
      rintro r w1 ⟨rfl, hb1⟩
      replace hI := hI.up hb1
      clear hb1 HQa u
      go_wp2_with (first | (go_at_call 10; (with_reducible refine (HQb.out _ hI.bel).mono ?_); rintro r w2 ⟨rfl, hb2⟩; replace hI := hI.up hb2; clear hb2 HQb; obtain ⟨⟨x0, x1, x2⟩, f0, f1, f2⟩ := hI.cells) | (go_at_call 12; (with_reducible refine (HMin.out _).mono ?_); rintro r w' ⟨rfl, hw'⟩; obtain rfl := hw'.symm) | (go_at_call 11; (with_reducible refine (HIs.out _).mono ?_); rintro r w' ⟨rfl, hw'⟩; obtain rfl := hw'.symm))
      obtain ⟨hg, hB⟩ := hI.fin (.string ⟨#[]⟩) (.string ⟨#[]⟩) (.int .i64 1)
      exact bodyPost_ret (results_cell_row Tryd.results5 _ _ w.heap.size _ _ _ _ rfl hg Tryd.underlying25 rfl infoC) rfl ⟨rfl, hB⟩
    · have HQb : Hid (∀ u, Below w.heap.size w u → Calls Tryd.prog 10 #[.string key, .slice pb b.length cb] u fun r w' => r = .returned (.bool false) ∧ Below u.heap.size u w') := fun u hu => recsM_no key _ b u (Nat.le_trans hk (by decide)) (Nat.le_trans hlb (by decide)) hzb h2 (hvb.up hu)
      clear hva hvb hza hzb h h1 h2
      go_enter Tryd.func5, Tryd.ntmps5
      go_wp2_with (go_at_call 10; fail)
      refine calls_w (InC0 w) (InC0.start w) ?_
      intro u hI
      refine (HQa.out u hI.1).mono ?_
      rintro r w1 ⟨rfl, hb1⟩
      replace hI := hI.up hb1
      clear hb1 HQa u
      go_wp2_with (go_at_call 10; (with_reducible refine (HQb.out _ hI.bel).mono ?_); rintro r w2 ⟨rfl, hb2⟩; replace hI := hI.up hb2; clear hb2 HQb; obtain ⟨⟨x0, x1, x2⟩, f0, f1, f2⟩ := hI.cells)
      obtain ⟨hg, hB⟩ := hI.fin (.string ⟨#[]⟩) (.string ⟨#[]⟩) (.int .i64 1)
      exact bodyPost_ret (results_cell_row Tryd.results5 _ _ w.heap.size _ _ _ _ rfl hg Tryd.underlying25 rfl infoC) rfl ⟨rfl, hB⟩
  · have HQa : Hid (∀ u, Below w.heap.size w u → Calls Tryd.prog 10 #[.string key, .slice pa a.length ca] u fun r w' => r = .returned (.bool false) ∧ Below u.heap.size u w') := fun u hu => recsM_no key _ a u (Nat.le_trans hk (by decide)) (Nat.le_trans hla (by decide)) hza h1 (hva.up hu)
    clear hva hvb hza hzb h h1
    go_enter Tryd.func5, Tryd.ntmps5
    go_wp2_with (go_at_call 10; fail)
    refine calls_w (InC0 w) (InC0.start w) ?_
    intro u hI
    refine (HQa.out u hI.1).mono ?_
    rintro r w1 ⟨rfl, hb1⟩
    replace hI := hI.up hb1
    clear hb1 HQa u
    obtain ⟨⟨x0, x1, x2⟩, f0, f1, f2⟩ := hI.cells
    go_wp2
    obtain ⟨hg, hB⟩ := hI.fin (.string ⟨#[]⟩) (.string ⟨#[]⟩) (.int .i64 1)
    exact bodyPost_ret (results_cell_row Tryd.results5 _ _ w.heap.size _ _ _ _ rfl hg Tryd.underlying25 rfl infoC) rfl ⟨rfl, hB⟩
set_option maxRecDepth 20000 in
set_option maxHeartbeats 8000000 in
theorem clashM_zero (key : ByteArray) (va vb : Value) (a b : List ByteArray) (w : World) (hva : SliceIs w va a) (hvb : SliceIs w vb b) (hra : RecsL key a) (hrb : RecsL key b) :
    Calls Tryd.prog 5 #[.string key, .int .i64 0, va, vb] w (ClashPost w (⟨#[]⟩, ⟨#[]⟩, 6)) := by
  have hk : key.size ≤ 64 := hra.2.1.2
  have hla : a.length ≤ 60 := hra.2.2
  have hlb : b.length ≤ 60 := hrb.2.2
  have d1 : decide (8000 < (key.size : Int)) = false := decide_eq_false (by omega)
  have d2 : decide (400 < (a.length : Int)) = false := decide_eq_false (by omega)
  have d3 : decide (400 < (b.length : Int)) = false := decide_eq_false (by omega)
  obtain ⟨pa, ca, rfl⟩ := hva.shape
  obtain ⟨pb, cb, rfl⟩ := hvb.shape
  have HQa : Hid (∀ u, Below w.heap.size w u → Calls Tryd.prog 10 #[.string key, .slice pa a.length ca] u fun r w' => r = .returned (.bool true) ∧ Below u.heap.size u w') := fun u hu => recsM_yes key _ a u hra (hva.up hu)
  have HQb : Hid (∀ u, Below w.heap.size w u → Calls Tryd.prog 10 #[.string key, .slice pb b.length cb] u fun r w' => r = .returned (.bool true) ∧ Below u.heap.size u w') := fun u hu => recsM_yes key _ b u hrb (hvb.up hu)
  have HMin : Hid (∀ u, Calls Tryd.prog 12 #[.int .i64 (a.length : Int), .int .i64 (b.length : Int)] u fun r w' => r = .returned (.int .i64 (min (a.length : Int) (b.length : Int))) ∧ w' = u) := fun u => minM_any _ _ u
  have HIs : Hid (∀ u, Calls Tryd.prog 11 #[.int .i64 0, .int .i64 0, .int .i64 (min (a.length : Int) (b.length : Int))] u fun r w' => r = .returned (.bool true) ∧ w' = u) := fun u => by
    have := isM_any 0 0 (min (a.length : Int) (b.length : Int)) u
    rwa [decide_eq_true (by omega)] at this
  have HS : Hid (∀ u, Calls Tryd.prog 13 #[.string key] u fun r w' => r = .returned (.string (chainS macB key)) ∧ Below u.heap.size u w') := fun u => startM_any key u (Nat.le_trans hk (by decide))
  clear hva hvb hra hrb
  go_enter Tryd.func5, Tryd.ntmps5
  go_wp2_with (go_at_call 10; fail)
  refine calls_w (InC0 w) (InC0.start w) ?_
  intro u hI
  refine (HQa.out u hI.1).mono ?_
  rintro r w1 ⟨rfl, hb1⟩
  replace hI := hI.up hb1
  clear hb1 HQa u
  go_wp2_with (first | (go_at_call 10; (with_reducible refine (HQb.out _ hI.bel).mono ?_); rintro r w2 ⟨rfl, hb2⟩; replace hI := hI.up hb2; clear hb2 HQb) | (go_at_call 12; (with_reducible refine (HMin.out _).mono ?_); rintro r w' ⟨rfl, hw'⟩; obtain rfl := hw'.symm) | (go_at_call 11; (with_reducible refine (HIs.out _).mono ?_); rintro r w' ⟨rfl, hw'⟩; obtain rfl := hw'.symm) | (go_at_call 13; fail))
  refine calls_w (InC w w2.heap.size (⟨#[]⟩, ⟨#[]⟩, 6)) (hI.toC _ _ _) ?_
  clear hI
  intro u hI
  refine (HS.out u).mono ?_
  rintro r w3 ⟨rfl, hb3⟩
  replace hI := hI.up hb3
  clear hb3 HS HMin HIs u
  obtain ⟨⟨x0, x1, x2⟩, f0, f1, f2⟩ := hI.rcells
  go_wp2
  refine wp_loop_rounds 1 ?_
  rw [rounds_succ]
  go_wp2
  obtain ⟨hg, hB⟩ := hI.fin (.string ⟨#[]⟩) (.string ⟨#[]⟩) (.int .i64 6)
  exact bodyPost_ret (results_cell_row Tryd.results5 _ _ w.heap.size _ _ _ _ rfl hg Tryd.underlying25 rfl infoC) rfl ⟨rfl, hB⟩
theorem clashM_any (key : ByteArray) (n : Int) (va vb : Value) (a b : List ByteArray) (w : World) (hk : key.size ≤ maxLen) (hla : a.length ≤ maxLen) (hlb : b.length ≤ maxLen) (hza : ∀ r ∈ a, r.size ≤ maxLen) (hzb : ∀ r ∈ b, r.size ≤ maxLen) (hva : SliceIs w va a) (hvb : SliceIs w vb b) :
    Calls Tryd.prog 5 #[.string key, .int .i64 n, va, vb] w (ClashPost w (clashA macB key n a b)) := by
  by_cases h0 : 8000 < key.size ∨ 400 < a.length ∨ 400 < b.length
  · rw [clashA_size h0]; exact clashM_size key n va vb a b w hk hla hlb hva hvb h0
  · by_cases h : ClashR key n a b
    · obtain ⟨m, rfl⟩ : ∃ m : Nat, n = (m : Int) := ⟨n.toNat, by have := h.2.2; omega⟩
      by_cases hm : m = 0
      · subst hm
        have e : clashA macB key ((0 : Nat) : Int) a b = (⟨#[]⟩, ⟨#[]⟩, 6) := by
          rw [clashA_right h]; exact if_pos (.inl rfl)
        rw [e]
        exact clashM_zero key va vb a b w hva hvb h.1 h.2.1
      · have hl := h.2.2
        rcases hva with ⟨pa, ca, rfl, rfl⟩ | ⟨ba, oa, ca, hba, rfl, hRa⟩
        · exact absurd hl (by simp; omega)
        · rcases hvb with ⟨pb, cb, rfl, rfl⟩ | ⟨bb, ob, cb, hbb, rfl, hRb⟩
          · exact absurd hl (by simp; omega)
          · exact clashM_row key m ba oa ca bb ob cb a b w hba hbb h hRa hRb
    · rw [clashA_form h0 h]
      exact clashM_form key n va vb a b w hza hzb hva hvb h0 h
end Go.Proofs.YtjnlffdopbfelabDoor.lm
