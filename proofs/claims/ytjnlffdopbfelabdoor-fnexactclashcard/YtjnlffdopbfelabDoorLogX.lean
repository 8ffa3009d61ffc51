/-
  The model's Clash by a plain function; no old block turns. No condition.
-/
import Derived.Test.YtjnlffdopbfelabDoorLogA0
import Derived.Deep.RegionHeld3
import Derived.Deep.Cut
namespace Go.Proofs.YtjnlffdopbfelabDoor.lm
open Go.ChangeShapes Go.WideShapes Go.ChangeAt Go.RowKit
open Go.Proofs.YtjnlffdopbfelabDoor.wi (heap_lt calls_w wp_w)
open Go.Proofs.YtjnlffdopbfelabDoor.lg Go.Proofs.YtjnlffdopbfelabDoor.ss
open Go.Proofs.YtjnlffdopbfelabDoor.sh (macB macB_size macM_any)
set_option linter.unusedVariables false

theorem minM_any (a b : Int) (w : World) : Calls Tryd.prog 12 #[.int .i64 a, .int .i64 b] w fun r w' => r = .returned (.int .i64 (min a b)) ∧ w' = w := by
  by_cases h : a < b
  · rw [show min a b = a by omega]
    go_enter Tryd.func12, Tryd.ntmps12
    go_wp2
    go_ret
    exact ⟨rfl, rfl⟩
  · rw [show min a b = b by omega]
    go_enter Tryd.func12, Tryd.ntmps12
    go_wp2
    go_ret
    exact ⟨rfl, rfl⟩
theorem take_eq_succ {a b : List ByteArray} {k : Nat} (ha : k < a.length) (hb : k < b.length) : a.take (k + 1) = b.take (k + 1) ↔ a.take k = b.take k ∧ a.getD k ⟨#[]⟩ = b.getD k ⟨#[]⟩ := by
  rw [take_snoc ha, take_snoc hb, getD_at ha, getD_at hb]
  constructor
  · intro h
    have := List.append_inj h (by rw [List.length_take, List.length_take]; omega)
    exact ⟨this.1, by simpa using this.2⟩
  · rintro ⟨h1, h2⟩
    rw [h1, h2]
/-- the first k records are the same -/
def Same (sm : Bool) (a b : List ByteArray) (k : Nat) : Prop := sm = true ↔ a.take k = b.take k
/-- the answer's block alone -/
def InC0 (w u : World) : Prop := Below w.heap.size w u ∧ u.heap[w.heap.size]? = some (.cells #[.string ⟨#[]⟩, .string ⟨#[]⟩, .int .i64 0] 25 (0, 0))
theorem InC0.start (w : World) : InC0 w (w.alloc (.cells #[.string ⟨#[]⟩, .string ⟨#[]⟩, .int .i64 0] 25)) := ⟨(Below.refl _ _).alloc (Nat.le_refl _) _, heap_alloc_new _ _⟩
theorem InC0.up {w u u' : World} (h : InC0 w u) (hb : Below u.heap.size u u') : InC0 w u' := ⟨h.1.trans (hb.mono h.1.size), (hb.block _ (heap_lt h.2)).trans h.2⟩
/-- the answer's block, and the block of what has been found -/
structure InC (w : World) (g : Nat) (o : ByteArray × ByteArray × Int) (u : World) : Prop where
  bel : Below w.heap.size w u
  res : u.heap[w.heap.size]? = some (.cells #[.string ⟨#[]⟩, .string ⟨#[]⟩, .int .i64 0] 25 (0, 0))
  out : u.heap[g]? = some (.cells #[.string o.1, .string o.2.1, .int .i64 o.2.2] 25 (0, 0))
  gt : w.heap.size < g
theorem InC.up {w u u' : World} {g : Nat} {o : ByteArray × ByteArray × Int} (h : InC w g o u) (hb : Below u.heap.size u u') : InC w g o u' :=
  ⟨h.bel.trans (hb.mono h.bel.size), (hb.block _ (heap_lt h.res)).trans h.res, (hb.block _ (heap_lt h.out)).trans h.out, h.gt⟩
theorem InC0.toC {w u : World} (h : InC0 w u) (x y : ByteArray) (c : Int) : InC w u.heap.size (x, y, c) (u.alloc (.cells #[.string x, .string y, .int .i64 c] 25)) :=
  ⟨h.1.alloc h.1.size _, (Below.heap_alloc _ _ _ (heap_lt h.2)).trans h.2, heap_alloc_new _ _, heap_lt h.2⟩
theorem InC.cells {w u : World} {g : Nat} {o : ByteArray × ByteArray × Int} (h : InC w g o u) : (u.cell? ⟨g, 0, none⟩ = some (.string o.1) ∧ u.cell? ⟨g, 1, none⟩ = some (.string o.2.1) ∧ u.cell? ⟨g, 2, none⟩ = some (.int .i64 o.2.2)) ∧ u.frozen? ⟨g, 0, none⟩ = false ∧ u.frozen? ⟨g, 1, none⟩ = false ∧ u.frozen? ⟨g, 2, none⟩ = false := by
  refine ⟨⟨?_, ?_, ?_⟩, frozen_of_row _ _ _ _ _ h.out, frozen_of_row _ _ _ _ _ h.out, frozen_of_row _ _ _ _ _ h.out⟩ <;> simp [World.cell?, h.out]
theorem InC.rcells {w u : World} {g : Nat} {o : ByteArray × ByteArray × Int} (h : InC w g o u) : (u.cell? ⟨w.heap.size, 0, none⟩ = some (.string ⟨#[]⟩) ∧ u.cell? ⟨w.heap.size, 1, none⟩ = some (.string ⟨#[]⟩) ∧ u.cell? ⟨w.heap.size, 2, none⟩ = some (.int .i64 0)) ∧ u.frozen? ⟨w.heap.size, 0, none⟩ = false ∧ u.frozen? ⟨w.heap.size, 1, none⟩ = false ∧ u.frozen? ⟨w.heap.size, 2, none⟩ = false := by
  refine ⟨⟨?_, ?_, ?_⟩, frozen_of_row _ _ _ _ _ h.res, frozen_of_row _ _ _ _ _ h.res, frozen_of_row _ _ _ _ _ h.res⟩ <;> simp [World.cell?, h.res]
/-- the answer is filled -/
theorem InC.fin {w u : World} {g : Nat} {o : ByteArray × ByteArray × Int} (h : InC w g o u) (a b c : Value) : (((u.setCell ⟨w.heap.size, 0, none⟩ a).setCell ⟨w.heap.size, 1, none⟩ b).setCell ⟨w.heap.size, 2, none⟩ c).heap[w.heap.size]? = some (.cells #[a, b, c] 25 (0, 0)) ∧ Below w.heap.size w (((u.setCell ⟨w.heap.size, 0, none⟩ a).setCell ⟨w.heap.size, 1, none⟩ b).setCell ⟨w.heap.size, 2, none⟩ c) :=
  ⟨heap_setCell_same _ _ _ _ _ _ (heap_setCell_same _ _ _ _ _ _ (heap_setCell_same u _ _ _ _ _ h.res)), ((h.bel.setCell (Nat.le_refl _) _).setCell (Nat.le_refl _) _).setCell (Nat.le_refl _) _⟩
/-- what has been found is written -/
theorem InC.put {w u : World} {g : Nat} {o : ByteArray × ByteArray × Int} (h : InC w g o u) (x y : ByteArray) (c : Int) : InC w g (x, y, c) (((u.setCell ⟨g, 0, none⟩ (.string x)).setCell ⟨g, 1, none⟩ (.string y)).setCell ⟨g, 2, none⟩ (.int .i64 c)) := by
  have hg := h.gt
  refine ⟨((h.bel.setCell (Nat.le_of_lt hg) _).setCell (Nat.le_of_lt hg) _).setCell (Nat.le_of_lt hg) _, ?_, heap_setCell_same _ _ _ _ _ _ (heap_setCell_same _ _ _ _ _ _ (heap_setCell_same u _ _ _ _ _ h.out)), hg⟩
  rw [heap_setCell_other _ _ _ _ (by simp; omega), heap_setCell_other _ _ _ _ (by simp; omega), heap_setCell_other _ _ _ _ (by simp; omega)]
  exact h.res
theorem infoC : (Tryd.prog.info? 25).map (·.size) = some 3 := by kernel_rfl
theorem InC0.bel {w u : World} (h : InC0 w u) : Below w.heap.size w u := h.1
set_option maxRecDepth 20000 in
set_option maxHeartbeats 8000000 in
theorem clashM_row (key : ByteArray) (n : Nat) (ba oa ca bb ob cb : Nat) (a b : List ByteArray) (w : World) (hba : ba < w.heap.size) (hbb : bb < w.heap.size) (hR : ClashR key (n : Int) a b) (hRa : Row w ba oa a) (hRb : Row w bb ob b) :
    Calls Tryd.prog 5 #[.string key, .int .i64 (n : Int), .slice (some ⟨ba, oa, none⟩) a.length ca, .slice (some ⟨bb, ob, none⟩) b.length cb] w fun r w' => r = .returned (.agg #[.string (clashA macB key n a b).1, .string (clashA macB key n a b).2.1, .int .i64 (clashA macB key n a b).2.2]) ∧ Below w.heap.size w w' := by
  obtain ⟨hra, hrb, hn0, hn1, hn2⟩ := hR
  have hk : key.size ≤ 64 := hra.2.1.2
  have hla : a.length ≤ 60 := hra.2.2
  have hlb : b.length ≤ 60 := hrb.2.2
  have HQa : Hid (∀ u, Below w.heap.size w u → Calls Tryd.prog 10 #[.string key, .slice (some ⟨ba, oa, none⟩) a.length ca] u fun r w' => r = .returned (.bool true) ∧ Below u.heap.size u w') := fun u hu => recsM_yes key _ a u hra (.inr ⟨ba, oa, ca, Nat.lt_of_lt_of_le hba hu.size, rfl, hRa.below hu hba⟩)
  have HQb : Hid (∀ u, Below w.heap.size w u → Calls Tryd.prog 10 #[.string key, .slice (some ⟨bb, ob, none⟩) b.length cb] u fun r w' => r = .returned (.bool true) ∧ Below u.heap.size u w') := fun u hu => recsM_yes key _ b u hrb (.inr ⟨bb, ob, cb, Nat.lt_of_lt_of_le hbb hu.size, rfl, hRb.below hu hbb⟩)
  have HMin : Hid (∀ u, Calls Tryd.prog 12 #[.int .i64 (a.length : Int), .int .i64 (b.length : Int)] u fun r w' => r = .returned (.int .i64 (min (a.length : Int) (b.length : Int))) ∧ w' = u) := fun u => minM_any _ _ u
  have HIs : Hid (∀ u, Calls Tryd.prog 11 #[.int .i64 (n : Int), .int .i64 0, .int .i64 (min (a.length : Int) (b.length : Int))] u fun r w' => r = .returned (.bool true) ∧ w' = u) := fun u => by
    have := isM_any (n : Int) 0 (min (a.length : Int) (b.length : Int)) u
    rwa [decide_eq_true (by omega)] at this
  have HNX : ∀ (l : List ByteArray), RecsL key l → ∀ u k, k < l.length → Calls Tryd.prog 14 #[.string key, .string (chain macB key (l.take k)), .string (l.getD k ⟨#[]⟩)] u fun r w' => r = .returned (.string (chain macB key (l.take (k + 1)))) ∧ Below u.heap.size u w' := fun l h u k hk2 => by
    rw [chain_step hk2, ← getD_at hk2]
    exact nextM_any key _ _ u (Nat.le_trans hk (by decide)) (Nat.le_trans (chain_le key _) (by decide)) (Nat.le_trans (h.1 _ (at_getD hk2)) (by decide))
  have HNA : Hid (∀ u k, k < a.length → Calls Tryd.prog 14 #[.string key, .string (chain macB key (a.take k)), .string (a.getD k ⟨#[]⟩)] u fun r w' => r = .returned (.string (chain macB key (a.take (k + 1)))) ∧ Below u.heap.size u w') := HNX a hra
  have HNB : Hid (∀ u k, k < b.length → Calls Tryd.prog 14 #[.string key, .string (chain macB key (b.take k)), .string (b.getD k ⟨#[]⟩)] u fun r w' => r = .returned (.string (chain macB key (b.take (k + 1)))) ∧ Below u.heap.size u w') := HNX b hrb
  have HRA : Hid (∀ u, Below w.heap.size w u → ∀ k, k < a.length → u.cell? ⟨ba, oa + k, none⟩ = some (.string (a.getD k ⟨#[]⟩))) := fun u hu => hRa.below hu hba
  have HRB : Hid (∀ u, Below w.heap.size w u → ∀ k, k < b.length → u.cell? ⟨bb, ob + k, none⟩ = some (.string (b.getD k ⟨#[]⟩))) := fun u hu => hRb.below hu hbb
  have HZA : Hid (∀ k, k < a.length → (a.getD k ⟨#[]⟩).size ≤ 200) := fun k hk => hra.1 _ (at_getD hk)
  have HZB : Hid (∀ k, k < b.length → (b.getD k ⟨#[]⟩).size ≤ 200) := fun k hk => hrb.1 _ (at_getD hk)
  have HEnd1 : Hid ((a.take n = b.take n ∨ ¬ chain macB key (a.take n) = chain macB key (b.take n)) → clashA macB key n a b = (⟨#[]⟩, ⟨#[]⟩, 6)) := fun h => by
    rw [clashA_right ⟨hra, hrb, hn0, hn1, hn2⟩]
    exact if_pos h
  have HEnd2 : Hid (¬ (a.take n = b.take n ∨ ¬ chain macB key (a.take n) = chain macB key (b.take n)) → clashA macB key n a b = clashF macB key a b n) := fun h => by
    rw [clashA_right ⟨hra, hrb, hn0, hn1, hn2⟩]
    exact if_neg h
  obtain ⟨c0, hc0⟩ : ∃ c0, c0 = chainS macB key := ⟨_, rfl⟩
  have HC0 : Hid (c0 = chain macB key (a.take 0)) := hc0
  have HC1 : Hid (c0 = chain macB key (b.take 0)) := hc0
  have HS : Hid (∀ u, Calls Tryd.prog 13 #[.string key] u fun r w' => r = .returned (.string c0) ∧ Below u.heap.size u w') := fun u => by rw [hc0]; exact startM_any key u (Nat.le_trans hk (by decide))
  have d1 : decide (8000 < (key.size : Int)) = false := decide_eq_false (by omega)
  have d2 : decide (400 < (a.length : Int)) = false := decide_eq_false (by omega)
  have d3 : decide (400 < (b.length : Int)) = false := decide_eq_false (by omega)
  clear hRa hRb hra hrb HNX hc0
  go_enter Tryd.func5, Tryd.ntmps5
  go_wp2_with (go_at_call 10; fail)
  refine calls_w (InC0 w) (InC0.start w) ?_
  intro u hI
  refine (HQa.out u hI.1).mono ?_
  rintro r w1 ⟨rfl, hb1⟩
  replace hI := hI.up hb1
  clear hb1 HQa u
  go_wp2_with (first | (go_at_call 10; (with_reducible refine (HQb.out _ hI.bel).mono ?_); rintro r w2 ⟨rfl, hb2⟩; replace hI := hI.up hb2; clear hb2 HQb) | (go_at_call 12; (with_reducible refine (HMin.out _).mono ?_); rintro r w' ⟨rfl, hw'⟩; obtain rfl := hw'.symm) | (go_at_call 11; (with_reducible refine (HIs.out _).mono ?_); rintro r w' ⟨rfl, hw'⟩; obtain rfl := hw'.symm) | (go_at_call 13; fail))
  refine calls_w (InC w w2.heap.size (⟨#[]⟩, ⟨#[]⟩, 6)) (hI.toC _ _ _) ?_
  clear hI
  intro u hI
  refine (HS.out u).mono ?_
  rintro r w3 ⟨rfl, hb3⟩
  replace hI := hI.up hb3
  clear hb3 HS HMin HIs u
  obtain ⟨g, hg⟩ : ∃ g, g = w2.heap.size := ⟨_, rfl⟩
  rw [← hg] at hI ⊢
  clear hg
  have HI3 : Hid (InC w g (clashF macB key a b 0) w3) := hI
  clear hI
  go_wp2
  go_loopw [10, 11, 12, 13] (fun sv cv dv iv u => ∃ (k : Nat) (sm : Bool), k ≤ n ∧ iv = .int .i64 k ∧ sv = .bool sm ∧ cv = .string (chain macB key (a.take k)) ∧ dv = .string (chain macB key (b.take k)) ∧ Hid (Same sm a b k) ∧ Hid (InC w g (clashF macB key a b k) u)) (fun _ _ _ iv _ => n - (intOf iv).toNat)
  case atStart => exact ⟨0, true, Nat.zero_le _, rfl, rfl, by rw [HC0.out], by rw [HC1.out], ⟨fun _ => rfl, fun _ => rfl⟩, HI3⟩
  case round =>
    clear HI3
    obtain ⟨k, sm, hk', rfl, rfl, rfl, rfl, HSM0, HI⟩ := hrel
    by_cases hlt : k < n
    · obtain ⟨A, hA⟩ : ∃ A, A = a.getD k ⟨#[]⟩ := ⟨_, rfl⟩
      obtain ⟨B, hB⟩ : ∃ B, B = b.getD k ⟨#[]⟩ := ⟨_, rfl⟩
      obtain ⟨C, hC⟩ : ∃ C, C = chain macB key (a.take k) := ⟨_, rfl⟩
      obtain ⟨D, hD⟩ : ∃ D, D = chain macB key (b.take k) := ⟨_, rfl⟩
      obtain ⟨C', hC'⟩ : ∃ C', C' = chain macB key (a.take (k + 1)) := ⟨_, rfl⟩
      obtain ⟨D', hD'⟩ : ∃ D', D' = chain macB key (b.take (k + 1)) := ⟨_, rfl⟩
      obtain ⟨o, ho⟩ : ∃ o, o = clashF macB key a b k := ⟨_, rfl⟩
      have HRa : Hid (∀ u, Below w.heap.size w u → u.cell? ⟨ba, oa + k, none⟩ = some (.string A)) := fun u hu => by rw [hA]; exact HRA.out u hu k (by omega)
      have HRb : Hid (∀ u, Below w.heap.size w u → u.cell? ⟨bb, ob + k, none⟩ = some (.string B)) := fun u hu => by rw [hB]; exact HRB.out u hu k (by omega)
      have HNa : Hid (∀ u, Calls Tryd.prog 14 #[.string key, .string C, .string A] u fun r w' => r = .returned (.string C') ∧ Below u.heap.size u w') := fun u => by rw [hA, hC, hC']; exact HNA.out u k (by omega)
      have HNb : Hid (∀ u, Calls Tryd.prog 14 #[.string key, .string D, .string B] u fun r w' => r = .returned (.string D') ∧ Below u.heap.size u w') := fun u => by rw [hB, hD, hD']; exact HNB.out u k (by omega)
      have HFyes : Hid (¬ C ++ A = D ++ B → C' = D' → clashF macB key a b (k + 1) = (C ++ A, D ++ B, 0)) := fun h1 h2 => by
        rw [hA, hB, hC, hD] at h1 ⊢
        rw [hC', hD'] at h2
        exact clashF_yes h1 h2
      have HFno : Hid (¬ (¬ C ++ A = D ++ B ∧ C' = D') → clashF macB key a b (k + 1) = o) := fun h => by
        rw [hA, hB, hC, hD, hC', hD'] at h
        rw [ho]
        exact clashF_no h
      have HT : Hid (a.take (k + 1) = b.take (k + 1) ↔ a.take k = b.take k ∧ A = B) := by
        show _ ↔ _
        rw [hA, hB]
        exact take_eq_succ (by omega) (by omega)
      have hsC : C.size ≤ 32 := by rw [hC]; exact chain_le _ _
      have hsD : D.size ≤ 32 := by rw [hD]; exact chain_le _ _
      have hsA : A.size ≤ 200 := by rw [hA]; exact HZA.out k (by omega)
      have hsB : B.size ≤ 200 := by rw [hB]; exact HZB.out k (by omega)
      have hI : InC w g o wr := by rw [ho]; exact HI.out
      rw [← hC, ← hD]
      have HC2 : Hid (C' = chain macB key (a.take (k + 1))) := hC'
      have HD2 : Hid (D' = chain macB key (b.take (k + 1))) := hD'
      clear HRA HRB HNA HNB HI hA hB hC hD hC' hD' ho HZA HZB HEnd1 HEnd2
      have c1 := HRa.out wr hI.bel
      have c2 := HRb.out wr hI.bel
      cases sm with
      | true =>
        by_cases hAB : A = B
        · have dAB : (A.toList == B.toList) = true := beqT hAB
          have HX : Hid (Same true a b (k + 1)) := ⟨fun _ => HT.out.2 ⟨HSM0.out.1 rfl, hAB⟩, fun _ => rfl⟩
          clear hAB HT HSM0
          go_wp2
          go_quiet (fail)
          go_upto_region 13 with (fail)
          refine wp_w (InC w g o) (hI.up (below_drewN (Below.refl _ _) _)) ?_
          clear hI c1 c2
          intro u4 hI
          have c1 := HRa.out u4 hI.bel
          have c2 := HRb.out u4 hI.bel
          by_cases hxy : C ++ A = D ++ B
          · have dxy : ((C ++ A).toList == (D ++ B).toList) = true := beqT hxy
            have HF2 : Hid (clashF macB key a b (k + 1) = o) := HFno.out (fun h => h.1 hxy)
            clear hxy HFyes HFno
            go_wp2_with (first | (go_at_call 14; (with_reducible refine (HNa.out _).mono ?_); rintro r w4 ⟨rfl, hb4⟩; replace hI := hI.up hb4; clear hb4 c1 c2 HNa; have c1 := HRa.out _ hI.bel; have c2 := HRb.out _ hI.bel) | (go_at_call 14; (with_reducible refine (HNb.out _).mono ?_); rintro r w5 ⟨rfl, hb5⟩; replace hI := hI.up hb5; clear hb5 c1 c2 HNb; obtain ⟨⟨x0, x1, x2⟩, f0, f1, f2⟩ := hI.cells))
            exact ⟨⟨k + 1, _, by omega, by go_num, rfl, by rw [HC2.out], by rw [HD2.out], HX, by rw [HF2.out]; exact hI⟩, by simp [intOf]; omega⟩
          · have dxy : ((C ++ A).toList == (D ++ B).toList) = false := beqF hxy
            by_cases hcd : C' = D'
            · have dcd : (C'.toList == D'.toList) = true := beqT hcd
              have HF2 : Hid (clashF macB key a b (k + 1) = (C ++ A, D ++ B, 0)) := HFyes.out hxy hcd
              clear hxy hcd HFyes HFno
              go_wp2_with (first | (go_at_call 14; (with_reducible refine (HNa.out _).mono ?_); rintro r w4 ⟨rfl, hb4⟩; replace hI := hI.up hb4; clear hb4 c1 c2 HNa; have c1 := HRa.out _ hI.bel; have c2 := HRb.out _ hI.bel) | (go_at_call 14; (with_reducible refine (HNb.out _).mono ?_); rintro r w5 ⟨rfl, hb5⟩; replace hI := hI.up hb5; clear hb5 c1 c2 HNb; obtain ⟨⟨x0, x1, x2⟩, f0, f1, f2⟩ := hI.cells))
              have hI2 := hI.put (C ++ A) (D ++ B) 0
              exact ⟨⟨k + 1, _, by omega, by go_num, rfl, by rw [HC2.out], by rw [HD2.out], HX, by rw [HF2.out]; exact hI2⟩, by simp [intOf]; omega⟩
            · have dcd : (C'.toList == D'.toList) = false := beqF hcd
              have HF2 : Hid (clashF macB key a b (k + 1) = o) := HFno.out (fun h => hcd h.2)
              clear hxy hcd HFyes HFno
              go_wp2_with (first | (go_at_call 14; (with_reducible refine (HNa.out _).mono ?_); rintro r w4 ⟨rfl, hb4⟩; replace hI := hI.up hb4; clear hb4 c1 c2 HNa; have c1 := HRa.out _ hI.bel; have c2 := HRb.out _ hI.bel) | (go_at_call 14; (with_reducible refine (HNb.out _).mono ?_); rintro r w5 ⟨rfl, hb5⟩; replace hI := hI.up hb5; clear hb5 c1 c2 HNb; obtain ⟨⟨x0, x1, x2⟩, f0, f1, f2⟩ := hI.cells))
              exact ⟨⟨k + 1, _, by omega, by go_num, rfl, by rw [HC2.out], by rw [HD2.out], HX, by rw [HF2.out]; exact hI⟩, by simp [intOf]; omega⟩
        · have dAB : (A.toList == B.toList) = false := beqF hAB
          have HX : Hid (Same false a b (k + 1)) := ⟨fun h => by simp at h, fun h => absurd (HT.out.1 h).2 hAB⟩
          clear hAB HT HSM0
          go_wp2
          go_quiet (fail)
          go_upto_region 13 with (fail)
          refine wp_w (InC w g o) (hI.up (below_drewN (Below.refl _ _) _)) ?_
          clear hI c1 c2
          intro u4 hI
          have c1 := HRa.out u4 hI.bel
          have c2 := HRb.out u4 hI.bel
          by_cases hxy : C ++ A = D ++ B
          · have dxy : ((C ++ A).toList == (D ++ B).toList) = true := beqT hxy
            have HF2 : Hid (clashF macB key a b (k + 1) = o) := HFno.out (fun h => h.1 hxy)
            clear hxy HFyes HFno
            go_wp2_with (first | (go_at_call 14; (with_reducible refine (HNa.out _).mono ?_); rintro r w4 ⟨rfl, hb4⟩; replace hI := hI.up hb4; clear hb4 c1 c2 HNa; have c1 := HRa.out _ hI.bel; have c2 := HRb.out _ hI.bel) | (go_at_call 14; (with_reducible refine (HNb.out _).mono ?_); rintro r w5 ⟨rfl, hb5⟩; replace hI := hI.up hb5; clear hb5 c1 c2 HNb; obtain ⟨⟨x0, x1, x2⟩, f0, f1, f2⟩ := hI.cells))
            exact ⟨⟨k + 1, _, by omega, by go_num, rfl, by rw [HC2.out], by rw [HD2.out], HX, by rw [HF2.out]; exact hI⟩, by simp [intOf]; omega⟩
          · have dxy : ((C ++ A).toList == (D ++ B).toList) = false := beqF hxy
            by_cases hcd : C' = D'
            · have dcd : (C'.toList == D'.toList) = true := beqT hcd
              have HF2 : Hid (clashF macB key a b (k + 1) = (C ++ A, D ++ B, 0)) := HFyes.out hxy hcd
              clear hxy hcd HFyes HFno
              go_wp2_with (first | (go_at_call 14; (with_reducible refine (HNa.out _).mono ?_); rintro r w4 ⟨rfl, hb4⟩; replace hI := hI.up hb4; clear hb4 c1 c2 HNa; have c1 := HRa.out _ hI.bel; have c2 := HRb.out _ hI.bel) | (go_at_call 14; (with_reducible refine (HNb.out _).mono ?_); rintro r w5 ⟨rfl, hb5⟩; replace hI := hI.up hb5; clear hb5 c1 c2 HNb; obtain ⟨⟨x0, x1, x2⟩, f0, f1, f2⟩ := hI.cells))
              have hI2 := hI.put (C ++ A) (D ++ B) 0
              exact ⟨⟨k + 1, _, by omega, by go_num, rfl, by rw [HC2.out], by rw [HD2.out], HX, by rw [HF2.out]; exact hI2⟩, by simp [intOf]; omega⟩
            · have dcd : (C'.toList == D'.toList) = false := beqF hcd
              have HF2 : Hid (clashF macB key a b (k + 1) = o) := HFno.out (fun h => hcd h.2)
              clear hxy hcd HFyes HFno
              go_wp2_with (first | (go_at_call 14; (with_reducible refine (HNa.out _).mono ?_); rintro r w4 ⟨rfl, hb4⟩; replace hI := hI.up hb4; clear hb4 c1 c2 HNa; have c1 := HRa.out _ hI.bel; have c2 := HRb.out _ hI.bel) | (go_at_call 14; (with_reducible refine (HNb.out _).mono ?_); rintro r w5 ⟨rfl, hb5⟩; replace hI := hI.up hb5; clear hb5 c1 c2 HNb; obtain ⟨⟨x0, x1, x2⟩, f0, f1, f2⟩ := hI.cells))
              exact ⟨⟨k + 1, _, by omega, by go_num, rfl, by rw [HC2.out], by rw [HD2.out], HX, by rw [HF2.out]; exact hI⟩, by simp [intOf]; omega⟩
      | false =>
        have HX : Hid (Same false a b (k + 1)) := ⟨fun h => by simp at h, fun h => by have := HSM0.out.2 (HT.out.1 h).1; simp at this⟩
        clear HT HSM0
        go_wp2
        go_quiet (fail)
        go_upto_region 13 with (fail)
        refine wp_w (InC w g o) (hI.up (below_drewN (Below.refl _ _) _)) ?_
        clear hI c1 c2
        intro u4 hI
        have c1 := HRa.out u4 hI.bel
        have c2 := HRb.out u4 hI.bel
        by_cases hxy : C ++ A = D ++ B
        · have dxy : ((C ++ A).toList == (D ++ B).toList) = true := beqT hxy
          have HF2 : Hid (clashF macB key a b (k + 1) = o) := HFno.out (fun h => h.1 hxy)
          clear hxy HFyes HFno
          go_wp2_with (first | (go_at_call 14; (with_reducible refine (HNa.out _).mono ?_); rintro r w4 ⟨rfl, hb4⟩; replace hI := hI.up hb4; clear hb4 c1 c2 HNa; have c1 := HRa.out _ hI.bel; have c2 := HRb.out _ hI.bel) | (go_at_call 14; (with_reducible refine (HNb.out _).mono ?_); rintro r w5 ⟨rfl, hb5⟩; replace hI := hI.up hb5; clear hb5 c1 c2 HNb; obtain ⟨⟨x0, x1, x2⟩, f0, f1, f2⟩ := hI.cells))
          exact ⟨⟨k + 1, _, by omega, by go_num, rfl, by rw [HC2.out], by rw [HD2.out], HX, by rw [HF2.out]; exact hI⟩, by simp [intOf]; omega⟩
        · have dxy : ((C ++ A).toList == (D ++ B).toList) = false := beqF hxy
          by_cases hcd : C' = D'
          · have dcd : (C'.toList == D'.toList) = true := beqT hcd
            have HF2 : Hid (clashF macB key a b (k + 1) = (C ++ A, D ++ B, 0)) := HFyes.out hxy hcd
            clear hxy hcd HFyes HFno
            go_wp2_with (first | (go_at_call 14; (with_reducible refine (HNa.out _).mono ?_); rintro r w4 ⟨rfl, hb4⟩; replace hI := hI.up hb4; clear hb4 c1 c2 HNa; have c1 := HRa.out _ hI.bel; have c2 := HRb.out _ hI.bel) | (go_at_call 14; (with_reducible refine (HNb.out _).mono ?_); rintro r w5 ⟨rfl, hb5⟩; replace hI := hI.up hb5; clear hb5 c1 c2 HNb; obtain ⟨⟨x0, x1, x2⟩, f0, f1, f2⟩ := hI.cells))
            have hI2 := hI.put (C ++ A) (D ++ B) 0
            exact ⟨⟨k + 1, _, by omega, by go_num, rfl, by rw [HC2.out], by rw [HD2.out], HX, by rw [HF2.out]; exact hI2⟩, by simp [intOf]; omega⟩
          · have dcd : (C'.toList == D'.toList) = false := beqF hcd
            have HF2 : Hid (clashF macB key a b (k + 1) = o) := HFno.out (fun h => hcd h.2)
            clear hxy hcd HFyes HFno
            go_wp2_with (first | (go_at_call 14; (with_reducible refine (HNa.out _).mono ?_); rintro r w4 ⟨rfl, hb4⟩; replace hI := hI.up hb4; clear hb4 c1 c2 HNa; have c1 := HRa.out _ hI.bel; have c2 := HRb.out _ hI.bel) | (go_at_call 14; (with_reducible refine (HNb.out _).mono ?_); rintro r w5 ⟨rfl, hb5⟩; replace hI := hI.up hb5; clear hb5 c1 c2 HNb; obtain ⟨⟨x0, x1, x2⟩, f0, f1, f2⟩ := hI.cells))
            exact ⟨⟨k + 1, _, by omega, by go_num, rfl, by rw [HC2.out], by rw [HD2.out], HX, by rw [HF2.out]; exact hI⟩, by simp [intOf]; omega⟩
    · obtain rfl : k = n := by omega
      obtain ⟨o, ho⟩ : ∃ o, o = clashF macB key a b k := ⟨_, rfl⟩
      have hI : InC w g o wr := by rw [ho]; exact HI.out
      obtain ⟨C, hC⟩ : ∃ C, C = chain macB key (a.take k) := ⟨_, rfl⟩
      obtain ⟨D, hD⟩ : ∃ D, D = chain macB key (b.take k) := ⟨_, rfl⟩
      rw [← hC, ← hD] at HEnd1 HEnd2 ⊢
      rw [← ho] at HEnd2
      obtain ⟨o1, o2, o3⟩ := o
      obtain ⟨⟨x0, x1, x2⟩, f0, f1, f2⟩ := hI.cells
      obtain ⟨⟨r0, r1, r2⟩, g0, g1, g2⟩ := hI.rcells
      clear HRA HRB HNA HNB HI hC hD ho HZA HZB
      cases sm with
      | true =>
        have HV : Hid (clashA macB key k a b = (⟨#[]⟩, ⟨#[]⟩, 6)) := HEnd1.out (.inl (HSM0.out.1 rfl))
        clear HEnd1 HEnd2 HSM0
        go_wp2
        obtain ⟨hg, hB⟩ := hI.fin (.string ⟨#[]⟩) (.string ⟨#[]⟩) (.int .i64 6)
        exact bodyPost_ret (results_cell_row Tryd.results5 _ _ w.heap.size _ _ _ _ rfl hg Tryd.underlying25 rfl infoC) rfl ⟨by rw [HV.out], hB⟩
      | false =>
        have hns : ¬ a.take k = b.take k := fun h => by have := HSM0.out.2 h; simp at this
        by_cases hcd : C = D
        · have HV : Hid (clashA macB key k a b = (o1, o2, o3)) := HEnd2.out (fun h => by rcases h with h | h; exact hns h; exact h hcd)
          have dcd : (C.toList == D.toList) = true := beqT hcd
          clear HEnd1 HEnd2 HSM0 hns hcd
          go_wp2
          obtain ⟨hg, hB⟩ := hI.fin (.string o1) (.string o2) (.int .i64 o3)
          exact bodyPost_ret (results_cell_row Tryd.results5 _ _ w.heap.size _ _ _ _ rfl hg Tryd.underlying25 rfl infoC) rfl ⟨by rw [HV.out], hB⟩
        · have HV : Hid (clashA macB key k a b = (⟨#[]⟩, ⟨#[]⟩, 6)) := HEnd1.out (.inr hcd)
          have dcd : (C.toList == D.toList) = false := beqF hcd
          clear HEnd1 HEnd2 HSM0 hns hcd
          go_wp2
          obtain ⟨hg, hB⟩ := hI.fin (.string ⟨#[]⟩) (.string ⟨#[]⟩) (.int .i64 6)
          exact bodyPost_ret (results_cell_row Tryd.results5 _ _ w.heap.size _ _ _ _ rfl hg Tryd.underlying25 rfl infoC) rfl ⟨by rw [HV.out], hB⟩
end Go.Proofs.YtjnlffdopbfelabDoor.lm
