/-
  What a rule says: the program's verdictOf and rulingOf. No condition.
-/
import Derived.Test.YtndjjhcdnlkekaaDoorRu0
namespace Go.Proofs.YtndjjhcdnlkekaaDoor.rl
open Go.ChangeShapes Go.WideShapes Go.ChangeAt Go.RowKit
open Go.Proofs.YtndjjhcdnlkekaaDoor.sc (ret_b)
open Go.Proofs.YtndjjhcdnlkekaaDoor.wi (heap_lt calls_w wp_w)
open Classical
set_option linter.unusedVariables false

theorem ta_da (w : World) : (Instr.typeAssert (.iface 69 (.agg #[])) 51 86 true).run Tryd.prog w = .ok (.tuple #[.agg #[], .bool false]) w := by kernel_rfl
theorem ta_dh (w : World) : (Instr.typeAssert (.iface 69 (.agg #[])) 51 88 true).run Tryd.prog w = .ok (.tuple #[.agg #[.int .i64 0], .bool false]) w := by kernel_rfl
theorem ta_aa (w : World) : (Instr.typeAssert (.iface 86 (.agg #[])) 51 86 true).run Tryd.prog w = .ok (.tuple #[.agg #[], .bool true]) w := by kernel_rfl
theorem ta_ha (n : Int) (w : World) : (Instr.typeAssert (.iface 88 (.agg #[.int .i64 n])) 51 86 true).run Tryd.prog w = .ok (.tuple #[.agg #[], .bool false]) w := by kernel_rfl
theorem ta_hh (n : Int) (w : World) : (Instr.typeAssert (.iface 88 (.agg #[.int .i64 n])) 51 88 true).run Tryd.prog w = .ok (.tuple #[.agg #[.int .i64 n], .bool true]) w := by kernel_rfl
theorem infoV : (Tryd.prog.info? 45).map (·.size) = some 2 := by kernel_rfl
set_option maxRecDepth 100000 in
theorem verdict_hold (n : Int) (w : World) : Calls Tryd.prog 49 #[holdV n] w fun e w' => e = .returned (.agg #[.int .i64 2, .int .i64 n]) ∧ Below w.heap.size w w' := by
  unfold holdV
  have h1 := fun w => ta_ha n w
  have h2 := fun w => ta_hh n w
  have HB : Hid (∀ o o2, Below w.heap.size w ((w.alloc o).alloc o2)) := fun o o2 => ((Below.refl _ _).alloc (Nat.le_refl _) _).alloc (by simp) _
  go_enter Tryd.func49, Tryd.ntmps49
  go_wp2
  exact bodyPost_ret (results_cell_row Tryd.results49 _ _ w.heap.size _ _ _ _ rfl ((rw.At.new w #[.int .i64 2, .int .i64 n] _).up (rw.up_alloc _ _)) Tryd.underlying45 rfl infoV) rfl ⟨rfl, HB.out _ _⟩
set_option maxRecDepth 100000 in
theorem verdict_allow (w : World) : Calls Tryd.prog 49 #[allowV] w fun e w' => e = .returned (.agg #[.int .i64 1, .int .i64 0]) ∧ Below w.heap.size w w' := by
  unfold allowV
  have h1 := fun w => ta_aa w
  have HB : Hid (∀ o o2, Below w.heap.size w ((w.alloc o).alloc o2)) := fun o o2 => ((Below.refl _ _).alloc (Nat.le_refl _) _).alloc (by simp) _
  have HB1 : Hid (∀ o, Below w.heap.size w (w.alloc o)) := fun o => (Below.refl _ _).alloc (Nat.le_refl _) _
  go_enter Tryd.func49, Tryd.ntmps49
  go_wp2
  first
  | exact bodyPost_ret (results_cell_row Tryd.results49 _ _ w.heap.size _ _ _ _ rfl ((rw.At.new w #[.int .i64 1, .int .i64 0] _).up (rw.up_alloc _ _)) Tryd.underlying45 rfl infoV) rfl ⟨rfl, HB.out _ _⟩
  | exact bodyPost_ret (results_cell_row Tryd.results49 _ _ w.heap.size _ _ _ _ rfl (rw.At.new w #[.int .i64 1, .int .i64 0] _) Tryd.underlying45 rfl infoV) rfl ⟨rfl, HB1.out _⟩
set_option maxRecDepth 100000 in
theorem verdict_deny (w : World) : Calls Tryd.prog 49 #[denyV] w fun e w' => e = .returned (.agg #[.int .i64 0, .int .i64 0]) ∧ Below w.heap.size w w' := by
  unfold denyV
  have h1 := fun w => ta_da w
  have h2 := fun w => ta_dh w
  have HB1 : Hid (∀ o, Below w.heap.size w (w.alloc o)) := fun o => (Below.refl _ _).alloc (Nat.le_refl _) _
  go_enter Tryd.func49, Tryd.ntmps49
  go_wp2
  exact bodyPost_ret (results_cell_row Tryd.results49 _ _ w.heap.size _ _ _ _ rfl (rw.At.new w #[.int .i64 0, .int .i64 0] _) Tryd.underlying45 rfl infoV) rfl ⟨rfl, HB1.out _⟩
/-- is there such a kind of such a need? -/
def Known (k n : Int) : Prop := (k = 0 ∧ n = 0) ∨ (k = 1 ∧ n = 0) ∨ (k = 2 ∧ 1 ≤ n ∧ n ≤ 3)
def sayV (k n : Int) : Value := if k = 1 then allowV else if k = 2 then holdV n else denyV
def verA (j : Nat) : Int := [0, 1, 2, 2, 2].getD j 0
def verB (j : Nat) : Int := [0, 0, 1, 2, 3].getD j 0
theorem verdict_at (j : Nat) (h : j < 5) : ∃ x, rulV[j]? = some x ∧ x = sayV (verA j) (verB j) ∧ Known (verA j) (verB j) ∧ ∀ w, Calls Tryd.prog 49 #[x] w fun e w' => e = .returned (.agg #[.int .i64 (verA j), .int .i64 (verB j)]) ∧ Below w.heap.size w w' := by
  rcases (show j = 0 ∨ j = 1 ∨ j = 2 ∨ j = 3 ∨ j = 4 by omega) with rfl | rfl | rfl | rfl | rfl
  · exact ⟨denyV, rfl, rfl, .inl ⟨rfl, rfl⟩, verdict_deny⟩
  · exact ⟨allowV, rfl, rfl, .inr (.inl ⟨rfl, rfl⟩), verdict_allow⟩
  · exact ⟨holdV 1, rfl, rfl, .inr (.inr ⟨rfl, by decide⟩), verdict_hold 1⟩
  · exact ⟨holdV 2, rfl, rfl, .inr (.inr ⟨rfl, by decide⟩), verdict_hold 2⟩
  · exact ⟨holdV 3, rfl, rfl, .inr (.inr ⟨rfl, by decide⟩), verdict_hold 3⟩
theorem not_known {k n : Int} (h : ∀ j, j < 5 → ¬ (verA j = k ∧ verB j = n)) : ¬ Known k n := by
  rintro (⟨rfl, rfl⟩ | ⟨rfl, rfl⟩ | ⟨rfl, h1, h2⟩)
  · exact h 0 (by omega) ⟨rfl, rfl⟩
  · exact h 1 (by omega) ⟨rfl, rfl⟩
  · rcases (show n = 1 ∨ n = 2 ∨ n = 3 by omega) with rfl | rfl | rfl
    · exact h 2 (by omega) ⟨rfl, rfl⟩
    · exact h 3 (by omega) ⟨rfl, rfl⟩
    · exact h 4 (by omega) ⟨rfl, rfl⟩
set_option maxHeartbeats 4000000 in
theorem rulingOf_any (k n : Int) (u g : ByteArray) (w : World) :
    Calls Tryd.prog 33 #[.agg #[.int .i64 k, .int .i64 n, .string u, .string g]] w fun e w' => (∃ v, e = .returned (.tuple #[v, .bool (decide (Known k n))]) ∧ (Known k n → v = sayV k n)) ∧ Below w.heap.size w w' := by
  have HI : Hid (rw.Bel w (w.alloc (.cells #[.int .i64 k, .int .i64 n, .string u, .string g] 26)) ∧ rw.At (w.alloc (.cells #[.int .i64 k, .int .i64 n, .string u, .string g] 26)) w.heap.size #[.int .i64 k, .int .i64 n, .string u, .string g] 26) := ⟨(Below.refl _ _).alloc (Nat.le_refl _) _, rw.At.new _ _ _⟩
  go_enter Tryd.func33, Tryd.ntmps33
  go_wp2_with (go_at_call 51; fail)
  refine calls_w (fun u1 => rw.Bel w u1 ∧ rw.At u1 w.heap.size #[.int .i64 k, .int .i64 n, .string u, .string g] 26) HI.out ?_
  clear HI
  rintro u0 ⟨i0, a0⟩
  refine (rulings_any u0).mono ?_
  rintro e w1 ⟨b, c, rfl, hb1, hb2, hc, hbel⟩
  have HC : Hid (∀ u1, Below w1.heap.size w1 u1 → ∀ j, j < 5 → u1.cell? ⟨b, j, none⟩ = rulV[j]?) := fun u1 hu j hj => (hu.cell (p := ⟨b, j, none⟩) hb2).trans (hc j hj)
  have i1 : Hid (rw.Bel w w1 ∧ rw.At w1 w.heap.size #[.int .i64 k, .int .i64 n, .string u, .string g] 26 ∧ Below w1.heap.size w1 w1) := ⟨i0.up hbel, a0.up hbel, Below.refl _ _⟩
  clear i0 a0 hbel hc hb1 hb2
  go_wp2_with fail
  go_loopw [8] (fun i u1 => ∃ j : Nat, j ≤ 5 ∧ i = .int .i64 j ∧ Hid (∀ j', j' < j → ¬ (verA j' = k ∧ verB j' = n)) ∧ Hid (rw.Bel w u1 ∧ rw.At u1 w.heap.size #[.int .i64 k, .int .i64 n, .string u, .string g] 26 ∧ Below w1.heap.size w1 u1)) (fun i _ => 5 - (intOf i).toNat)
  case atStart => exact ⟨0, Nat.zero_le _, rfl, fun j' h => by omega, i1⟩
  case round =>
    clear i1
    obtain ⟨j, hj, rfl, HN, HU⟩ := hrel
    by_cases hlt : j < 5
    · obtain ⟨x, hx, HX, HK, hv⟩ := verdict_at j hlt
      have cx := HC.out _ HU.out.2.2 j hlt
      rw [hx] at cx
      have HX2 : Hid (x = sayV (verA j) (verB j)) := HX
      have HK2 : Hid (Known (verA j) (verB j)) := HK
      obtain ⟨i, a, hw1⟩ := HU.out
      have HS : Hid (∀ j', j' < j + 1 → j' ≠ j → ¬ (verA j' = k ∧ verB j' = n)) := fun j' h h' => HN.out j' (by omega)
      have HJ : Hid (∀ a b, a = verA j → b = verB j → ¬ (a = k ∧ b = n) → ∀ j', j' < j + 1 → ¬ (verA j' = k ∧ verB j' = n)) := fun a b ha hb h j' h' => by
        by_cases e : j' = j
        · subst e; rw [← ha, ← hb]; exact h
        · exact HS.out j' h' e
      obtain ⟨A, hA⟩ : ∃ A, A = verA j := ⟨_, rfl⟩
      obtain ⟨B, hB⟩ : ∃ B, B = verB j := ⟨_, rfl⟩
      rw [← hA, ← hB] at hv HX2 HK2
      have HJ2 : Hid (¬ (A = k ∧ B = n) → ∀ j', j' < j + 1 → ¬ (verA j' = k ∧ verB j' = n)) := HJ.out A B hA hB
      clear hA hB HX HK HU HN hx HS HJ
      have hj5 : (j : Int) < 5 := by omega
      go_wp2_with fail
      replace i := i.up (rw.up_drew _)
      replace a := a.up (rw.up_drew _)
      replace hw1 := hw1.drew
      have c0 := a.cell 0
      have c1 := a.cell 1
      by_cases he : A = k ∧ B = n
      · have e1 : (A == k) = true := beq_iff_eq.2 he.1
        have e2 : (B == n) = true := beq_iff_eq.2 he.2
        have HF : Hid (true = decide (Known k n) ∧ x = sayV k n) := by
          have h := HK2.out
          have h' := HX2.out
          rw [he.1, he.2] at h h'
          exact ⟨(decide_eq_true h).symm, h'⟩
        clear HJ2 HK2 HX2 he
        go_region_with (go_at_call 49; (with_reducible refine (hv _).mono ?_); rintro r w8 ⟨rfl, hb8⟩; replace i := i.up hb8; replace a := a.up hb8; clear hb8 c0 c1 hw1; have c0 := a.cell 0; have c1 := a.cell 1)
        all_goals
          have HB : Hid (rw.Bel w w8) := i
          clear i a c0 c1
          go_wp2
          go_ret2
          exact ⟨⟨x, by rw [← HF.out.1]; rfl, fun _ => HF.out.2⟩, HB.out⟩
      · have hn : (A == k) = false ∨ (A == k) = true ∧ (B == n) = false := by
          by_cases h : A = k
          · exact .inr ⟨beq_iff_eq.2 h, beq_eq_false_iff_ne.2 fun h' => he ⟨h, h'⟩⟩
          · exact .inl (beq_eq_false_iff_ne.2 h)
        have HN : Hid (∀ j', j' < j + 1 → ¬ (verA j' = k ∧ verB j' = n)) := HJ2.out he
        clear HJ2 HK2 HX2 he
        rcases hn with e1 | ⟨e1, e2⟩
        all_goals
          go_region_with (go_at_call 49; (with_reducible refine (hv _).mono ?_); rintro r w8 ⟨rfl, hb8⟩; replace i := i.up hb8; replace a := a.up hb8; replace hw1 := hw1.trans (hb8.mono hw1.size); clear hb8 c0 c1; have c0 := a.cell 0; have c1 := a.cell 1)
          all_goals
            have HB : Hid (rw.Bel w w8 ∧ rw.At w8 w.heap.size #[.int .i64 k, .int .i64 n, .string u, .string g] 26 ∧ Below w1.heap.size w1 w8) := ⟨i, a, hw1⟩
            clear i a c0 c1 hw1
            go_wp2
            exact ⟨⟨j + 1, by omega, by go_num, HN, HB⟩, by simp [intOf]; omega⟩
    · obtain rfl : j = 5 := by omega
      have HF : Hid (¬ Known k n) := not_known fun j' h => HN.out j' h
      have HV : Hid (false = decide (Known k n)) := (decide_eq_false HF.out).symm
      have HB : Hid (rw.Bel w wr) := HU.out.1
      clear HN HU
      go_wp2
      go_ret2
      exact ⟨⟨_, by rw [← HV.out]; rfl, fun h => absurd h HF.out⟩, HB.out⟩
end Go.Proofs.YtndjjhcdnlkekaaDoor.rl
