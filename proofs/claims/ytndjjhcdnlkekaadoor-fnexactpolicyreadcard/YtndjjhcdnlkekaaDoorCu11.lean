/-
  The law's own marks on a policy's rules, found again. No condition.
-/
import Derived.Test.YtndjjhcdnlkekaaDoorCu10
import Derived.Test.YtndjjhcdnlkekaaDoorRegW
import Derived.Deep.RegionHeld3
import Derived.OrdersHeld
namespace Go.Proofs.YtndjjhcdnlkekaaDoor.cu
open Go.ChangeShapes Go.WideShapes Go.ChangeAt Go.RowKit
open Go.Proofs.YtndjjhcdnlkekaaDoor.rl
open Go.Proofs.YtndjjhcdnlkekaaDoor.wi (heap_lt calls_w wp_w)
open Go.Proofs.YtndjjhcdnlkekaaDoor.ss (markT markText_any)
open Classical
set_option linter.unusedVariables false

set_option maxRecDepth 20000 in
set_option maxHeartbeats 4000000 in
theorem heldRows (g off cap n : Nat) (w : World) (hl : n ≤ 12) (h : ∀ u, Below w.heap.size w u → ∀ i, i < n * 4 → u.cell? ⟨g, off + i, none⟩ = some (mv i)) :
    Calls Tryd.prog 45 #[.slice (some ⟨g, off, none⟩) n cap, .int .i64 1] w fun r w' => r = .returned (.int .i64 (4 * (n : Int) + 1)) ∧ Below w.heap.size w w' := by
  have HB : Hid (Below w.heap.size w w) := Below.refl _ _
  have HC : Hid (∀ u, Below w.heap.size w u → ∀ k, k < n → u.cell? ⟨g, off + k * 4, none⟩ = some (.int .i64 (4 * (k : Int) + 1)) ∧ u.cell? ⟨g, off + k * 4 + 1, none⟩ = some (.int .i64 (4 * (k : Int) + 1 + 1)) ∧ u.cell? ⟨g, off + k * 4 + 2, none⟩ = some (.string (markT (4 * k + 3))) ∧ u.cell? ⟨g, off + k * 4 + 3, none⟩ = some (.string (markT (4 * k + 4)))) := fun u hu k hk => by
    have a := h u hu (k * 4) (by omega)
    have b := h u hu (k * 4 + 1) (by omega)
    have c := h u hu (k * 4 + 2) (by omega)
    have d := h u hu (k * 4 + 3) (by omega)
    rw [mv0] at a; rw [mv1] at b; rw [mv2] at c; rw [mv3] at d
    exact ⟨a, b, c, d⟩
  clear h
  go_enter Tryd.func45, Tryd.ntmps45
  go_wp2
  go_loopw [1, 5] (fun kk i u => ∃ k : Nat, k ≤ n ∧ i = .int .i64 k ∧ kk = .int .i64 (4 * (k : Int) + 1) ∧ Hid (Below w.heap.size w u)) (fun _ i _ => n - (intOf i).toNat)
  case atStart => exact ⟨0, Nat.zero_le _, rfl, rfl, HB⟩
  case round =>
    clear HB
    obtain ⟨k, hk, rfl, rfl, HU⟩ := hrel
    by_cases hlt : k < n
    · have HT1 : Hid (∀ u, Calls Tryd.prog 62 #[.int .i64 (4 * (k : Int) + 1 + 1 + 1)] u fun r w' => r = .returned (.string (markT (4 * k + 3))) ∧ Below u.heap.size u w') := fun u => by
        have := markText_any (4 * k + 3) u (by omega) (by omega)
        have e : ((4 * k + 3 : Nat) : Int) = 4 * (k : Int) + 1 + 1 + 1 := by omega
        rwa [e] at this
      have HT2 : Hid (∀ u, Calls Tryd.prog 62 #[.int .i64 (4 * (k : Int) + 1 + 1 + 1 + 1)] u fun r w' => r = .returned (.string (markT (4 * k + 4))) ∧ Below u.heap.size u w') := fun u => by
        have := markText_any (4 * k + 4) u (by omega) (by omega)
        have e : ((4 * k + 4 : Nat) : Int) = 4 * (k : Int) + 1 + 1 + 1 + 1 := by omega
        rwa [e] at this
      obtain ⟨z1, hz1⟩ : ∃ z, z = markT (4 * k + 3) := ⟨_, rfl⟩
      obtain ⟨z2, hz2⟩ : ∃ z, z = markT (4 * k + 4) := ⟨_, rfl⟩
      have HC2 : Hid (∀ u, rw.Bel w u → u.cell? ⟨g, off + k * 4, none⟩ = some (.int .i64 (4 * (k : Int) + 1)) ∧ u.cell? ⟨g, off + k * 4 + 1, none⟩ = some (.int .i64 (4 * (k : Int) + 1 + 1)) ∧ u.cell? ⟨g, off + k * 4 + 2, none⟩ = some (.string z1) ∧ u.cell? ⟨g, off + k * 4 + 3, none⟩ = some (.string z2)) := fun u hu => by rw [hz1, hz2]; exact HC.out u hu k hlt
      rw [← hz1] at HT1
      rw [← hz2] at HT2
      have dz1 : (z1.toList == z1.toList) = true := by simp
      have dz2 : (z2.toList == z2.toList) = true := by simp
      clear hz1 hz2 HC
      obtain ⟨c0, c1, c2, c3⟩ := HC2.out wr HU.out
      have i : rw.Bel w wr := HU.out
      clear HU
      go_wp2_with fail
      have HS : Hid (∀ u, rw.Bel w u → (u.cell? ⟨g, off + k * 4, none⟩ = some (.int .i64 (4 * (k : Int) + 1)) ∧ u.cell? ⟨g, off + k * 4 + 1, none⟩ = some (.int .i64 (4 * (k : Int) + 1 + 1)) ∧ u.cell? ⟨g, off + k * 4 + 2, none⟩ = some (.string z1) ∧ u.cell? ⟨g, off + k * 4 + 3, none⟩ = some (.string z2))) := HC2.out
      clear c0 c1 c2 c3
      refine wp_region_noPanic ?_
      refine wp_region_held_drew (S := fun u => u.cell? ⟨g, off + k * 4, none⟩ = some (.int .i64 (4 * (k : Int) + 1)) ∧ u.cell? ⟨g, off + k * 4 + 1, none⟩ = some (.int .i64 (4 * (k : Int) + 1 + 1)) ∧ u.cell? ⟨g, off + k * 4 + 2, none⟩ = some (.string z1) ∧ u.cell? ⟨g, off + k * 4 + 3, none⟩ = some (.string z2)) (by kernel_rfl) (HS.out _ (i.up (rw.up_drew _))) (fun _ => ?_)
      refine rw.region_w (fun u => rw.Bel w u) (i.up (rw.up_drew _)) ?_
      clear i
      intro u i
      have hHeld : (u.cell? ⟨g, off + k * 4, none⟩ = some (.int .i64 (4 * (k : Int) + 1)) ∧ u.cell? ⟨g, off + k * 4 + 1, none⟩ = some (.int .i64 (4 * (k : Int) + 1 + 1)) ∧ u.cell? ⟨g, off + k * 4 + 2, none⟩ = some (.string z1) ∧ u.cell? ⟨g, off + k * 4 + 3, none⟩ = some (.string z2)) := HS.out u i
      refine wpAnyH_take (i := 0) (oi := { dst := some 30, op := Op.move (Operand.tmp 0), type := 32, pos := "exact.go:997", after := #[], guard := none }) (v := ?_) rfl (by kernel_rfl) (by kernel_rfl) (by kernel_rfl) (fun _ _ _ h => h) (Or.inl ⟨by rfl, ?_⟩) hHeld ?_
      rotate_left
      · rintro w ⟨z3, z4, z5, z6⟩; go_simp; (try with_reducible rfl)
      try simp only [Act.put, List.setIfInBounds_toArray, List.set_cons_zero, List.set_cons_succ]
      refine wpAnyH_take (i := 1) (oi := { dst := some 31, op := Op.move (Operand.tmp 5), type := 3, pos := "exact.go:997", after := #[], guard := none }) (v := ?_) rfl (by kernel_rfl) (by kernel_rfl) (by kernel_rfl) (fun _ _ _ h => h) (Or.inl ⟨by rfl, ?_⟩) hHeld ?_
      rotate_left
      · rintro w ⟨z3, z4, z5, z6⟩; go_simp; (try with_reducible rfl)
      try simp only [Act.put, List.setIfInBounds_toArray, List.set_cons_zero, List.set_cons_succ]
      refine wpAnyH_take (i := 2) (oi := { dst := some 32, op := Op.indexAddr 32 (Operand.tmp 30) (Operand.tmp 31), type := 0, pos := "exact.go:997", after := #[{ on := 0, ground := Ground.data }, { on := 1, ground := Ground.data }], guard := none }) (v := ?_) rfl (by kernel_rfl) (by kernel_rfl) (by kernel_rfl) (fun _ _ _ h => h) (Or.inl ⟨by rfl, ?_⟩) hHeld ?_
      rotate_left
      · rintro w ⟨z3, z4, z5, z6⟩; go_simp; (try with_reducible rfl)
      try simp only [Act.put, List.setIfInBounds_toArray, List.set_cons_zero, List.set_cons_succ]
      refine wpAnyH_take (i := 3) (oi := { dst := some 33, op := Op.fieldAddr 26 (Operand.tmp 32) 2, type := 0, pos := "exact.go:997", after := #[{ on := 2, ground := Ground.data }], guard := none }) (v := ?_) rfl (by kernel_rfl) (by kernel_rfl) (by kernel_rfl) (fun _ _ _ h => h) (Or.inl ⟨by rfl, ?_⟩) hHeld ?_
      rotate_left
      · rintro w ⟨z3, z4, z5, z6⟩; go_simp; (try with_reducible rfl)
      try simp only [Act.put, List.setIfInBounds_toArray, List.set_cons_zero, List.set_cons_succ]
      refine wpAnyH_take (i := 4) (oi := { dst := some 34, op := Op.load 9 (Operand.tmp 33), type := 9, pos := "exact.go:997", after := #[{ on := 3, ground := Ground.data }], guard := none }) (v := ?_) rfl (by kernel_rfl) (by kernel_rfl) (by kernel_rfl) (fun _ _ _ h => h) (Or.inl ⟨by rfl, ?_⟩) hHeld ?_
      rotate_left
      · rintro w ⟨z3, z4, z5, z6⟩; go_simp; (try with_reducible rfl)
      try simp only [Act.put, List.setIfInBounds_toArray, List.set_cons_zero, List.set_cons_succ]
      refine wpAnyH_take (i := 5) (oi := { dst := some 35, op := Op.move (Operand.tmp 1), type := 3, pos := "exact.go:997", after := #[], guard := none }) (v := ?_) rfl (by kernel_rfl) (by kernel_rfl) (by kernel_rfl) (fun _ _ _ h => h) (Or.inl ⟨by rfl, ?_⟩) hHeld ?_
      rotate_left
      · rintro w ⟨z3, z4, z5, z6⟩; go_simp; (try with_reducible rfl)
      try simp only [Act.put, List.setIfInBounds_toArray, List.set_cons_zero, List.set_cons_succ]
      refine wpAnyH_ready (rs := [6]) (by kernel_rfl) (by simp) ?_
      refine AllReadyH.cons rfl (fun K hK => ?_) AllReadyH.nil
      go_simp
      go_at_call 62
      refine (HT1.out u).mono ?_
      rintro r7 w7 ⟨rfl, hb⟩
      go_wp2_with fail
      refine hK.out _ _ (HS.out _ (i.up hb)) (fun _ => ?_)
      clear hK K hHeld
      try simp only [Act.put, List.setIfInBounds_toArray, List.set_cons_zero, List.set_cons_succ]
      refine rw.region_w (fun u => rw.Bel w u) (i.up hb) ?_
      clear i hb
      intro u i
      have hHeld : (u.cell? ⟨g, off + k * 4, none⟩ = some (.int .i64 (4 * (k : Int) + 1)) ∧ u.cell? ⟨g, off + k * 4 + 1, none⟩ = some (.int .i64 (4 * (k : Int) + 1 + 1)) ∧ u.cell? ⟨g, off + k * 4 + 2, none⟩ = some (.string z1) ∧ u.cell? ⟨g, off + k * 4 + 3, none⟩ = some (.string z2)) := HS.out u i
      refine wpAnyH_take (i := 7) (oi := { dst := some 37, op := Op.binOp BinOp.neq 9 (Operand.tmp 34) (Operand.tmp 36) 9, type := 4, pos := "exact.go:997", after := #[{ on := 4, ground := Ground.data }, { on := 6, ground := Ground.data }], guard := none }) (v := ?_) rfl (by kernel_rfl) (by kernel_rfl) (by kernel_rfl) (fun _ _ _ h => h) (Or.inl ⟨by rfl, ?_⟩) hHeld ?_
      rotate_left
      · rintro w ⟨z3, z4, z5, z6⟩; go_simp; (try with_reducible rfl)
      try simp only [Act.put, List.setIfInBounds_toArray, List.set_cons_zero, List.set_cons_succ]
      refine wpAnyH_done (by kernel_rfl) ?_ _
      refine NoPanic.normal ?_
      clear hHeld HT1
      go_wp2_with fail
      refine wp_region_noPanic ?_
      refine wp_region_held_drew (S := fun u => u.cell? ⟨g, off + k * 4, none⟩ = some (.int .i64 (4 * (k : Int) + 1)) ∧ u.cell? ⟨g, off + k * 4 + 1, none⟩ = some (.int .i64 (4 * (k : Int) + 1 + 1)) ∧ u.cell? ⟨g, off + k * 4 + 2, none⟩ = some (.string z1) ∧ u.cell? ⟨g, off + k * 4 + 3, none⟩ = some (.string z2)) (by kernel_rfl) (HS.out _ (i.up (rw.up_drew _))) (fun _ => ?_)
      refine rw.region_w (fun u => rw.Bel w u) (i.up (rw.up_drew _)) ?_
      clear i
      intro u i
      have hHeld : (u.cell? ⟨g, off + k * 4, none⟩ = some (.int .i64 (4 * (k : Int) + 1)) ∧ u.cell? ⟨g, off + k * 4 + 1, none⟩ = some (.int .i64 (4 * (k : Int) + 1 + 1)) ∧ u.cell? ⟨g, off + k * 4 + 2, none⟩ = some (.string z1) ∧ u.cell? ⟨g, off + k * 4 + 3, none⟩ = some (.string z2)) := HS.out u i
      refine wpAnyH_take (i := 0) (oi := { dst := some 40, op := Op.move (Operand.tmp 0), type := 32, pos := "exact.go:1001", after := #[], guard := none }) (v := ?_) rfl (by kernel_rfl) (by kernel_rfl) (by kernel_rfl) (fun _ _ _ h => h) (Or.inl ⟨by rfl, ?_⟩) hHeld ?_
      rotate_left
      · rintro w ⟨z3, z4, z5, z6⟩; go_simp; (try with_reducible rfl)
      try simp only [Act.put, List.setIfInBounds_toArray, List.set_cons_zero, List.set_cons_succ]
      refine wpAnyH_take (i := 1) (oi := { dst := some 41, op := Op.move (Operand.tmp 5), type := 3, pos := "exact.go:1001", after := #[], guard := none }) (v := ?_) rfl (by kernel_rfl) (by kernel_rfl) (by kernel_rfl) (fun _ _ _ h => h) (Or.inl ⟨by rfl, ?_⟩) hHeld ?_
      rotate_left
      · rintro w ⟨z3, z4, z5, z6⟩; go_simp; (try with_reducible rfl)
      try simp only [Act.put, List.setIfInBounds_toArray, List.set_cons_zero, List.set_cons_succ]
      refine wpAnyH_take (i := 2) (oi := { dst := some 42, op := Op.indexAddr 32 (Operand.tmp 40) (Operand.tmp 41), type := 0, pos := "exact.go:1001", after := #[{ on := 0, ground := Ground.data }, { on := 1, ground := Ground.data }], guard := none }) (v := ?_) rfl (by kernel_rfl) (by kernel_rfl) (by kernel_rfl) (fun _ _ _ h => h) (Or.inl ⟨by rfl, ?_⟩) hHeld ?_
      rotate_left
      · rintro w ⟨z3, z4, z5, z6⟩; go_simp; (try with_reducible rfl)
      try simp only [Act.put, List.setIfInBounds_toArray, List.set_cons_zero, List.set_cons_succ]
      refine wpAnyH_take (i := 3) (oi := { dst := some 43, op := Op.fieldAddr 26 (Operand.tmp 42) 3, type := 0, pos := "exact.go:1001", after := #[{ on := 2, ground := Ground.data }], guard := none }) (v := ?_) rfl (by kernel_rfl) (by kernel_rfl) (by kernel_rfl) (fun _ _ _ h => h) (Or.inl ⟨by rfl, ?_⟩) hHeld ?_
      rotate_left
      · rintro w ⟨z3, z4, z5, z6⟩; go_simp; (try with_reducible rfl)
      try simp only [Act.put, List.setIfInBounds_toArray, List.set_cons_zero, List.set_cons_succ]
      refine wpAnyH_take (i := 4) (oi := { dst := some 44, op := Op.load 9 (Operand.tmp 43), type := 9, pos := "exact.go:1001", after := #[{ on := 3, ground := Ground.data }], guard := none }) (v := ?_) rfl (by kernel_rfl) (by kernel_rfl) (by kernel_rfl) (fun _ _ _ h => h) (Or.inl ⟨by rfl, ?_⟩) hHeld ?_
      rotate_left
      · rintro w ⟨z3, z4, z5, z6⟩; go_simp; (try with_reducible rfl)
      try simp only [Act.put, List.setIfInBounds_toArray, List.set_cons_zero, List.set_cons_succ]
      refine wpAnyH_take (i := 5) (oi := { dst := some 45, op := Op.move (Operand.tmp 1), type := 3, pos := "exact.go:1001", after := #[], guard := none }) (v := ?_) rfl (by kernel_rfl) (by kernel_rfl) (by kernel_rfl) (fun _ _ _ h => h) (Or.inl ⟨by rfl, ?_⟩) hHeld ?_
      rotate_left
      · rintro w ⟨z3, z4, z5, z6⟩; go_simp; (try with_reducible rfl)
      try simp only [Act.put, List.setIfInBounds_toArray, List.set_cons_zero, List.set_cons_succ]
      refine wpAnyH_ready (rs := [6]) (by kernel_rfl) (by simp) ?_
      refine AllReadyH.cons rfl (fun K hK => ?_) AllReadyH.nil
      go_simp
      go_at_call 62
      refine (HT2.out u).mono ?_
      rintro r7 w7 ⟨rfl, hb⟩
      go_wp2_with fail
      refine hK.out _ _ (HS.out _ (i.up hb)) (fun _ => ?_)
      clear hK K hHeld
      try simp only [Act.put, List.setIfInBounds_toArray, List.set_cons_zero, List.set_cons_succ]
      refine rw.region_w (fun u => rw.Bel w u) (i.up hb) ?_
      clear i hb
      intro u i
      have hHeld : (u.cell? ⟨g, off + k * 4, none⟩ = some (.int .i64 (4 * (k : Int) + 1)) ∧ u.cell? ⟨g, off + k * 4 + 1, none⟩ = some (.int .i64 (4 * (k : Int) + 1 + 1)) ∧ u.cell? ⟨g, off + k * 4 + 2, none⟩ = some (.string z1) ∧ u.cell? ⟨g, off + k * 4 + 3, none⟩ = some (.string z2)) := HS.out u i
      refine wpAnyH_take (i := 7) (oi := { dst := some 47, op := Op.binOp BinOp.neq 9 (Operand.tmp 44) (Operand.tmp 46) 9, type := 4, pos := "exact.go:1001", after := #[{ on := 4, ground := Ground.data }, { on := 6, ground := Ground.data }], guard := none }) (v := ?_) rfl (by kernel_rfl) (by kernel_rfl) (by kernel_rfl) (fun _ _ _ h => h) (Or.inl ⟨by rfl, ?_⟩) hHeld ?_
      rotate_left
      · rintro w ⟨z3, z4, z5, z6⟩; go_simp; (try with_reducible rfl)
      try simp only [Act.put, List.setIfInBounds_toArray, List.set_cons_zero, List.set_cons_succ]
      refine wpAnyH_done (by kernel_rfl) ?_ _
      refine NoPanic.normal ?_
      have HU2 : Hid (Below w.heap.size w u) := i
      clear i hHeld HS HT2 HC2
      go_wp2
      exact ⟨⟨k + 1, by omega, by go_num, by go_num, HU2⟩, by simp [intOf]; omega⟩
    · obtain rfl : k = n := by omega
      go_wp2
      go_ret
      exact ⟨rfl, HU.out⟩
end Go.Proofs.YtndjjhcdnlkekaaDoor.cu
