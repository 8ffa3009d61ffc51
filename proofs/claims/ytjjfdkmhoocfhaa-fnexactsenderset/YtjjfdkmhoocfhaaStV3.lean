/-
  Slices of states in the law's hands: heldStateS. No condition.
-/
import Derived.Test.YtjjfdkmhoocfhaaStV2
import Derived.Test.YtjjfdkmhoocfhaaRegW
namespace Go.Proofs.Ytjjfdkmhoocfhaa.st
open Go.ChangeShapes Go.WideShapes Go.ChangeAt Go.RowKit
open Go.Proofs.Ytjjfdkmhoocfhaa.wi (heap_lt calls_w wp_w)
open Go.Proofs.Ytjjfdkmhoocfhaa.ss (markT markText_any)
set_option linter.unusedVariables false

set_option maxRecDepth 20000 in
set_option maxHeartbeats 4000000 in
theorem heldS_row (g off cap : Nat) (l : List Ln) (w : World) (hl : l.length ≤ 1048576) (hr : RowX w g off l) (hm : Mk l l.length) :
    Calls Try.prog 49 #[.slice (some ⟨g, off, none⟩) l.length cap, .int .i64 1] w fun r w' => r = .returned (.int .i64 (2 * (l.length : Int) + 1)) ∧ Below w.heap.size w w' := by
  have HB : Hid (Below w.heap.size w w) := Below.refl _ _
  have HC : Hid (∀ u, Below w.heap.size w u → ∀ k, k < l.length → u.cell? ⟨g, off + k * 2, none⟩ = some (.int .i64 (2 * (k : Int) + 1)) ∧ u.cell? ⟨g, off + k * 2 + 1, none⟩ = some (.string (markT (2 * k + 2)))) := fun u hu k hk => by
    have := (hr.up hu).row k hk
    rwa [hm k hk] at this
  clear hr hm
  obtain ⟨n, hn⟩ : ∃ n, n = l.length := ⟨_, rfl⟩
  rw [← hn] at hl HC ⊢
  clear hn
  go_enter Try.func49, Try.ntmps49
  go_wp2
  go_loopw [1, 5] (fun kk i u => ∃ k : Nat, k ≤ n ∧ i = .int .i64 k ∧ kk = .int .i64 (2 * (k : Int) + 1) ∧ Hid (Below w.heap.size w u)) (fun _ i _ => n - (intOf i).toNat)
  case atStart => exact ⟨0, Nat.zero_le _, rfl, rfl, HB⟩
  case round =>
    obtain ⟨k, hk, rfl, rfl, HU⟩ := hrel
    by_cases hlt : k < n
    · have HT : Hid (∀ u, Calls Try.prog 56 #[.int .i64 (2 * (k : Int) + 1 + 1)] u fun r w' => r = .returned (.string (markT (2 * k + 2))) ∧ Below u.heap.size u w') := fun u => by
        have := markText_any (2 * k + 2) u (by omega) (by omega)
        have e : ((2 * k + 2 : Nat) : Int) = 2 * (k : Int) + 1 + 1 := by omega
        rwa [e] at this
      obtain ⟨z, hz⟩ : ∃ z, z = markT (2 * k + 2) := ⟨_, rfl⟩
      have HC2 : Hid (∀ u, Below w.heap.size w u → u.cell? ⟨g, off + k * 2, none⟩ = some (.int .i64 (2 * (k : Int) + 1)) ∧ u.cell? ⟨g, off + k * 2 + 1, none⟩ = some (.string z)) := fun u hu => by rw [hz]; exact HC.out u hu k hlt
      rw [← hz] at HT
      obtain ⟨c0, c1⟩ := HC2.out wr HU.out
      have dz : (z.toList == z.toList) = true := by simp
      have d1 : ((2 * (k : Int) + 1) == (2 * (k : Int) + 1)) = true := by simp
      clear hz HC
      go_wp2_with fail
      have HS : Hid (∀ u, rw.Bel w u → (u.cell? ⟨g, off + k * 2 + 1, none⟩ = some (.string z))) := fun u h => (HC2.out u h).2
      have i : rw.Bel w wr := HU.out
      clear HU c0 c1
      refine wp_region_noPanic ?_
      refine wp_region_held_drew (S := fun u => u.cell? ⟨g, off + k * 2 + 1, none⟩ = some (.string z)) (by kernel_rfl) (HS.out _ (i.up (rw.up_drew _))) (fun _ => ?_)
      refine rw.region_w (fun u => rw.Bel w u) (i.up (rw.up_drew _)) ?_
      clear i
      intro u i
      have hHeld : (u.cell? ⟨g, off + k * 2 + 1, none⟩ = some (.string z)) := HS.out u i
      refine wpAnyH_take (i := 0) (oi := { dst := some 21, op := Op.move (Operand.tmp 0), type := 47, pos := "exact.go:831", after := #[], guard := none }) (v := ?_) rfl (by kernel_rfl) (by kernel_rfl) (by kernel_rfl) (fun _ _ _ h => h) (Or.inl ⟨by rfl, ?_⟩) hHeld ?_
      rotate_left
      · rintro w z0; go_simp; (try with_reducible rfl)
      try simp only [Act.put, List.setIfInBounds_toArray, List.set_cons_zero, List.set_cons_succ]
      refine wpAnyH_take (i := 1) (oi := { dst := some 22, op := Op.move (Operand.tmp 5), type := 3, pos := "exact.go:831", after := #[], guard := none }) (v := ?_) rfl (by kernel_rfl) (by kernel_rfl) (by kernel_rfl) (fun _ _ _ h => h) (Or.inl ⟨by rfl, ?_⟩) hHeld ?_
      rotate_left
      · rintro w z0; go_simp; (try with_reducible rfl)
      try simp only [Act.put, List.setIfInBounds_toArray, List.set_cons_zero, List.set_cons_succ]
      refine wpAnyH_take (i := 2) (oi := { dst := some 23, op := Op.indexAddr 47 (Operand.tmp 21) (Operand.tmp 22), type := 0, pos := "exact.go:831", after := #[{ on := 0, ground := Ground.data }, { on := 1, ground := Ground.data }], guard := none }) (v := ?_) rfl (by kernel_rfl) (by kernel_rfl) (by kernel_rfl) (fun _ _ _ h => h) (Or.inl ⟨by rfl, ?_⟩) hHeld ?_
      rotate_left
      · rintro w z0; go_simp; (try with_reducible rfl)
      try simp only [Act.put, List.setIfInBounds_toArray, List.set_cons_zero, List.set_cons_succ]
      refine wpAnyH_take (i := 3) (oi := { dst := some 24, op := Op.fieldAddr 28 (Operand.tmp 23) 1, type := 0, pos := "exact.go:831", after := #[{ on := 2, ground := Ground.data }], guard := none }) (v := ?_) rfl (by kernel_rfl) (by kernel_rfl) (by kernel_rfl) (fun _ _ _ h => h) (Or.inl ⟨by rfl, ?_⟩) hHeld ?_
      rotate_left
      · rintro w z0; go_simp; (try with_reducible rfl)
      try simp only [Act.put, List.setIfInBounds_toArray, List.set_cons_zero, List.set_cons_succ]
      refine wpAnyH_take (i := 4) (oi := { dst := some 25, op := Op.load 9 (Operand.tmp 24), type := 9, pos := "exact.go:831", after := #[{ on := 3, ground := Ground.data }], guard := none }) (v := ?_) rfl (by kernel_rfl) (by kernel_rfl) (by kernel_rfl) (fun _ _ _ h => h) (Or.inl ⟨by rfl, ?_⟩) hHeld ?_
      rotate_left
      · rintro w z0; go_simp; (try with_reducible rfl)
      try simp only [Act.put, List.setIfInBounds_toArray, List.set_cons_zero, List.set_cons_succ]
      refine wpAnyH_take (i := 5) (oi := { dst := some 26, op := Op.move (Operand.tmp 1), type := 3, pos := "exact.go:831", after := #[], guard := none }) (v := ?_) rfl (by kernel_rfl) (by kernel_rfl) (by kernel_rfl) (fun _ _ _ h => h) (Or.inl ⟨by rfl, ?_⟩) hHeld ?_
      rotate_left
      · rintro w z0; go_simp; (try with_reducible rfl)
      try simp only [Act.put, List.setIfInBounds_toArray, List.set_cons_zero, List.set_cons_succ]
      refine wpAnyH_ready (rs := [6]) (by kernel_rfl) (by simp) ?_
      refine AllReadyH.cons rfl (fun K hK => ?_) AllReadyH.nil
      go_simp
      go_at_call 56
      refine (HT.out u).mono ?_
      rintro r7 w7 ⟨rfl, hb⟩
      go_wp2_with fail
      refine hK.out _ _ (HS.out _ (i.up hb)) (fun _ => ?_)
      clear hK K hHeld
      try simp only [Act.put, List.setIfInBounds_toArray, List.set_cons_zero, List.set_cons_succ]
      refine rw.region_w (fun u => rw.Bel w u) (i.up hb) ?_
      clear i hb
      intro u i
      have hHeld : (u.cell? ⟨g, off + k * 2 + 1, none⟩ = some (.string z)) := HS.out u i
      refine wpAnyH_take (i := 7) (oi := { dst := some 28, op := Op.binOp BinOp.neq 9 (Operand.tmp 25) (Operand.tmp 27) 9, type := 4, pos := "exact.go:831", after := #[{ on := 4, ground := Ground.data }, { on := 6, ground := Ground.data }], guard := none }) (v := ?_) rfl (by kernel_rfl) (by kernel_rfl) (by kernel_rfl) (fun _ _ _ h => h) (Or.inl ⟨by rfl, ?_⟩) hHeld ?_
      rotate_left
      · rintro w z0; go_simp; (try with_reducible rfl)
      try simp only [Act.put, List.setIfInBounds_toArray, List.set_cons_zero, List.set_cons_succ]
      refine wpAnyH_done (by kernel_rfl) ?_ _
      refine NoPanic.normal ?_
      have HU2 : Hid (Below w.heap.size w u) := i
      clear i hHeld HS HT HC2
      go_wp2
      exact ⟨⟨k + 1, by omega, by go_num, by go_num, HU2⟩, by simp [intOf]; omega⟩
    · obtain rfl : k = n := by omega
      go_wp2
      go_ret
      exact ⟨rfl, HU.out⟩
set_option maxHeartbeats 1000000 in
theorem markS_any (v : Value) (l : List Ln) (w : World) (hl : l.length ≤ 1048576) (h : OwnX w v l) : Calls Try.prog 48 #[v, .int .i64 1] w fun r w' => r = .returned (.int .i64 (2 * (l.length : Int) + 1)) ∧ w.grownBy w' v.ownBlock ∧ ∃ l' : List Ln, l'.length = l.length ∧ Mk l' l.length ∧ OwnX w' v l' := by
  rcases h with ⟨rfl, rfl⟩ | ⟨g, off, cap, rfl, hr⟩
  · have HP : Hid (w.grownBy w (Value.slice none 0 0).ownBlock ∧ ∃ l' : List Ln, l'.length = 0 ∧ Mk l' 0 ∧ OwnX w (.slice none 0 0) l') := ⟨⟨rfl, rfl, rfl, Nat.le_refl _, fun _ _ _ => rfl⟩, [], rfl, Mk.zero _, .inl ⟨rfl, rfl⟩⟩
    go_enter Try.func48, Try.ntmps48
    go_wp2
    refine wp_loop_rounds 1 ?_
    rw [rounds_succ]
    go_wp2
    go_ret
    exact ⟨rfl, HP.out⟩
  · refine (markS_row g off cap l w hl hr).mono ?_
    rintro r w' ⟨rfl, hg, l', hl', hm, hr'⟩
    exact ⟨rfl, hg, l', hl', hm, .inr ⟨g, off, cap, by rw [hl'], hr'⟩⟩
set_option maxHeartbeats 1000000 in
theorem heldS_any (v : Value) (l : List Ln) (w : World) (hl : l.length ≤ 1048576) (h : OwnX w v l) (hm : Mk l l.length) : Calls Try.prog 49 #[v, .int .i64 1] w fun r w' => r = .returned (.int .i64 (2 * (l.length : Int) + 1)) ∧ Below w.heap.size w w' := by
  rcases h with ⟨rfl, rfl⟩ | ⟨g, off, cap, rfl, hr⟩
  · have HB : Hid (Below w.heap.size w w) := Below.refl _ _
    go_enter Try.func49, Try.ntmps49
    go_wp2
    refine wp_loop_rounds 1 ?_
    rw [rounds_succ]
    go_wp2
    go_ret
    exact ⟨rfl, HB.out⟩
  · exact heldS_row g off cap l w hl hr hm
end Go.Proofs.Ytjjfdkmhoocfhaa.st
