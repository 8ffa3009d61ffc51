/-
  The walk of the law that holds the program's Settled against the model's: true at every sender and receiver. No condition.
-/
import Derived.Test.YtjjfdkmhoocfhabStLs
import Derived.Test.YtjjfdkmhoocfhabStS2
import Derived.Test.YtjjfdkmhoocfhabStOR
import Derived.Deep.Cut
namespace Go.Proofs.Ytjjfdkmhoocfhab.st
open Go.ChangeShapes Go.WideShapes Go.ChangeAt Go.RowKit
open Go.Proofs.Ytjjfdkmhoocfhab.wi (heap_lt calls_w wp_w)
open Classical
set_option linter.unusedVariables false

/-- inside the law: the arguments' blocks -/
structure InB (w : World) (v : Value) (n : Int) (t : ByteArray) (u : World) : Prop where
  bel : Below w.heap.size w u
  arg : rw.At u w.heap.size #[v] 24
  rcv : rw.At u (w.heap.size + 1) #[.int .i64 n, .string t] 41
theorem InB.new {w : World} {v : Value} {n : Int} {t : ByteArray} : InB w v n t ((w.alloc (.cells #[v] 24)).alloc (.cells #[.int .i64 n, .string t] 41)) :=
  ⟨((Below.refl _ _).alloc (Nat.le_refl _) _).alloc (by simp) _, (Below.heap_alloc _ _ _ (by simp)).trans (heap_alloc_new _ _), by have := rw.At.new (w.alloc (.cells #[v] 24)) #[.int .i64 n, .string t] 41; rwa [World.size_alloc] at this⟩
theorem InB.up {w u u' : World} {v : Value} {n : Int} {t : ByteArray} (h : InB w v n t u) (hb : Below u.heap.size u u') : InB w v n t u' := ⟨h.bel.trans (hb.mono h.bel.size), h.arg.up hb, h.rcv.up hb⟩
theorem InB.cells {w u : World} {v : Value} {n : Int} {t : ByteArray} (h : InB w v n t u) : u.cell? ⟨w.heap.size, 0, none⟩ = some v ∧ u.cell? ⟨w.heap.size + 1, 0, none⟩ = some (.int .i64 n) ∧ u.cell? ⟨w.heap.size + 1, 1, none⟩ = some (.string t) := ⟨h.arg.cell 0, h.rcv.cell 0, h.rcv.cell 1⟩
theorem InB.lt {w u : World} {v : Value} {n : Int} {t : ByteArray} (h : InB w v n t u) : w.heap.size + 1 < u.heap.size := h.rcv.lt
/-- the copy that the program is handed too -/
structure InD (w : World) (v : Value) (n : Int) (t : ByteArray) (q g : Nat) (l : List Ln) (u : World) : Prop where
  b : InB w v n t u
  k : Blk u g l
  x : rw.At u q #[.slice (some ⟨g, 0, none⟩) l.length l.length] 28
theorem InD.up {w u u' : World} {v : Value} {n : Int} {t : ByteArray} {q g : Nat} {l : List Ln} (h : InD w v n t q g l u) (hb : Below u.heap.size u u') : InD w v n t q g l u' := ⟨h.b.up hb, h.k.up hb, h.x.up hb⟩
theorem InD.cells {w u : World} {v : Value} {n : Int} {t : ByteArray} {q g : Nat} {l : List Ln} (h : InD w v n t q g l u) : (u.cell? ⟨w.heap.size, 0, none⟩ = some v ∧ u.cell? ⟨w.heap.size + 1, 0, none⟩ = some (.int .i64 n) ∧ u.cell? ⟨w.heap.size + 1, 1, none⟩ = some (.string t)) ∧ u.cell? ⟨q, 0, none⟩ = some (.slice (some ⟨g, 0, none⟩) l.length l.length) := ⟨h.b.cells, h.x.cell 0⟩
set_option maxHeartbeats 8000000 in
theorem lawSettled (w : World) (v : Value) (l : List Ln) (n : Int) (t : ByteArray) (hl : l.length ≤ maxLen) (hz : ∀ r ∈ l, r.2.size ≤ maxLen) (hv : SliceIs w v l) (ht : t.size ≤ maxLen) :
    Calls Try.prog 5 #[.agg #[v], .agg #[.int .i64 n, .string t]] w fun r w' => r = .returned (.bool true) ∧ Below w.heap.size w w' := by
  have HI : Hid (InB w v n t ((w.alloc (.cells #[v] 24)).alloc (.cells #[.int .i64 n, .string t] 41))) := InB.new
  have HV : Hid (∀ u, Below w.heap.size w u → SliceIs u v l) := fun u hu => hv.up hu
  have ht9 := ht
  unfold maxLen at ht9
  clear hv
  go_enter Try.func5, Try.ntmps5
  go_wp2_with (go_at_call 6; fail)
  refine calls_w (InB w v n t) HI.out ?_
  clear HI
  intro u i
  refine (szSnd_any v l 1048576 u (by decide) (Int.le_refl _) hl hz (HV.out _ i.1)).mono ?_
  rintro r u1 ⟨rfl, hb⟩
  replace i := i.up hb
  clear hb
  by_cases hneg : szV 1048576 l < 0
  · have d : decide (szV 1048576 l < 0) = true := decide_eq_true hneg
    have HB : Hid (Below w.heap.size w u1) := i.1
    generalize szV 1048576 l = z at *
    clear i hz
    go_wp2
    go_ret
    exact ⟨rfl, HB.out⟩
  · obtain ⟨hs2, hs3⟩ := szV_ok hneg (Int.le_refl _)
    have d : decide (szV 1048576 l < 0) = false := decide_eq_false hneg
    have hz0 : 0 ≤ szV 1048576 l := by omega
    have hz1 : szV 1048576 l ≤ 1048576 := by omega
    generalize szV 1048576 l = z at *
    obtain ⟨x0, x1, x2⟩ := i.cells
    clear hs3
    go_wp2_with (go_at_call 15; fail)
    refine calls_w (InB w v n t) i ?_
    clear i x0 x1 x2 hneg d
    intro u i
    refine (szReceiver_any n t z u hz0 hz1 ht9).mono ?_
    rintro r u1 ⟨rfl, hb⟩
    replace i := i.up hb
    clear hb
    by_cases s1 : z - (t.size : Int) < 0
    · rw [if_pos s1]
      have HB : Hid (Below w.heap.size w u1) := i.1
      clear i hz
      go_wp2
      go_ret
      exact ⟨rfl, HB.out⟩
    · rw [if_neg s1]
      have d1 : decide (z - (t.size : Int) < 0) = false := decide_eq_false s1
      generalize z - (t.size : Int) = y at *
      obtain ⟨x0, x1, x2⟩ := i.cells
      go_wp2_with fail
      clear x0 x1 x2
      have HS : Hid (∀ u, InB w v n t u → (u.cell? ⟨w.heap.size, 0, none⟩ = some v ∧ u.cell? ⟨w.heap.size + 1, 0, none⟩ = some (.int .i64 n) ∧ u.cell? ⟨w.heap.size + 1, 1, none⟩ = some (.string t))) := fun u h => h.cells
      refine wp_region_noPanic ?_
      refine wp_region_held_drew (S := fun u => u.cell? ⟨w.heap.size, 0, none⟩ = some v ∧ u.cell? ⟨w.heap.size + 1, 0, none⟩ = some (.int .i64 n) ∧ u.cell? ⟨w.heap.size + 1, 1, none⟩ = some (.string t)) (by kernel_rfl) (HS.out _ (i.up (rw.up_drew _))) (fun _ => ?_)
      refine rw.region_w (fun u => InB w v n t u) (i.up (rw.up_drew _)) ?_
      clear i
      intro u i
      have hHeld : (u.cell? ⟨w.heap.size, 0, none⟩ = some v ∧ u.cell? ⟨w.heap.size + 1, 0, none⟩ = some (.int .i64 n) ∧ u.cell? ⟨w.heap.size + 1, 1, none⟩ = some (.string t)) := HS.out u i
      refine wpAnyH_take (i := 0) (oi := { dst := some 19, op := Op.load 24 (Operand.tmp 2), type := 24, pos := "exact.go:2532", after := #[], guard := none }) (v := ?_) rfl (by kernel_rfl) (by kernel_rfl) (by kernel_rfl) (fun _ _ _ h => h) (Or.inl ⟨by rfl, ?_⟩) hHeld ?_
      rotate_left
      · rintro w ⟨z0, z1, z2⟩; go_simp; (try with_reducible rfl)
      try simp only [Act.put, List.setIfInBounds_toArray, List.set_cons_zero, List.set_cons_succ]
      refine wpAnyH_take (i := 2) (oi := { dst := some 21, op := Op.load 41 (Operand.tmp 3), type := 41, pos := "exact.go:2532", after := #[], guard := none }) (v := ?_) rfl (by kernel_rfl) (by kernel_rfl) (by kernel_rfl) (fun _ _ _ h => h) (Or.inl ⟨by rfl, ?_⟩) hHeld ?_
      rotate_left
      · rintro w ⟨z0, z1, z2⟩; go_simp; (try with_reducible rfl)
      try simp only [Act.put, List.setIfInBounds_toArray, List.set_cons_zero, List.set_cons_succ]
      refine wpAnyH_ready (rs := [1]) (by kernel_rfl) (by simp) ?_
      refine AllReadyH.cons rfl (fun K hK => ?_) AllReadyH.nil
      go_simp
      go_at_call 8
      refine (toSnd_any v l u hs2 (HV.out _ i.bel)).mono ?_
      rintro r7 w7 ⟨g1, rfl, hb, hk1, _⟩
      go_wp2_with fail
      refine hK.out _ _ (HS.out _ (i.up hb)) (fun _ => ?_)
      clear hK K hHeld
      try simp only [Act.put, List.setIfInBounds_toArray, List.set_cons_zero, List.set_cons_succ]
      refine rw.region_w (fun u => (InB w v n t u) ∧ (Blk u g1 l)) ⟨i.up hb, hk1⟩ ?_
      clear i hb
      rintro u ⟨i, k1⟩
      have hHeld : (u.cell? ⟨w.heap.size, 0, none⟩ = some v ∧ u.cell? ⟨w.heap.size + 1, 0, none⟩ = some (.int .i64 n) ∧ u.cell? ⟨w.heap.size + 1, 1, none⟩ = some (.string t)) := HS.out u i
      refine wpAnyH_ready (rs := [3]) (by kernel_rfl) (by simp) ?_
      refine AllReadyH.cons rfl (fun K hK => ?_) AllReadyH.nil
      go_simp
      go_at_call 18
      refine (toReceiver_any n t u).mono ?_
      rintro r7 w7 ⟨rfl, hb⟩
      go_wp2_with fail
      refine hK.out _ _ (HS.out _ (i.up hb)) (fun _ => ?_)
      clear hK K hHeld
      try simp only [Act.put, List.setIfInBounds_toArray, List.set_cons_zero, List.set_cons_succ]
      refine rw.region_w (fun u => (InB w v n t u) ∧ (Blk u g1 l)) ⟨i.up hb, k1.up hb⟩ ?_
      clear i k1 hb
      rintro u ⟨i, k1⟩
      have hHeld : (u.cell? ⟨w.heap.size, 0, none⟩ = some v ∧ u.cell? ⟨w.heap.size + 1, 0, none⟩ = some (.int .i64 n) ∧ u.cell? ⟨w.heap.size + 1, 1, none⟩ = some (.string t)) := HS.out u i
      refine wpAnyH_ready (rs := [4]) (by kernel_rfl) (by simp) ?_
      refine AllReadyH.cons rfl (fun K hK => ?_) AllReadyH.nil
      go_simp
      go_at_call 22
      refine (setM_any _ l n t u hl hz ht k1.slice).mono ?_
      rintro r7 w7 ⟨rfl, hb⟩
      go_wp2_with fail
      refine hK.out _ _ (HS.out _ (i.up hb)) (fun _ => ?_)
      clear hK K hHeld
      try simp only [Act.put, List.setIfInBounds_toArray, List.set_cons_zero, List.set_cons_succ]
      refine rw.region_w (fun u => (InB w v n t u) ∧ (Blk u g1 l)) ⟨i.up hb, k1.up hb⟩ ?_
      clear i k1 hb
      rintro u ⟨i, k1⟩
      have hHeld : (u.cell? ⟨w.heap.size, 0, none⟩ = some v ∧ u.cell? ⟨w.heap.size + 1, 0, none⟩ = some (.int .i64 n) ∧ u.cell? ⟨w.heap.size + 1, 1, none⟩ = some (.string t)) := HS.out u i
      refine wpAnyH_take (i := 5) (oi := { dst := some 6, op := Op.assign (Operand.tmp 23), type := 4, pos := "exact.go:2532", after := #[{ on := 4, ground := Ground.data }, { on := 4, ground := Ground.chain }, { on := 0, ground := Ground.phase }, { on := 1, ground := Ground.phase }, { on := 2, ground := Ground.phase }, { on := 3, ground := Ground.phase }, { on := 4, ground := Ground.phase }], guard := none }) (v := ?_) rfl (by kernel_rfl) (by kernel_rfl) (by kernel_rfl) (fun _ _ _ h => h) (Or.inl ⟨by rfl, ?_⟩) hHeld ?_
      rotate_left
      · rintro w ⟨z0, z1, z2⟩; go_simp; (try with_reducible rfl)
      try simp only [Act.put, List.setIfInBounds_toArray, List.set_cons_zero, List.set_cons_succ]
      refine wpAnyH_done (by kernel_rfl) ?_ _
      refine NoPanic.normal ?_
      clear k1 hHeld HS
      obtain ⟨x0, x1, x2⟩ := i.cells
      obtain ⟨y9, hy9⟩ : ∃ y9, y9 = decide (SetR l n t) := ⟨_, rfl⟩
      rw [← hy9]
      have HY9 : Hid (y9 = decide (SetR l n t)) := hy9
      clear hy9
      go_wp2_with (go_at_call 8; fail)
      refine calls_w (InB w v n t) i ?_
      clear i x0 x1 x2
      intro u i
      refine (toSnd_any v l u hs2 (HV.out _ i.bel)).mono ?_
      rintro r w4 ⟨g2, rfl, hb4, hk2, _⟩
      replace i := i.up hb4
      clear hb4
      go_wp2_with fail
      obtain ⟨q, hq⟩ : ∃ q, q = w4.heap.size := ⟨_, rfl⟩
      rw [← hq]
      refine wp_w (InD w v n t q g2 l) ⟨i.up (rw.up_alloc _ _), hk2.up (rw.up_alloc _ _), by rw [hq]; exact rw.At.new _ _ _⟩ ?_
      clear i hk2 hq
      intro u i
      have HS : Hid (∀ u, InD w v n t q g2 l u → ((u.cell? ⟨w.heap.size, 0, none⟩ = some v ∧ u.cell? ⟨w.heap.size + 1, 0, none⟩ = some (.int .i64 n) ∧ u.cell? ⟨w.heap.size + 1, 1, none⟩ = some (.string t)) ∧ u.cell? ⟨q, 0, none⟩ = some (.slice (some ⟨g2, 0, none⟩) l.length l.length))) := fun u h => h.cells
      refine wp_region_noPanic ?_
      refine wp_region_held_drew (S := fun u => (u.cell? ⟨w.heap.size, 0, none⟩ = some v ∧ u.cell? ⟨w.heap.size + 1, 0, none⟩ = some (.int .i64 n) ∧ u.cell? ⟨w.heap.size + 1, 1, none⟩ = some (.string t)) ∧ u.cell? ⟨q, 0, none⟩ = some (.slice (some ⟨g2, 0, none⟩) l.length l.length)) (by kernel_rfl) (HS.out _ (i.up (rw.up_drew _))) (fun _ => ?_)
      refine rw.region_w (fun u => InD w v n t q g2 l u) (i.up (rw.up_drew _)) ?_
      clear i
      intro u i
      have hHeld : ((u.cell? ⟨w.heap.size, 0, none⟩ = some v ∧ u.cell? ⟨w.heap.size + 1, 0, none⟩ = some (.int .i64 n) ∧ u.cell? ⟨w.heap.size + 1, 1, none⟩ = some (.string t)) ∧ u.cell? ⟨q, 0, none⟩ = some (.slice (some ⟨g2, 0, none⟩) l.length l.length)) := HS.out u i
      refine wpAnyH_take (i := 0) (oi := { dst := some 26, op := Op.load 28 (Operand.tmp 7), type := 28, pos := "exact.go:2534", after := #[], guard := none }) (v := ?_) rfl (by kernel_rfl) (by kernel_rfl) (by kernel_rfl) (fun _ _ _ h => h) (Or.inl ⟨by rfl, ?_⟩) hHeld ?_
      rotate_left
      · rintro w ⟨⟨z0, z1, z2⟩, z3⟩; go_simp; (try with_reducible rfl)
      try simp only [Act.put, List.setIfInBounds_toArray, List.set_cons_zero, List.set_cons_succ]
      refine wpAnyH_take (i := 1) (oi := { dst := some 27, op := Op.load 41 (Operand.tmp 3), type := 41, pos := "exact.go:2534", after := #[], guard := none }) (v := ?_) rfl (by kernel_rfl) (by kernel_rfl) (by kernel_rfl) (fun _ _ _ h => h) (Or.inl ⟨by rfl, ?_⟩) hHeld ?_
      rotate_left
      · rintro w ⟨⟨z0, z1, z2⟩, z3⟩; go_simp; (try with_reducible rfl)
      try simp only [Act.put, List.setIfInBounds_toArray, List.set_cons_zero, List.set_cons_succ]
      refine wpAnyH_ready (rs := [2]) (by kernel_rfl) (by simp) ?_
      refine AllReadyH.cons rfl (fun K hK => ?_) AllReadyH.nil
      go_simp
      go_at_call 18
      refine (toReceiver_any n t u).mono ?_
      rintro r7 w7 ⟨rfl, hb⟩
      go_wp2_with fail
      refine hK.out _ _ (HS.out _ (i.up hb)) (fun _ => ?_)
      clear hK K hHeld
      try simp only [Act.put, List.setIfInBounds_toArray, List.set_cons_zero, List.set_cons_succ]
      refine rw.region_w (fun u => InD w v n t q g2 l u) (i.up hb) ?_
      clear i hb
      intro u i
      have hHeld : ((u.cell? ⟨w.heap.size, 0, none⟩ = some v ∧ u.cell? ⟨w.heap.size + 1, 0, none⟩ = some (.int .i64 n) ∧ u.cell? ⟨w.heap.size + 1, 1, none⟩ = some (.string t)) ∧ u.cell? ⟨q, 0, none⟩ = some (.slice (some ⟨g2, 0, none⟩) l.length l.length)) := HS.out u i
      refine wpAnyH_ready (rs := [3]) (by kernel_rfl) (by simp) ?_
      refine AllReadyH.cons rfl (fun K hK => ?_) AllReadyH.nil
      go_simp
      go_at_call 23
      refine (setI_any _ l n t u hl hz ht i.k.slice).mono ?_
      rintro r7 w7 ⟨rfl, hb⟩
      go_wp2_with fail
      refine hK.out _ _ (HS.out _ (i.up hb)) (fun _ => ?_)
      clear hK K hHeld
      try simp only [Act.put, List.setIfInBounds_toArray, List.set_cons_zero, List.set_cons_succ]
      refine rw.region_w (fun u => InD w v n t q g2 l u) (i.up hb) ?_
      clear i hb
      intro u i
      have hHeld : ((u.cell? ⟨w.heap.size, 0, none⟩ = some v ∧ u.cell? ⟨w.heap.size + 1, 0, none⟩ = some (.int .i64 n) ∧ u.cell? ⟨w.heap.size + 1, 1, none⟩ = some (.string t)) ∧ u.cell? ⟨q, 0, none⟩ = some (.slice (some ⟨g2, 0, none⟩) l.length l.length)) := HS.out u i
      refine wpAnyH_take (i := 4) (oi := { dst := some 8, op := Op.assign (Operand.tmp 29), type := 4, pos := "exact.go:2534", after := #[{ on := 3, ground := Ground.data }, { on := 3, ground := Ground.chain }, { on := 0, ground := Ground.phase }, { on := 1, ground := Ground.phase }, { on := 2, ground := Ground.phase }, { on := 3, ground := Ground.phase }], guard := none }) (v := ?_) rfl (by kernel_rfl) (by kernel_rfl) (by kernel_rfl) (fun _ _ _ h => h) (Or.inl ⟨by rfl, ?_⟩) hHeld ?_
      rotate_left
      · rintro w ⟨⟨z0, z1, z2⟩, z3⟩; go_simp; (try with_reducible rfl)
      try simp only [Act.put, List.setIfInBounds_toArray, List.set_cons_zero, List.set_cons_succ]
      refine wpAnyH_done (by kernel_rfl) ?_ _
      refine NoPanic.normal ?_
      clear hHeld
      rw [← HY9.out]
      clear HY9
      have hzz : (y9 == y9) = true := by simp
      have hzn : (y9 != y9) = false := by simp
      go_wp2_with fail
      refine wp_region_noPanic ?_
      refine wp_region_held_drew (S := fun u => (u.cell? ⟨w.heap.size, 0, none⟩ = some v ∧ u.cell? ⟨w.heap.size + 1, 0, none⟩ = some (.int .i64 n) ∧ u.cell? ⟨w.heap.size + 1, 1, none⟩ = some (.string t)) ∧ u.cell? ⟨q, 0, none⟩ = some (.slice (some ⟨g2, 0, none⟩) l.length l.length)) (by kernel_rfl) (HS.out _ (i.up (rw.up_drew _))) (fun _ => ?_)
      refine rw.region_w (fun u => InD w v n t q g2 l u) (i.up (rw.up_drew _)) ?_
      clear i
      intro u i
      have hHeld : ((u.cell? ⟨w.heap.size, 0, none⟩ = some v ∧ u.cell? ⟨w.heap.size + 1, 0, none⟩ = some (.int .i64 n) ∧ u.cell? ⟨w.heap.size + 1, 1, none⟩ = some (.string t)) ∧ u.cell? ⟨q, 0, none⟩ = some (.slice (some ⟨g2, 0, none⟩) l.length l.length)) := HS.out u i
      refine wpAnyH_take (i := 0) (oi := { dst := some 33, op := Op.load 28 (Operand.tmp 7), type := 28, pos := "exact.go:2538", after := #[], guard := none }) (v := ?_) rfl (by kernel_rfl) (by kernel_rfl) (by kernel_rfl) (fun _ _ _ h => h) (Or.inl ⟨by rfl, ?_⟩) hHeld ?_
      rotate_left
      · rintro w ⟨⟨z0, z1, z2⟩, z3⟩; go_simp; (try with_reducible rfl)
      try simp only [Act.put, List.setIfInBounds_toArray, List.set_cons_zero, List.set_cons_succ]
      refine wpAnyH_take (i := 1) (oi := { dst := some 34, op := Op.load 24 (Operand.tmp 2), type := 24, pos := "exact.go:2538", after := #[], guard := none }) (v := ?_) rfl (by kernel_rfl) (by kernel_rfl) (by kernel_rfl) (fun _ _ _ h => h) (Or.inl ⟨by rfl, ?_⟩) hHeld ?_
      rotate_left
      · rintro w ⟨⟨z0, z1, z2⟩, z3⟩; go_simp; (try with_reducible rfl)
      try simp only [Act.put, List.setIfInBounds_toArray, List.set_cons_zero, List.set_cons_succ]
      refine wpAnyH_ready (rs := [2]) (by kernel_rfl) (by simp) ?_
      refine AllReadyH.cons rfl (fun K hK => ?_) AllReadyH.nil
      go_simp
      go_at_call 8
      refine (toSnd_any v l u hs2 (HV.out _ i.b.bel)).mono ?_
      rintro r7 w7 ⟨g3, rfl, hb, hk3, _⟩
      go_wp2_with fail
      refine hK.out _ _ (HS.out _ (i.up hb)) (fun _ => ?_)
      clear hK K hHeld
      try simp only [Act.put, List.setIfInBounds_toArray, List.set_cons_zero, List.set_cons_succ]
      refine rw.region_w (fun u => (InD w v n t q g2 l u) ∧ (Blk u g3 l)) ⟨i.up hb, hk3⟩ ?_
      clear i hb
      rintro u ⟨i, k3⟩
      have hHeld : ((u.cell? ⟨w.heap.size, 0, none⟩ = some v ∧ u.cell? ⟨w.heap.size + 1, 0, none⟩ = some (.int .i64 n) ∧ u.cell? ⟨w.heap.size + 1, 1, none⟩ = some (.string t)) ∧ u.cell? ⟨q, 0, none⟩ = some (.slice (some ⟨g2, 0, none⟩) l.length l.length)) := HS.out u i
      refine wpAnyH_ready (rs := [3]) (by kernel_rfl) (by simp) ?_
      refine AllReadyH.cons rfl (fun K hK => ?_) AllReadyH.nil
      go_simp
      go_at_call 11
      refine (eqSnd_any _ _ l u hl i.k.slice k3.slice).mono ?_
      rintro r7 w7 ⟨rfl, hb⟩
      go_wp2_with fail
      refine hK.out _ _ (HS.out _ (i.up hb)) (fun _ => ?_)
      clear hK K hHeld
      try simp only [Act.put, List.setIfInBounds_toArray, List.set_cons_zero, List.set_cons_succ]
      refine rw.region_w (fun u => (InD w v n t q g2 l u) ∧ (Blk u g3 l)) ⟨i.up hb, k3.up hb⟩ ?_
      clear i k3 hb
      rintro u ⟨i, k3⟩
      have hHeld : ((u.cell? ⟨w.heap.size, 0, none⟩ = some v ∧ u.cell? ⟨w.heap.size + 1, 0, none⟩ = some (.int .i64 n) ∧ u.cell? ⟨w.heap.size + 1, 1, none⟩ = some (.string t)) ∧ u.cell? ⟨q, 0, none⟩ = some (.slice (some ⟨g2, 0, none⟩) l.length l.length)) := HS.out u i
      refine wpAnyH_take (i := 4) (oi := { dst := some 37, op := Op.unOp UnOp.not 4 (Operand.tmp 36), type := 4, pos := "exact.go:2538", after := #[{ on := 3, ground := Ground.data }], guard := none }) (v := ?_) rfl (by kernel_rfl) (by kernel_rfl) (by kernel_rfl) (fun _ _ _ h => h) (Or.inl ⟨by rfl, ?_⟩) hHeld ?_
      rotate_left
      · rintro w ⟨⟨z0, z1, z2⟩, z3⟩; go_simp; (try with_reducible rfl)
      try simp only [Act.put, List.setIfInBounds_toArray, List.set_cons_zero, List.set_cons_succ]
      refine wpAnyH_done (by kernel_rfl) ?_ _
      refine NoPanic.normal ?_
      have HB : Hid (Below w.heap.size w u) := i.b.bel
      clear i k3 hHeld HS
      go_wp2
      go_ret
      exact ⟨rfl, HB.out⟩
end Go.Proofs.Ytjjfdkmhoocfhab.st
