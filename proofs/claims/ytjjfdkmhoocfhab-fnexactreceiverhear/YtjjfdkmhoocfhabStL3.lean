/-
  The walk of the law that holds the program's ReceiverHear against the model's: true at every receiver and update. No condition.
-/
import Derived.Test.YtjjfdkmhoocfhabStRH
import Derived.Test.YtjjfdkmhoocfhabStOR
import Derived.Deep.Cut
namespace Go.Proofs.Ytjjfdkmhoocfhab.st
open Go.ChangeShapes Go.WideShapes Go.ChangeAt Go.RowKit
open Go.Proofs.Ytjjfdkmhoocfhab.wi (heap_lt calls_w wp_w)
open Classical
set_option linter.unusedVariables false

/-- inside the law: the two arguments' blocks -/
structure InReceiverHear (w : World) (n : Int) (t : ByteArray) (f : Int) (to : Int) (k : Int) (tl : ByteArray) (u : World) : Prop where
  bel : Below w.heap.size w u
  fst : rw.At u w.heap.size #[.int .i64 n, .string t] 41
  snd : rw.At u (w.heap.size + 1) #[.int .i64 f, .int .i64 to, .int .i64 k, .string tl] 43
theorem InReceiverHear.new {w : World} {n : Int} {t : ByteArray} {f : Int} {to : Int} {k : Int} {tl : ByteArray} : InReceiverHear w n t f to k tl ((w.alloc (.cells #[.int .i64 n, .string t] 41)).alloc (.cells #[.int .i64 f, .int .i64 to, .int .i64 k, .string tl] 43)) :=
  ⟨((Below.refl _ _).alloc (Nat.le_refl _) _).alloc (by simp) _, (Below.heap_alloc _ _ _ (by simp)).trans (heap_alloc_new _ _), by have := rw.At.new (w.alloc (.cells #[.int .i64 n, .string t] 41)) #[.int .i64 f, .int .i64 to, .int .i64 k, .string tl] 43; rwa [World.size_alloc] at this⟩
theorem InReceiverHear.up {w u u' : World} {n : Int} {t : ByteArray} {f : Int} {to : Int} {k : Int} {tl : ByteArray} (h : InReceiverHear w n t f to k tl u) (hb : Below u.heap.size u u') : InReceiverHear w n t f to k tl u' := ⟨h.bel.trans (hb.mono h.bel.size), h.fst.up hb, h.snd.up hb⟩
theorem InReceiverHear.lt {w u : World} {n : Int} {t : ByteArray} {f : Int} {to : Int} {k : Int} {tl : ByteArray} (h : InReceiverHear w n t f to k tl u) : w.heap.size + 1 < u.heap.size := h.snd.lt
theorem InReceiverHear.set {w u : World} {n : Int} {t : ByteArray} {f : Int} {to : Int} {k : Int} {tl : ByteArray} (h : InReceiverHear w n t f to k tl u) {q : Nat} (hq : w.heap.size + 1 < q) (j : Nat) (x : Value) : InReceiverHear w n t f to k tl (u.setCell ⟨q, j, none⟩ x) :=
  ⟨h.bel.setCell (p := ⟨q, j, none⟩) (by show _ ≤ q; omega) x, h.fst.far (by omega) j x, h.snd.far (by omega) j x⟩
theorem InReceiverHear.cells {w u : World} {n : Int} {t : ByteArray} {f : Int} {to : Int} {k : Int} {tl : ByteArray} (h : InReceiverHear w n t f to k tl u) : u.cell? ⟨w.heap.size, 0, none⟩ = some (.int .i64 n) ∧ u.cell? ⟨w.heap.size, 1, none⟩ = some (.string t) ∧ u.cell? ⟨w.heap.size + 1, 0, none⟩ = some (.int .i64 f) ∧ u.cell? ⟨w.heap.size + 1, 1, none⟩ = some (.int .i64 to) ∧ u.cell? ⟨w.heap.size + 1, 2, none⟩ = some (.int .i64 k) ∧ u.cell? ⟨w.heap.size + 1, 3, none⟩ = some (.string tl) := ⟨h.fst.cell 0, h.fst.cell 1, h.snd.cell 0, h.snd.cell 1, h.snd.cell 2, h.snd.cell 3⟩

set_option maxHeartbeats 8000000 in
theorem lawReceiverHear (n : Int) (t : ByteArray) (f : Int) (to : Int) (k : Int) (tl : ByteArray) (w : World) (ht1 : t.size ≤ maxLen) (htl1 : tl.size ≤ maxLen) :
    Calls Try.prog 4 #[.agg #[.int .i64 n, .string t], .agg #[.int .i64 f, .int .i64 to, .int .i64 k, .string tl]] w fun r w' => r = .returned (.bool true) ∧ Below w.heap.size w w' := by
  have HI : Hid (InReceiverHear w n t f to k tl ((w.alloc (.cells #[.int .i64 n, .string t] 41)).alloc (.cells #[.int .i64 f, .int .i64 to, .int .i64 k, .string tl] 43))) := InReceiverHear.new
  obtain ⟨X, T, Y, HM0, HX0⟩ := hear_both n t f to k tl ht1 htl1
  have HM : Hid (∀ u, _) := HM0
  have HX : Hid (∀ u, _) := HX0
  clear HM0 HX0
  have ht9 := ht1
  have htl9 := htl1
  unfold maxLen at ht9 htl9
  go_enter Try.func4, Try.ntmps4
  go_wp2_with (go_at_call 15; fail)
  refine calls_w (InReceiverHear w n t f to k tl) HI.out ?_
  clear HI
  intro u i
  refine (szReceiver_any n t 1048576 u (by decide) (Int.le_refl _) ht9).mono ?_
  rintro r u1 ⟨rfl, hb1⟩
  replace i := i.up hb1
  clear hb1
  by_cases s1 : (1048576 : Int) - (t.size : Int) < 0
  · rw [if_pos s1]
    have HB : Hid (Below w.heap.size w u1) := i.bel
    clear i
    go_wp2
    go_ret
    exact ⟨rfl, HB.out⟩
  · rw [if_neg s1]
    have d0 : decide ((1048576 : Int) - (t.size : Int) < 0) = false := decide_eq_false s1
    obtain ⟨y5, hy5⟩ : ∃ y, y = (1048576 : Int) - (t.size : Int) := ⟨_, rfl⟩
    rw [← hy5] at d0 ⊢
    have hy50 : 0 ≤ y5 := by omega
    have hy51 : y5 ≤ 1048576 := by omega
    clear hy5
    obtain ⟨x0, x1, x2, x3, x4, x5⟩ := i.cells
    go_wp2_with (go_at_call 16; fail)
    refine calls_w (InReceiverHear w n t f to k tl) i ?_
    clear i x0 x1 x2 x3 x4 x5
    intro u i
    refine (szUpdate_any f to k tl y5 u hy50 hy51 htl9).mono ?_
    rintro r u1 ⟨rfl, hb1⟩
    replace i := i.up hb1
    clear hb1
    by_cases s1 : (y5 : Int) - (tl.size : Int) < 0
    · rw [if_pos s1]
      have HB : Hid (Below w.heap.size w u1) := i.bel
      clear i
      go_wp2
      go_ret
      exact ⟨rfl, HB.out⟩
    · rw [if_neg s1]
      have d1 : decide ((y5 : Int) - (tl.size : Int) < 0) = false := decide_eq_false s1
      obtain ⟨y6, hy6⟩ : ∃ y, y = (y5 : Int) - (tl.size : Int) := ⟨_, rfl⟩
      rw [← hy6] at d1 ⊢
      have hy60 : 0 ≤ y6 := by omega
      have hy61 : y6 ≤ 1048576 := by omega
      clear hy6
      obtain ⟨x0, x1, x2, x3, x4, x5⟩ := i.cells
      go_wp2_with fail
      clear x0 x1 x2 x3 x4 x5
      have HS : Hid (∀ u, InReceiverHear w n t f to k tl u → (u.cell? ⟨w.heap.size, 0, none⟩ = some (.int .i64 n) ∧ u.cell? ⟨w.heap.size, 1, none⟩ = some (.string t) ∧ u.cell? ⟨w.heap.size + 1, 0, none⟩ = some (.int .i64 f) ∧ u.cell? ⟨w.heap.size + 1, 1, none⟩ = some (.int .i64 to) ∧ u.cell? ⟨w.heap.size + 1, 2, none⟩ = some (.int .i64 k) ∧ u.cell? ⟨w.heap.size + 1, 3, none⟩ = some (.string tl))) := fun u hu => hu.cells
      go_cut [6] from 18 (fun o u => ∃ q0 : Nat, o = .pointer (some ⟨q0, 0, none⟩) ∧ w.heap.size + 1 < q0 ∧ (InReceiverHear w n t f to k tl u) ∧ rw.At u q0 #[.int .i64 X, .string T, .int .i64 Y] 50)
      case first =>
        refine wp_region_noPanic ?_
        refine wp_region_held_drew (S := fun u => u.cell? ⟨w.heap.size, 0, none⟩ = some (.int .i64 n) ∧ u.cell? ⟨w.heap.size, 1, none⟩ = some (.string t) ∧ u.cell? ⟨w.heap.size + 1, 0, none⟩ = some (.int .i64 f) ∧ u.cell? ⟨w.heap.size + 1, 1, none⟩ = some (.int .i64 to) ∧ u.cell? ⟨w.heap.size + 1, 2, none⟩ = some (.int .i64 k) ∧ u.cell? ⟨w.heap.size + 1, 3, none⟩ = some (.string tl)) (by kernel_rfl) (HS.out _ (i.up (rw.up_drew _))) (fun _ => ?_)
        refine rw.region_w (fun u => InReceiverHear w n t f to k tl u) (i.up (rw.up_drew _)) ?_
        clear i
        intro u i
        have hHeld : (u.cell? ⟨w.heap.size, 0, none⟩ = some (.int .i64 n) ∧ u.cell? ⟨w.heap.size, 1, none⟩ = some (.string t) ∧ u.cell? ⟨w.heap.size + 1, 0, none⟩ = some (.int .i64 f) ∧ u.cell? ⟨w.heap.size + 1, 1, none⟩ = some (.int .i64 to) ∧ u.cell? ⟨w.heap.size + 1, 2, none⟩ = some (.int .i64 k) ∧ u.cell? ⟨w.heap.size + 1, 3, none⟩ = some (.string tl)) := HS.out u i
        refine wpAnyH_take (i := 0) (oi := { dst := some 18, op := Op.load 41 (Operand.tmp 2), type := 41, pos := "exact.go:2513", after := #[], guard := none }) (v := ?_) rfl (by kernel_rfl) (by kernel_rfl) (by kernel_rfl) (fun _ _ _ h => h) (Or.inl ⟨by rfl, ?_⟩) hHeld ?_
        rotate_left
        · rintro w ⟨z0, z1, z2, z3, z4, z5⟩; go_simp; (try with_reducible rfl)
        try simp only [Act.put, List.setIfInBounds_toArray, List.set_cons_zero, List.set_cons_succ]
        refine wpAnyH_take (i := 2) (oi := { dst := some 20, op := Op.load 43 (Operand.tmp 3), type := 43, pos := "exact.go:2513", after := #[], guard := none }) (v := ?_) rfl (by kernel_rfl) (by kernel_rfl) (by kernel_rfl) (fun _ _ _ h => h) (Or.inl ⟨by rfl, ?_⟩) hHeld ?_
        rotate_left
        · rintro w ⟨z0, z1, z2, z3, z4, z5⟩; go_simp; (try with_reducible rfl)
        try simp only [Act.put, List.setIfInBounds_toArray, List.set_cons_zero, List.set_cons_succ]
        refine wpAnyH_ready (rs := [1, 5]) (by kernel_rfl) (by simp) ?_
        refine AllReadyH.cons rfl (fun K hK => ?_) (AllReadyH.cons rfl (fun K hK => ?_) AllReadyH.nil)
        · skip
          go_simp
          go_at_call 18
          refine (toReceiver_any n t u).mono ?_
          rintro r7 w7 ⟨rfl, hb⟩
          go_wp2_with fail
          refine hK.out _ _ (HS.out _ (i.up hb)) (fun _ => ?_)
          clear hK K hHeld
          try simp only [Act.put, List.setIfInBounds_toArray, List.set_cons_zero, List.set_cons_succ]
          refine rw.region_w (fun u => InReceiverHear w n t f to k tl u) (i.up hb) ?_
          clear i hb
          intro u i
          have hHeld : (u.cell? ⟨w.heap.size, 0, none⟩ = some (.int .i64 n) ∧ u.cell? ⟨w.heap.size, 1, none⟩ = some (.string t) ∧ u.cell? ⟨w.heap.size + 1, 0, none⟩ = some (.int .i64 f) ∧ u.cell? ⟨w.heap.size + 1, 1, none⟩ = some (.int .i64 to) ∧ u.cell? ⟨w.heap.size + 1, 2, none⟩ = some (.int .i64 k) ∧ u.cell? ⟨w.heap.size + 1, 3, none⟩ = some (.string tl)) := HS.out u i
          refine wpAnyH_ready (rs := [3, 5]) (by kernel_rfl) (by simp) ?_
          refine AllReadyH.cons rfl (fun K hK => ?_) (AllReadyH.cons rfl (fun K hK => ?_) AllReadyH.nil)
          · skip
            go_simp
            go_at_call 19
            refine (toUpdate_any f to k tl u).mono ?_
            rintro r7 w7 ⟨rfl, hb⟩
            go_wp2_with fail
            refine hK.out _ _ (HS.out _ (i.up hb)) (fun _ => ?_)
            clear hK K hHeld
            try simp only [Act.put, List.setIfInBounds_toArray, List.set_cons_zero, List.set_cons_succ]
            refine rw.region_w (fun u => InReceiverHear w n t f to k tl u) (i.up hb) ?_
            clear i hb
            intro u i
            have hHeld : (u.cell? ⟨w.heap.size, 0, none⟩ = some (.int .i64 n) ∧ u.cell? ⟨w.heap.size, 1, none⟩ = some (.string t) ∧ u.cell? ⟨w.heap.size + 1, 0, none⟩ = some (.int .i64 f) ∧ u.cell? ⟨w.heap.size + 1, 1, none⟩ = some (.int .i64 to) ∧ u.cell? ⟨w.heap.size + 1, 2, none⟩ = some (.int .i64 k) ∧ u.cell? ⟨w.heap.size + 1, 3, none⟩ = some (.string tl)) := HS.out u i
            refine wpAnyH_ready (rs := [4, 5]) (by kernel_rfl) (by simp) ?_
            refine AllReadyH.cons rfl (fun K hK => ?_) (AllReadyH.cons rfl (fun K hK => ?_) AllReadyH.nil)
            · skip
              go_simp
              go_at_call 17
              refine (HM.out _).mono ?_
              rintro r7 w7 ⟨rfl, hb⟩
              go_wp2_with fail
              refine hK.out _ _ (HS.out _ (i.up hb)) (fun _ => ?_)
              clear hK K hHeld
              try simp only [Act.put, List.setIfInBounds_toArray, List.set_cons_zero, List.set_cons_succ]
              refine rw.region_w (fun u => InReceiverHear w n t f to k tl u) (i.up hb) ?_
              clear i hb
              intro u i
              have hHeld : (u.cell? ⟨w.heap.size, 0, none⟩ = some (.int .i64 n) ∧ u.cell? ⟨w.heap.size, 1, none⟩ = some (.string t) ∧ u.cell? ⟨w.heap.size + 1, 0, none⟩ = some (.int .i64 f) ∧ u.cell? ⟨w.heap.size + 1, 1, none⟩ = some (.int .i64 to) ∧ u.cell? ⟨w.heap.size + 1, 2, none⟩ = some (.int .i64 k) ∧ u.cell? ⟨w.heap.size + 1, 3, none⟩ = some (.string tl)) := HS.out u i
              refine wpAnyH_ready (rs := [5]) (by kernel_rfl) (by simp) ?_
              refine AllReadyH.cons rfl (fun K hK => ?_) AllReadyH.nil
              go_simp
              refine hK.out _ _ (HS.out _ (i.up (rw.up_alloc _ _))) (fun _ => ?_)
              clear hK K hHeld
              try simp only [Act.put, List.setIfInBounds_toArray, List.set_cons_zero, List.set_cons_succ]
              obtain ⟨q0, hq0⟩ : ∃ q0, q0 = u.heap.size := ⟨_, rfl⟩
              rw [← hq0]
              have nq0 : w.heap.size + 1 < q0 := by rw [hq0]; exact i.lt
              refine rw.region_w (fun u => (InReceiverHear w n t f to k tl u) ∧ (rw.At u q0 #[.int .i64 0, .string ⟨#[]⟩, .int .i64 0] 50)) ⟨i.up (rw.up_alloc _ _), by rw [hq0]; exact rw.At.new _ _ _⟩ ?_
              clear i
              rintro u ⟨i, b0⟩
              have hHeld : (u.cell? ⟨w.heap.size, 0, none⟩ = some (.int .i64 n) ∧ u.cell? ⟨w.heap.size, 1, none⟩ = some (.string t) ∧ u.cell? ⟨w.heap.size + 1, 0, none⟩ = some (.int .i64 f) ∧ u.cell? ⟨w.heap.size + 1, 1, none⟩ = some (.int .i64 to) ∧ u.cell? ⟨w.heap.size + 1, 2, none⟩ = some (.int .i64 k) ∧ u.cell? ⟨w.heap.size + 1, 3, none⟩ = some (.string tl)) := HS.out u i
              clear hq0
              refine wpAnyH_ready (rs := [6]) (by kernel_rfl) (by simp) ?_
              refine AllReadyH.cons rfl (fun K hK => ?_) AllReadyH.nil
              have c0 : u.cell? ⟨q0, 0, none⟩ = some (.int .i64 0) := b0.cell 0
              have c1 : u.cell? ⟨q0, 1, none⟩ = some (.string ⟨#[]⟩) := b0.cell 1
              have c2 : u.cell? ⟨q0, 2, none⟩ = some (.int .i64 0) := b0.cell 2
              have f0 := fun k => b0.frozen k
              go_simp
              refine hK.out _ _ (HS.out _ ((((i.set nq0 0 (.int .i64 X)).set nq0 1 (.string T)).set nq0 2 (.int .i64 Y)))) (fun _ => ?_)
              clear hK K hHeld
              try simp only [Act.put, List.setIfInBounds_toArray, List.set_cons_zero, List.set_cons_succ]
              refine rw.region_w (fun u => (InReceiverHear w n t f to k tl u) ∧ (rw.At u q0 #[.int .i64 X, .string T, .int .i64 Y] 50)) ⟨(((i.set nq0 0 (.int .i64 X)).set nq0 1 (.string T)).set nq0 2 (.int .i64 Y)), (rw.At.set (rw.At.set (rw.At.set b0 0 (.int .i64 X)) 1 (.string T)) 2 (.int .i64 Y))⟩ ?_
              clear i b0 c0 c1 c2 f0
              rintro u ⟨i, b0⟩
              have hHeld : (u.cell? ⟨w.heap.size, 0, none⟩ = some (.int .i64 n) ∧ u.cell? ⟨w.heap.size, 1, none⟩ = some (.string t) ∧ u.cell? ⟨w.heap.size + 1, 0, none⟩ = some (.int .i64 f) ∧ u.cell? ⟨w.heap.size + 1, 1, none⟩ = some (.int .i64 to) ∧ u.cell? ⟨w.heap.size + 1, 2, none⟩ = some (.int .i64 k) ∧ u.cell? ⟨w.heap.size + 1, 3, none⟩ = some (.string tl)) := HS.out u i
              refine wpAnyH_done (by kernel_rfl) ?_ _
              refine NoPanic.normal ?_
              go_wp2_with fail
              go_meet
              case rel => exact ⟨q0, rfl, nq0, i, b0⟩
            · skip
              go_simp
              refine hK.out _ _ (HS.out _ (i.up (rw.up_alloc _ _))) (fun _ => ?_)
              clear hK K hHeld
              try simp only [Act.put, List.setIfInBounds_toArray, List.set_cons_zero, List.set_cons_succ]
              obtain ⟨q0, hq0⟩ : ∃ q0, q0 = u.heap.size := ⟨_, rfl⟩
              rw [← hq0]
              have nq0 : w.heap.size + 1 < q0 := by rw [hq0]; exact i.lt
              refine rw.region_w (fun u => (InReceiverHear w n t f to k tl u) ∧ (rw.At u q0 #[.int .i64 0, .string ⟨#[]⟩, .int .i64 0] 50)) ⟨i.up (rw.up_alloc _ _), by rw [hq0]; exact rw.At.new _ _ _⟩ ?_
              clear i
              rintro u ⟨i, b0⟩
              have hHeld : (u.cell? ⟨w.heap.size, 0, none⟩ = some (.int .i64 n) ∧ u.cell? ⟨w.heap.size, 1, none⟩ = some (.string t) ∧ u.cell? ⟨w.heap.size + 1, 0, none⟩ = some (.int .i64 f) ∧ u.cell? ⟨w.heap.size + 1, 1, none⟩ = some (.int .i64 to) ∧ u.cell? ⟨w.heap.size + 1, 2, none⟩ = some (.int .i64 k) ∧ u.cell? ⟨w.heap.size + 1, 3, none⟩ = some (.string tl)) := HS.out u i
              clear hq0
              refine wpAnyH_ready (rs := [4]) (by kernel_rfl) (by simp) ?_
              refine AllReadyH.cons rfl (fun K hK => ?_) AllReadyH.nil
              go_simp
              go_at_call 17
              refine (HM.out _).mono ?_
              rintro r7 w7 ⟨rfl, hb⟩
              go_wp2_with fail
              refine hK.out _ _ (HS.out _ (i.up hb)) (fun _ => ?_)
              clear hK K hHeld
              try simp only [Act.put, List.setIfInBounds_toArray, List.set_cons_zero, List.set_cons_succ]
              refine rw.region_w (fun u => (InReceiverHear w n t f to k tl u) ∧ (rw.At u q0 #[.int .i64 0, .string ⟨#[]⟩, .int .i64 0] 50)) ⟨i.up hb, b0.up hb⟩ ?_
              clear i b0 hb
              rintro u ⟨i, b0⟩
              have hHeld : (u.cell? ⟨w.heap.size, 0, none⟩ = some (.int .i64 n) ∧ u.cell? ⟨w.heap.size, 1, none⟩ = some (.string t) ∧ u.cell? ⟨w.heap.size + 1, 0, none⟩ = some (.int .i64 f) ∧ u.cell? ⟨w.heap.size + 1, 1, none⟩ = some (.int .i64 to) ∧ u.cell? ⟨w.heap.size + 1, 2, none⟩ = some (.int .i64 k) ∧ u.cell? ⟨w.heap.size + 1, 3, none⟩ = some (.string tl)) := HS.out u i
              refine wpAnyH_ready (rs := [6]) (by kernel_rfl) (by simp) ?_
              refine AllReadyH.cons rfl (fun K hK => ?_) AllReadyH.nil
              have c0 : u.cell? ⟨q0, 0, none⟩ = some (.int .i64 0) := b0.cell 0
              have c1 : u.cell? ⟨q0, 1, none⟩ = some (.string ⟨#[]⟩) := b0.cell 1
              have c2 : u.cell? ⟨q0, 2, none⟩ = some (.int .i64 0) := b0.cell 2
              have f0 := fun k => b0.frozen k
              go_simp
              refine hK.out _ _ (HS.out _ ((((i.set nq0 0 (.int .i64 X)).set nq0 1 (.string T)).set nq0 2 (.int .i64 Y)))) (fun _ => ?_)
              clear hK K hHeld
              try simp only [Act.put, List.setIfInBounds_toArray, List.set_cons_zero, List.set_cons_succ]
              refine rw.region_w (fun u => (InReceiverHear w n t f to k tl u) ∧ (rw.At u q0 #[.int .i64 X, .string T, .int .i64 Y] 50)) ⟨(((i.set nq0 0 (.int .i64 X)).set nq0 1 (.string T)).set nq0 2 (.int .i64 Y)), (rw.At.set (rw.At.set (rw.At.set b0 0 (.int .i64 X)) 1 (.string T)) 2 (.int .i64 Y))⟩ ?_
              clear i b0 c0 c1 c2 f0
              rintro u ⟨i, b0⟩
              have hHeld : (u.cell? ⟨w.heap.size, 0, none⟩ = some (.int .i64 n) ∧ u.cell? ⟨w.heap.size, 1, none⟩ = some (.string t) ∧ u.cell? ⟨w.heap.size + 1, 0, none⟩ = some (.int .i64 f) ∧ u.cell? ⟨w.heap.size + 1, 1, none⟩ = some (.int .i64 to) ∧ u.cell? ⟨w.heap.size + 1, 2, none⟩ = some (.int .i64 k) ∧ u.cell? ⟨w.heap.size + 1, 3, none⟩ = some (.string tl)) := HS.out u i
              refine wpAnyH_done (by kernel_rfl) ?_ _
              refine NoPanic.normal ?_
              go_wp2_with fail
              go_meet
              case rel => exact ⟨q0, rfl, nq0, i, b0⟩
          · skip
            go_simp
            refine hK.out _ _ (HS.out _ (i.up (rw.up_alloc _ _))) (fun _ => ?_)
            clear hK K hHeld
            try simp only [Act.put, List.setIfInBounds_toArray, List.set_cons_zero, List.set_cons_succ]
            obtain ⟨q0, hq0⟩ : ∃ q0, q0 = u.heap.size := ⟨_, rfl⟩
            rw [← hq0]
            have nq0 : w.heap.size + 1 < q0 := by rw [hq0]; exact i.lt
            refine rw.region_w (fun u => (InReceiverHear w n t f to k tl u) ∧ (rw.At u q0 #[.int .i64 0, .string ⟨#[]⟩, .int .i64 0] 50)) ⟨i.up (rw.up_alloc _ _), by rw [hq0]; exact rw.At.new _ _ _⟩ ?_
            clear i
            rintro u ⟨i, b0⟩
            have hHeld : (u.cell? ⟨w.heap.size, 0, none⟩ = some (.int .i64 n) ∧ u.cell? ⟨w.heap.size, 1, none⟩ = some (.string t) ∧ u.cell? ⟨w.heap.size + 1, 0, none⟩ = some (.int .i64 f) ∧ u.cell? ⟨w.heap.size + 1, 1, none⟩ = some (.int .i64 to) ∧ u.cell? ⟨w.heap.size + 1, 2, none⟩ = some (.int .i64 k) ∧ u.cell? ⟨w.heap.size + 1, 3, none⟩ = some (.string tl)) := HS.out u i
            clear hq0
            refine wpAnyH_ready (rs := [3]) (by kernel_rfl) (by simp) ?_
            refine AllReadyH.cons rfl (fun K hK => ?_) AllReadyH.nil
            go_simp
            go_at_call 19
            refine (toUpdate_any f to k tl u).mono ?_
            rintro r7 w7 ⟨rfl, hb⟩
            go_wp2_with fail
            refine hK.out _ _ (HS.out _ (i.up hb)) (fun _ => ?_)
            clear hK K hHeld
            try simp only [Act.put, List.setIfInBounds_toArray, List.set_cons_zero, List.set_cons_succ]
            refine rw.region_w (fun u => (InReceiverHear w n t f to k tl u) ∧ (rw.At u q0 #[.int .i64 0, .string ⟨#[]⟩, .int .i64 0] 50)) ⟨i.up hb, b0.up hb⟩ ?_
            clear i b0 hb
            rintro u ⟨i, b0⟩
            have hHeld : (u.cell? ⟨w.heap.size, 0, none⟩ = some (.int .i64 n) ∧ u.cell? ⟨w.heap.size, 1, none⟩ = some (.string t) ∧ u.cell? ⟨w.heap.size + 1, 0, none⟩ = some (.int .i64 f) ∧ u.cell? ⟨w.heap.size + 1, 1, none⟩ = some (.int .i64 to) ∧ u.cell? ⟨w.heap.size + 1, 2, none⟩ = some (.int .i64 k) ∧ u.cell? ⟨w.heap.size + 1, 3, none⟩ = some (.string tl)) := HS.out u i
            refine wpAnyH_ready (rs := [4]) (by kernel_rfl) (by simp) ?_
            refine AllReadyH.cons rfl (fun K hK => ?_) AllReadyH.nil
            go_simp
            go_at_call 17
            refine (HM.out _).mono ?_
            rintro r7 w7 ⟨rfl, hb⟩
            go_wp2_with fail
            refine hK.out _ _ (HS.out _ (i.up hb)) (fun _ => ?_)
            clear hK K hHeld
            try simp only [Act.put, List.setIfInBounds_toArray, List.set_cons_zero, List.set_cons_succ]
            refine rw.region_w (fun u => (InReceiverHear w n t f to k tl u) ∧ (rw.At u q0 #[.int .i64 0, .string ⟨#[]⟩, .int .i64 0] 50)) ⟨i.up hb, b0.up hb⟩ ?_
            clear i b0 hb
            rintro u ⟨i, b0⟩
            have hHeld : (u.cell? ⟨w.heap.size, 0, none⟩ = some (.int .i64 n) ∧ u.cell? ⟨w.heap.size, 1, none⟩ = some (.string t) ∧ u.cell? ⟨w.heap.size + 1, 0, none⟩ = some (.int .i64 f) ∧ u.cell? ⟨w.heap.size + 1, 1, none⟩ = some (.int .i64 to) ∧ u.cell? ⟨w.heap.size + 1, 2, none⟩ = some (.int .i64 k) ∧ u.cell? ⟨w.heap.size + 1, 3, none⟩ = some (.string tl)) := HS.out u i
            refine wpAnyH_ready (rs := [6]) (by kernel_rfl) (by simp) ?_
            refine AllReadyH.cons rfl (fun K hK => ?_) AllReadyH.nil
            have c0 : u.cell? ⟨q0, 0, none⟩ = some (.int .i64 0) := b0.cell 0
            have c1 : u.cell? ⟨q0, 1, none⟩ = some (.string ⟨#[]⟩) := b0.cell 1
            have c2 : u.cell? ⟨q0, 2, none⟩ = some (.int .i64 0) := b0.cell 2
            have f0 := fun k => b0.frozen k
            go_simp
            refine hK.out _ _ (HS.out _ ((((i.set nq0 0 (.int .i64 X)).set nq0 1 (.string T)).set nq0 2 (.int .i64 Y)))) (fun _ => ?_)
            clear hK K hHeld
            try simp only [Act.put, List.setIfInBounds_toArray, List.set_cons_zero, List.set_cons_succ]
            refine rw.region_w (fun u => (InReceiverHear w n t f to k tl u) ∧ (rw.At u q0 #[.int .i64 X, .string T, .int .i64 Y] 50)) ⟨(((i.set nq0 0 (.int .i64 X)).set nq0 1 (.string T)).set nq0 2 (.int .i64 Y)), (rw.At.set (rw.At.set (rw.At.set b0 0 (.int .i64 X)) 1 (.string T)) 2 (.int .i64 Y))⟩ ?_
            clear i b0 c0 c1 c2 f0
            rintro u ⟨i, b0⟩
            have hHeld : (u.cell? ⟨w.heap.size, 0, none⟩ = some (.int .i64 n) ∧ u.cell? ⟨w.heap.size, 1, none⟩ = some (.string t) ∧ u.cell? ⟨w.heap.size + 1, 0, none⟩ = some (.int .i64 f) ∧ u.cell? ⟨w.heap.size + 1, 1, none⟩ = some (.int .i64 to) ∧ u.cell? ⟨w.heap.size + 1, 2, none⟩ = some (.int .i64 k) ∧ u.cell? ⟨w.heap.size + 1, 3, none⟩ = some (.string tl)) := HS.out u i
            refine wpAnyH_done (by kernel_rfl) ?_ _
            refine NoPanic.normal ?_
            go_wp2_with fail
            go_meet
            case rel => exact ⟨q0, rfl, nq0, i, b0⟩
        · skip
          go_simp
          refine hK.out _ _ (HS.out _ (i.up (rw.up_alloc _ _))) (fun _ => ?_)
          clear hK K hHeld
          try simp only [Act.put, List.setIfInBounds_toArray, List.set_cons_zero, List.set_cons_succ]
          obtain ⟨q0, hq0⟩ : ∃ q0, q0 = u.heap.size := ⟨_, rfl⟩
          rw [← hq0]
          have nq0 : w.heap.size + 1 < q0 := by rw [hq0]; exact i.lt
          refine rw.region_w (fun u => (InReceiverHear w n t f to k tl u) ∧ (rw.At u q0 #[.int .i64 0, .string ⟨#[]⟩, .int .i64 0] 50)) ⟨i.up (rw.up_alloc _ _), by rw [hq0]; exact rw.At.new _ _ _⟩ ?_
          clear i
          rintro u ⟨i, b0⟩
          have hHeld : (u.cell? ⟨w.heap.size, 0, none⟩ = some (.int .i64 n) ∧ u.cell? ⟨w.heap.size, 1, none⟩ = some (.string t) ∧ u.cell? ⟨w.heap.size + 1, 0, none⟩ = some (.int .i64 f) ∧ u.cell? ⟨w.heap.size + 1, 1, none⟩ = some (.int .i64 to) ∧ u.cell? ⟨w.heap.size + 1, 2, none⟩ = some (.int .i64 k) ∧ u.cell? ⟨w.heap.size + 1, 3, none⟩ = some (.string tl)) := HS.out u i
          clear hq0
          refine wpAnyH_ready (rs := [1]) (by kernel_rfl) (by simp) ?_
          refine AllReadyH.cons rfl (fun K hK => ?_) AllReadyH.nil
          go_simp
          go_at_call 18
          refine (toReceiver_any n t u).mono ?_
          rintro r7 w7 ⟨rfl, hb⟩
          go_wp2_with fail
          refine hK.out _ _ (HS.out _ (i.up hb)) (fun _ => ?_)
          clear hK K hHeld
          try simp only [Act.put, List.setIfInBounds_toArray, List.set_cons_zero, List.set_cons_succ]
          refine rw.region_w (fun u => (InReceiverHear w n t f to k tl u) ∧ (rw.At u q0 #[.int .i64 0, .string ⟨#[]⟩, .int .i64 0] 50)) ⟨i.up hb, b0.up hb⟩ ?_
          clear i b0 hb
          rintro u ⟨i, b0⟩
          have hHeld : (u.cell? ⟨w.heap.size, 0, none⟩ = some (.int .i64 n) ∧ u.cell? ⟨w.heap.size, 1, none⟩ = some (.string t) ∧ u.cell? ⟨w.heap.size + 1, 0, none⟩ = some (.int .i64 f) ∧ u.cell? ⟨w.heap.size + 1, 1, none⟩ = some (.int .i64 to) ∧ u.cell? ⟨w.heap.size + 1, 2, none⟩ = some (.int .i64 k) ∧ u.cell? ⟨w.heap.size + 1, 3, none⟩ = some (.string tl)) := HS.out u i
          refine wpAnyH_ready (rs := [3]) (by kernel_rfl) (by simp) ?_
          refine AllReadyH.cons rfl (fun K hK => ?_) AllReadyH.nil
          go_simp
          go_at_call 19
          refine (toUpdate_any f to k tl u).mono ?_
          rintro r7 w7 ⟨rfl, hb⟩
          go_wp2_with fail
          refine hK.out _ _ (HS.out _ (i.up hb)) (fun _ => ?_)
          clear hK K hHeld
          try simp only [Act.put, List.setIfInBounds_toArray, List.set_cons_zero, List.set_cons_succ]
          refine rw.region_w (fun u => (InReceiverHear w n t f to k tl u) ∧ (rw.At u q0 #[.int .i64 0, .string ⟨#[]⟩, .int .i64 0] 50)) ⟨i.up hb, b0.up hb⟩ ?_
          clear i b0 hb
          rintro u ⟨i, b0⟩
          have hHeld : (u.cell? ⟨w.heap.size, 0, none⟩ = some (.int .i64 n) ∧ u.cell? ⟨w.heap.size, 1, none⟩ = some (.string t) ∧ u.cell? ⟨w.heap.size + 1, 0, none⟩ = some (.int .i64 f) ∧ u.cell? ⟨w.heap.size + 1, 1, none⟩ = some (.int .i64 to) ∧ u.cell? ⟨w.heap.size + 1, 2, none⟩ = some (.int .i64 k) ∧ u.cell? ⟨w.heap.size + 1, 3, none⟩ = some (.string tl)) := HS.out u i
          refine wpAnyH_ready (rs := [4]) (by kernel_rfl) (by simp) ?_
          refine AllReadyH.cons rfl (fun K hK => ?_) AllReadyH.nil
          go_simp
          go_at_call 17
          refine (HM.out _).mono ?_
          rintro r7 w7 ⟨rfl, hb⟩
          go_wp2_with fail
          refine hK.out _ _ (HS.out _ (i.up hb)) (fun _ => ?_)
          clear hK K hHeld
          try simp only [Act.put, List.setIfInBounds_toArray, List.set_cons_zero, List.set_cons_succ]
          refine rw.region_w (fun u => (InReceiverHear w n t f to k tl u) ∧ (rw.At u q0 #[.int .i64 0, .string ⟨#[]⟩, .int .i64 0] 50)) ⟨i.up hb, b0.up hb⟩ ?_
          clear i b0 hb
          rintro u ⟨i, b0⟩
          have hHeld : (u.cell? ⟨w.heap.size, 0, none⟩ = some (.int .i64 n) ∧ u.cell? ⟨w.heap.size, 1, none⟩ = some (.string t) ∧ u.cell? ⟨w.heap.size + 1, 0, none⟩ = some (.int .i64 f) ∧ u.cell? ⟨w.heap.size + 1, 1, none⟩ = some (.int .i64 to) ∧ u.cell? ⟨w.heap.size + 1, 2, none⟩ = some (.int .i64 k) ∧ u.cell? ⟨w.heap.size + 1, 3, none⟩ = some (.string tl)) := HS.out u i
          refine wpAnyH_ready (rs := [6]) (by kernel_rfl) (by simp) ?_
          refine AllReadyH.cons rfl (fun K hK => ?_) AllReadyH.nil
          have c0 : u.cell? ⟨q0, 0, none⟩ = some (.int .i64 0) := b0.cell 0
          have c1 : u.cell? ⟨q0, 1, none⟩ = some (.string ⟨#[]⟩) := b0.cell 1
          have c2 : u.cell? ⟨q0, 2, none⟩ = some (.int .i64 0) := b0.cell 2
          have f0 := fun k => b0.frozen k
          go_simp
          refine hK.out _ _ (HS.out _ ((((i.set nq0 0 (.int .i64 X)).set nq0 1 (.string T)).set nq0 2 (.int .i64 Y)))) (fun _ => ?_)
          clear hK K hHeld
          try simp only [Act.put, List.setIfInBounds_toArray, List.set_cons_zero, List.set_cons_succ]
          refine rw.region_w (fun u => (InReceiverHear w n t f to k tl u) ∧ (rw.At u q0 #[.int .i64 X, .string T, .int .i64 Y] 50)) ⟨(((i.set nq0 0 (.int .i64 X)).set nq0 1 (.string T)).set nq0 2 (.int .i64 Y)), (rw.At.set (rw.At.set (rw.At.set b0 0 (.int .i64 X)) 1 (.string T)) 2 (.int .i64 Y))⟩ ?_
          clear i b0 c0 c1 c2 f0
          rintro u ⟨i, b0⟩
          have hHeld : (u.cell? ⟨w.heap.size, 0, none⟩ = some (.int .i64 n) ∧ u.cell? ⟨w.heap.size, 1, none⟩ = some (.string t) ∧ u.cell? ⟨w.heap.size + 1, 0, none⟩ = some (.int .i64 f) ∧ u.cell? ⟨w.heap.size + 1, 1, none⟩ = some (.int .i64 to) ∧ u.cell? ⟨w.heap.size + 1, 2, none⟩ = some (.int .i64 k) ∧ u.cell? ⟨w.heap.size + 1, 3, none⟩ = some (.string tl)) := HS.out u i
          refine wpAnyH_done (by kernel_rfl) ?_ _
          refine NoPanic.normal ?_
          go_wp2_with fail
          go_meet
          case rel => exact ⟨q0, rfl, nq0, i, b0⟩
      case rest =>
        obtain ⟨q0, rfl, nq0, i, b0⟩ := hcut
        go_wp2_with fail
        go_cut [7] from 23 (fun o u => ∃ q1 : Nat, o = .pointer (some ⟨q1, 0, none⟩) ∧ w.heap.size + 1 < q1 ∧ (InReceiverHear w n t f to k tl u) ∧ (rw.At u q0 #[.int .i64 X, .string T, .int .i64 Y] 50) ∧ rw.At u q1 #[.int .i64 X, .string T, .int .i64 Y] 50)
        case first =>
          refine wp_region_noPanic ?_
          refine wp_region_held_drew (S := fun u => u.cell? ⟨w.heap.size, 0, none⟩ = some (.int .i64 n) ∧ u.cell? ⟨w.heap.size, 1, none⟩ = some (.string t) ∧ u.cell? ⟨w.heap.size + 1, 0, none⟩ = some (.int .i64 f) ∧ u.cell? ⟨w.heap.size + 1, 1, none⟩ = some (.int .i64 to) ∧ u.cell? ⟨w.heap.size + 1, 2, none⟩ = some (.int .i64 k) ∧ u.cell? ⟨w.heap.size + 1, 3, none⟩ = some (.string tl)) (by kernel_rfl) (HS.out _ (i.up (rw.up_drew _))) (fun _ => ?_)
          refine rw.region_w (fun u => (InReceiverHear w n t f to k tl u) ∧ (rw.At u q0 #[.int .i64 X, .string T, .int .i64 Y] 50)) ⟨i.up (rw.up_drew _), b0.up (rw.up_drew _)⟩ ?_
          clear i b0
          rintro u ⟨i, b0⟩
          have hHeld : (u.cell? ⟨w.heap.size, 0, none⟩ = some (.int .i64 n) ∧ u.cell? ⟨w.heap.size, 1, none⟩ = some (.string t) ∧ u.cell? ⟨w.heap.size + 1, 0, none⟩ = some (.int .i64 f) ∧ u.cell? ⟨w.heap.size + 1, 1, none⟩ = some (.int .i64 to) ∧ u.cell? ⟨w.heap.size + 1, 2, none⟩ = some (.int .i64 k) ∧ u.cell? ⟨w.heap.size + 1, 3, none⟩ = some (.string tl)) := HS.out u i
          refine wpAnyH_take (i := 0) (oi := { dst := some 23, op := Op.load 41 (Operand.tmp 2), type := 41, pos := "exact.go:2514", after := #[], guard := none }) (v := ?_) rfl (by kernel_rfl) (by kernel_rfl) (by kernel_rfl) (fun _ _ _ h => h) (Or.inl ⟨by rfl, ?_⟩) hHeld ?_
          rotate_left
          · rintro w ⟨z0, z1, z2, z3, z4, z5⟩; go_simp; (try with_reducible rfl)
          try simp only [Act.put, List.setIfInBounds_toArray, List.set_cons_zero, List.set_cons_succ]
          refine wpAnyH_take (i := 2) (oi := { dst := some 25, op := Op.load 43 (Operand.tmp 3), type := 43, pos := "exact.go:2514", after := #[], guard := none }) (v := ?_) rfl (by kernel_rfl) (by kernel_rfl) (by kernel_rfl) (fun _ _ _ h => h) (Or.inl ⟨by rfl, ?_⟩) hHeld ?_
          rotate_left
          · rintro w ⟨z0, z1, z2, z3, z4, z5⟩; go_simp; (try with_reducible rfl)
          try simp only [Act.put, List.setIfInBounds_toArray, List.set_cons_zero, List.set_cons_succ]
          refine wpAnyH_ready (rs := [1, 5]) (by kernel_rfl) (by simp) ?_
          refine AllReadyH.cons rfl (fun K hK => ?_) (AllReadyH.cons rfl (fun K hK => ?_) AllReadyH.nil)
          · skip
            go_simp
            go_at_call 18
            refine (toReceiver_any n t u).mono ?_
            rintro r7 w7 ⟨rfl, hb⟩
            go_wp2_with fail
            refine hK.out _ _ (HS.out _ (i.up hb)) (fun _ => ?_)
            clear hK K hHeld
            try simp only [Act.put, List.setIfInBounds_toArray, List.set_cons_zero, List.set_cons_succ]
            refine rw.region_w (fun u => (InReceiverHear w n t f to k tl u) ∧ (rw.At u q0 #[.int .i64 X, .string T, .int .i64 Y] 50)) ⟨i.up hb, b0.up hb⟩ ?_
            clear i b0 hb
            rintro u ⟨i, b0⟩
            have hHeld : (u.cell? ⟨w.heap.size, 0, none⟩ = some (.int .i64 n) ∧ u.cell? ⟨w.heap.size, 1, none⟩ = some (.string t) ∧ u.cell? ⟨w.heap.size + 1, 0, none⟩ = some (.int .i64 f) ∧ u.cell? ⟨w.heap.size + 1, 1, none⟩ = some (.int .i64 to) ∧ u.cell? ⟨w.heap.size + 1, 2, none⟩ = some (.int .i64 k) ∧ u.cell? ⟨w.heap.size + 1, 3, none⟩ = some (.string tl)) := HS.out u i
            refine wpAnyH_ready (rs := [3, 5]) (by kernel_rfl) (by simp) ?_
            refine AllReadyH.cons rfl (fun K hK => ?_) (AllReadyH.cons rfl (fun K hK => ?_) AllReadyH.nil)
            · skip
              go_simp
              go_at_call 19
              refine (toUpdate_any f to k tl u).mono ?_
              rintro r7 w7 ⟨rfl, hb⟩
              go_wp2_with fail
              refine hK.out _ _ (HS.out _ (i.up hb)) (fun _ => ?_)
              clear hK K hHeld
              try simp only [Act.put, List.setIfInBounds_toArray, List.set_cons_zero, List.set_cons_succ]
              refine rw.region_w (fun u => (InReceiverHear w n t f to k tl u) ∧ (rw.At u q0 #[.int .i64 X, .string T, .int .i64 Y] 50)) ⟨i.up hb, b0.up hb⟩ ?_
              clear i b0 hb
              rintro u ⟨i, b0⟩
              have hHeld : (u.cell? ⟨w.heap.size, 0, none⟩ = some (.int .i64 n) ∧ u.cell? ⟨w.heap.size, 1, none⟩ = some (.string t) ∧ u.cell? ⟨w.heap.size + 1, 0, none⟩ = some (.int .i64 f) ∧ u.cell? ⟨w.heap.size + 1, 1, none⟩ = some (.int .i64 to) ∧ u.cell? ⟨w.heap.size + 1, 2, none⟩ = some (.int .i64 k) ∧ u.cell? ⟨w.heap.size + 1, 3, none⟩ = some (.string tl)) := HS.out u i
              refine wpAnyH_ready (rs := [4, 5]) (by kernel_rfl) (by simp) ?_
              refine AllReadyH.cons rfl (fun K hK => ?_) (AllReadyH.cons rfl (fun K hK => ?_) AllReadyH.nil)
              · skip
                go_simp
                go_at_call 20
                refine (HX.out _).mono ?_
                rintro r7 w7 ⟨rfl, hb⟩
                go_wp2_with fail
                refine hK.out _ _ (HS.out _ (i.up hb)) (fun _ => ?_)
                clear hK K hHeld
                try simp only [Act.put, List.setIfInBounds_toArray, List.set_cons_zero, List.set_cons_succ]
                refine rw.region_w (fun u => (InReceiverHear w n t f to k tl u) ∧ (rw.At u q0 #[.int .i64 X, .string T, .int .i64 Y] 50)) ⟨i.up hb, b0.up hb⟩ ?_
                clear i b0 hb
                rintro u ⟨i, b0⟩
                have hHeld : (u.cell? ⟨w.heap.size, 0, none⟩ = some (.int .i64 n) ∧ u.cell? ⟨w.heap.size, 1, none⟩ = some (.string t) ∧ u.cell? ⟨w.heap.size + 1, 0, none⟩ = some (.int .i64 f) ∧ u.cell? ⟨w.heap.size + 1, 1, none⟩ = some (.int .i64 to) ∧ u.cell? ⟨w.heap.size + 1, 2, none⟩ = some (.int .i64 k) ∧ u.cell? ⟨w.heap.size + 1, 3, none⟩ = some (.string tl)) := HS.out u i
                refine wpAnyH_ready (rs := [5]) (by kernel_rfl) (by simp) ?_
                refine AllReadyH.cons rfl (fun K hK => ?_) AllReadyH.nil
                go_simp
                refine hK.out _ _ (HS.out _ (i.up (rw.up_alloc _ _))) (fun _ => ?_)
                clear hK K hHeld
                try simp only [Act.put, List.setIfInBounds_toArray, List.set_cons_zero, List.set_cons_succ]
                obtain ⟨q1, hq1⟩ : ∃ q1, q1 = u.heap.size := ⟨_, rfl⟩
                rw [← hq1]
                have nq1 : w.heap.size + 1 < q1 := by rw [hq1]; exact i.lt
                have nq1q0 : q0 < q1 := by rw [hq1]; exact b0.lt
                refine rw.region_w (fun u => (InReceiverHear w n t f to k tl u) ∧ (rw.At u q0 #[.int .i64 X, .string T, .int .i64 Y] 50) ∧ (rw.At u q1 #[.int .i64 0, .string ⟨#[]⟩, .int .i64 0] 50)) ⟨i.up (rw.up_alloc _ _), b0.up (rw.up_alloc _ _), by rw [hq1]; exact rw.At.new _ _ _⟩ ?_
                clear i b0
                rintro u ⟨i, b0, b1⟩
                have hHeld : (u.cell? ⟨w.heap.size, 0, none⟩ = some (.int .i64 n) ∧ u.cell? ⟨w.heap.size, 1, none⟩ = some (.string t) ∧ u.cell? ⟨w.heap.size + 1, 0, none⟩ = some (.int .i64 f) ∧ u.cell? ⟨w.heap.size + 1, 1, none⟩ = some (.int .i64 to) ∧ u.cell? ⟨w.heap.size + 1, 2, none⟩ = some (.int .i64 k) ∧ u.cell? ⟨w.heap.size + 1, 3, none⟩ = some (.string tl)) := HS.out u i
                clear hq1
                refine wpAnyH_ready (rs := [6]) (by kernel_rfl) (by simp) ?_
                refine AllReadyH.cons rfl (fun K hK => ?_) AllReadyH.nil
                have c0 : u.cell? ⟨q1, 0, none⟩ = some (.int .i64 0) := b1.cell 0
                have c1 : u.cell? ⟨q1, 1, none⟩ = some (.string ⟨#[]⟩) := b1.cell 1
                have c2 : u.cell? ⟨q1, 2, none⟩ = some (.int .i64 0) := b1.cell 2
                have f0 := fun k => b1.frozen k
                go_simp
                refine hK.out _ _ (HS.out _ ((((i.set nq1 0 (.int .i64 X)).set nq1 1 (.string T)).set nq1 2 (.int .i64 Y)))) (fun _ => ?_)
                clear hK K hHeld
                try simp only [Act.put, List.setIfInBounds_toArray, List.set_cons_zero, List.set_cons_succ]
                refine rw.region_w (fun u => (InReceiverHear w n t f to k tl u) ∧ (rw.At u q0 #[.int .i64 X, .string T, .int .i64 Y] 50) ∧ (rw.At u q1 #[.int .i64 X, .string T, .int .i64 Y] 50)) ⟨(((i.set nq1 0 (.int .i64 X)).set nq1 1 (.string T)).set nq1 2 (.int .i64 Y)), (rw.At.far (rw.At.far (rw.At.far b0 (by omega) 0 (.int .i64 X)) (by omega) 1 (.string T)) (by omega) 2 (.int .i64 Y)), (rw.At.set (rw.At.set (rw.At.set b1 0 (.int .i64 X)) 1 (.string T)) 2 (.int .i64 Y))⟩ ?_
                clear i b0 b1 c0 c1 c2 f0
                rintro u ⟨i, b0, b1⟩
                have hHeld : (u.cell? ⟨w.heap.size, 0, none⟩ = some (.int .i64 n) ∧ u.cell? ⟨w.heap.size, 1, none⟩ = some (.string t) ∧ u.cell? ⟨w.heap.size + 1, 0, none⟩ = some (.int .i64 f) ∧ u.cell? ⟨w.heap.size + 1, 1, none⟩ = some (.int .i64 to) ∧ u.cell? ⟨w.heap.size + 1, 2, none⟩ = some (.int .i64 k) ∧ u.cell? ⟨w.heap.size + 1, 3, none⟩ = some (.string tl)) := HS.out u i
                refine wpAnyH_done (by kernel_rfl) ?_ _
                refine NoPanic.normal ?_
                go_wp2_with fail
                go_meet
                case rel => exact ⟨q1, rfl, nq1, i, b0, b1⟩
              · skip
                go_simp
                refine hK.out _ _ (HS.out _ (i.up (rw.up_alloc _ _))) (fun _ => ?_)
                clear hK K hHeld
                try simp only [Act.put, List.setIfInBounds_toArray, List.set_cons_zero, List.set_cons_succ]
                obtain ⟨q1, hq1⟩ : ∃ q1, q1 = u.heap.size := ⟨_, rfl⟩
                rw [← hq1]
                have nq1 : w.heap.size + 1 < q1 := by rw [hq1]; exact i.lt
                have nq1q0 : q0 < q1 := by rw [hq1]; exact b0.lt
                refine rw.region_w (fun u => (InReceiverHear w n t f to k tl u) ∧ (rw.At u q0 #[.int .i64 X, .string T, .int .i64 Y] 50) ∧ (rw.At u q1 #[.int .i64 0, .string ⟨#[]⟩, .int .i64 0] 50)) ⟨i.up (rw.up_alloc _ _), b0.up (rw.up_alloc _ _), by rw [hq1]; exact rw.At.new _ _ _⟩ ?_
                clear i b0
                rintro u ⟨i, b0, b1⟩
                have hHeld : (u.cell? ⟨w.heap.size, 0, none⟩ = some (.int .i64 n) ∧ u.cell? ⟨w.heap.size, 1, none⟩ = some (.string t) ∧ u.cell? ⟨w.heap.size + 1, 0, none⟩ = some (.int .i64 f) ∧ u.cell? ⟨w.heap.size + 1, 1, none⟩ = some (.int .i64 to) ∧ u.cell? ⟨w.heap.size + 1, 2, none⟩ = some (.int .i64 k) ∧ u.cell? ⟨w.heap.size + 1, 3, none⟩ = some (.string tl)) := HS.out u i
                clear hq1
                refine wpAnyH_ready (rs := [4]) (by kernel_rfl) (by simp) ?_
                refine AllReadyH.cons rfl (fun K hK => ?_) AllReadyH.nil
                go_simp
                go_at_call 20
                refine (HX.out _).mono ?_
                rintro r7 w7 ⟨rfl, hb⟩
                go_wp2_with fail
                refine hK.out _ _ (HS.out _ (i.up hb)) (fun _ => ?_)
                clear hK K hHeld
                try simp only [Act.put, List.setIfInBounds_toArray, List.set_cons_zero, List.set_cons_succ]
                refine rw.region_w (fun u => (InReceiverHear w n t f to k tl u) ∧ (rw.At u q0 #[.int .i64 X, .string T, .int .i64 Y] 50) ∧ (rw.At u q1 #[.int .i64 0, .string ⟨#[]⟩, .int .i64 0] 50)) ⟨i.up hb, b0.up hb, b1.up hb⟩ ?_
                clear i b0 b1 hb
                rintro u ⟨i, b0, b1⟩
                have hHeld : (u.cell? ⟨w.heap.size, 0, none⟩ = some (.int .i64 n) ∧ u.cell? ⟨w.heap.size, 1, none⟩ = some (.string t) ∧ u.cell? ⟨w.heap.size + 1, 0, none⟩ = some (.int .i64 f) ∧ u.cell? ⟨w.heap.size + 1, 1, none⟩ = some (.int .i64 to) ∧ u.cell? ⟨w.heap.size + 1, 2, none⟩ = some (.int .i64 k) ∧ u.cell? ⟨w.heap.size + 1, 3, none⟩ = some (.string tl)) := HS.out u i
                refine wpAnyH_ready (rs := [6]) (by kernel_rfl) (by simp) ?_
                refine AllReadyH.cons rfl (fun K hK => ?_) AllReadyH.nil
                have c0 : u.cell? ⟨q1, 0, none⟩ = some (.int .i64 0) := b1.cell 0
                have c1 : u.cell? ⟨q1, 1, none⟩ = some (.string ⟨#[]⟩) := b1.cell 1
                have c2 : u.cell? ⟨q1, 2, none⟩ = some (.int .i64 0) := b1.cell 2
                have f0 := fun k => b1.frozen k
                go_simp
                refine hK.out _ _ (HS.out _ ((((i.set nq1 0 (.int .i64 X)).set nq1 1 (.string T)).set nq1 2 (.int .i64 Y)))) (fun _ => ?_)
                clear hK K hHeld
                try simp only [Act.put, List.setIfInBounds_toArray, List.set_cons_zero, List.set_cons_succ]
                refine rw.region_w (fun u => (InReceiverHear w n t f to k tl u) ∧ (rw.At u q0 #[.int .i64 X, .string T, .int .i64 Y] 50) ∧ (rw.At u q1 #[.int .i64 X, .string T, .int .i64 Y] 50)) ⟨(((i.set nq1 0 (.int .i64 X)).set nq1 1 (.string T)).set nq1 2 (.int .i64 Y)), (rw.At.far (rw.At.far (rw.At.far b0 (by omega) 0 (.int .i64 X)) (by omega) 1 (.string T)) (by omega) 2 (.int .i64 Y)), (rw.At.set (rw.At.set (rw.At.set b1 0 (.int .i64 X)) 1 (.string T)) 2 (.int .i64 Y))⟩ ?_
                clear i b0 b1 c0 c1 c2 f0
                rintro u ⟨i, b0, b1⟩
                have hHeld : (u.cell? ⟨w.heap.size, 0, none⟩ = some (.int .i64 n) ∧ u.cell? ⟨w.heap.size, 1, none⟩ = some (.string t) ∧ u.cell? ⟨w.heap.size + 1, 0, none⟩ = some (.int .i64 f) ∧ u.cell? ⟨w.heap.size + 1, 1, none⟩ = some (.int .i64 to) ∧ u.cell? ⟨w.heap.size + 1, 2, none⟩ = some (.int .i64 k) ∧ u.cell? ⟨w.heap.size + 1, 3, none⟩ = some (.string tl)) := HS.out u i
                refine wpAnyH_done (by kernel_rfl) ?_ _
                refine NoPanic.normal ?_
                go_wp2_with fail
                go_meet
                case rel => exact ⟨q1, rfl, nq1, i, b0, b1⟩
            · skip
              go_simp
              refine hK.out _ _ (HS.out _ (i.up (rw.up_alloc _ _))) (fun _ => ?_)
              clear hK K hHeld
              try simp only [Act.put, List.setIfInBounds_toArray, List.set_cons_zero, List.set_cons_succ]
              obtain ⟨q1, hq1⟩ : ∃ q1, q1 = u.heap.size := ⟨_, rfl⟩
              rw [← hq1]
              have nq1 : w.heap.size + 1 < q1 := by rw [hq1]; exact i.lt
              have nq1q0 : q0 < q1 := by rw [hq1]; exact b0.lt
              refine rw.region_w (fun u => (InReceiverHear w n t f to k tl u) ∧ (rw.At u q0 #[.int .i64 X, .string T, .int .i64 Y] 50) ∧ (rw.At u q1 #[.int .i64 0, .string ⟨#[]⟩, .int .i64 0] 50)) ⟨i.up (rw.up_alloc _ _), b0.up (rw.up_alloc _ _), by rw [hq1]; exact rw.At.new _ _ _⟩ ?_
              clear i b0
              rintro u ⟨i, b0, b1⟩
              have hHeld : (u.cell? ⟨w.heap.size, 0, none⟩ = some (.int .i64 n) ∧ u.cell? ⟨w.heap.size, 1, none⟩ = some (.string t) ∧ u.cell? ⟨w.heap.size + 1, 0, none⟩ = some (.int .i64 f) ∧ u.cell? ⟨w.heap.size + 1, 1, none⟩ = some (.int .i64 to) ∧ u.cell? ⟨w.heap.size + 1, 2, none⟩ = some (.int .i64 k) ∧ u.cell? ⟨w.heap.size + 1, 3, none⟩ = some (.string tl)) := HS.out u i
              clear hq1
              refine wpAnyH_ready (rs := [3]) (by kernel_rfl) (by simp) ?_
              refine AllReadyH.cons rfl (fun K hK => ?_) AllReadyH.nil
              go_simp
              go_at_call 19
              refine (toUpdate_any f to k tl u).mono ?_
              rintro r7 w7 ⟨rfl, hb⟩
              go_wp2_with fail
              refine hK.out _ _ (HS.out _ (i.up hb)) (fun _ => ?_)
              clear hK K hHeld
              try simp only [Act.put, List.setIfInBounds_toArray, List.set_cons_zero, List.set_cons_succ]
              refine rw.region_w (fun u => (InReceiverHear w n t f to k tl u) ∧ (rw.At u q0 #[.int .i64 X, .string T, .int .i64 Y] 50) ∧ (rw.At u q1 #[.int .i64 0, .string ⟨#[]⟩, .int .i64 0] 50)) ⟨i.up hb, b0.up hb, b1.up hb⟩ ?_
              clear i b0 b1 hb
              rintro u ⟨i, b0, b1⟩
              have hHeld : (u.cell? ⟨w.heap.size, 0, none⟩ = some (.int .i64 n) ∧ u.cell? ⟨w.heap.size, 1, none⟩ = some (.string t) ∧ u.cell? ⟨w.heap.size + 1, 0, none⟩ = some (.int .i64 f) ∧ u.cell? ⟨w.heap.size + 1, 1, none⟩ = some (.int .i64 to) ∧ u.cell? ⟨w.heap.size + 1, 2, none⟩ = some (.int .i64 k) ∧ u.cell? ⟨w.heap.size + 1, 3, none⟩ = some (.string tl)) := HS.out u i
              refine wpAnyH_ready (rs := [4]) (by kernel_rfl) (by simp) ?_
              refine AllReadyH.cons rfl (fun K hK => ?_) AllReadyH.nil
              go_simp
              go_at_call 20
              refine (HX.out _).mono ?_
              rintro r7 w7 ⟨rfl, hb⟩
              go_wp2_with fail
              refine hK.out _ _ (HS.out _ (i.up hb)) (fun _ => ?_)
              clear hK K hHeld
              try simp only [Act.put, List.setIfInBounds_toArray, List.set_cons_zero, List.set_cons_succ]
              refine rw.region_w (fun u => (InReceiverHear w n t f to k tl u) ∧ (rw.At u q0 #[.int .i64 X, .string T, .int .i64 Y] 50) ∧ (rw.At u q1 #[.int .i64 0, .string ⟨#[]⟩, .int .i64 0] 50)) ⟨i.up hb, b0.up hb, b1.up hb⟩ ?_
              clear i b0 b1 hb
              rintro u ⟨i, b0, b1⟩
              have hHeld : (u.cell? ⟨w.heap.size, 0, none⟩ = some (.int .i64 n) ∧ u.cell? ⟨w.heap.size, 1, none⟩ = some (.string t) ∧ u.cell? ⟨w.heap.size + 1, 0, none⟩ = some (.int .i64 f) ∧ u.cell? ⟨w.heap.size + 1, 1, none⟩ = some (.int .i64 to) ∧ u.cell? ⟨w.heap.size + 1, 2, none⟩ = some (.int .i64 k) ∧ u.cell? ⟨w.heap.size + 1, 3, none⟩ = some (.string tl)) := HS.out u i
              refine wpAnyH_ready (rs := [6]) (by kernel_rfl) (by simp) ?_
              refine AllReadyH.cons rfl (fun K hK => ?_) AllReadyH.nil
              have c0 : u.cell? ⟨q1, 0, none⟩ = some (.int .i64 0) := b1.cell 0
              have c1 : u.cell? ⟨q1, 1, none⟩ = some (.string ⟨#[]⟩) := b1.cell 1
              have c2 : u.cell? ⟨q1, 2, none⟩ = some (.int .i64 0) := b1.cell 2
              have f0 := fun k => b1.frozen k
              go_simp
              refine hK.out _ _ (HS.out _ ((((i.set nq1 0 (.int .i64 X)).set nq1 1 (.string T)).set nq1 2 (.int .i64 Y)))) (fun _ => ?_)
              clear hK K hHeld
              try simp only [Act.put, List.setIfInBounds_toArray, List.set_cons_zero, List.set_cons_succ]
              refine rw.region_w (fun u => (InReceiverHear w n t f to k tl u) ∧ (rw.At u q0 #[.int .i64 X, .string T, .int .i64 Y] 50) ∧ (rw.At u q1 #[.int .i64 X, .string T, .int .i64 Y] 50)) ⟨(((i.set nq1 0 (.int .i64 X)).set nq1 1 (.string T)).set nq1 2 (.int .i64 Y)), (rw.At.far (rw.At.far (rw.At.far b0 (by omega) 0 (.int .i64 X)) (by omega) 1 (.string T)) (by omega) 2 (.int .i64 Y)), (rw.At.set (rw.At.set (rw.At.set b1 0 (.int .i64 X)) 1 (.string T)) 2 (.int .i64 Y))⟩ ?_
              clear i b0 b1 c0 c1 c2 f0
              rintro u ⟨i, b0, b1⟩
              have hHeld : (u.cell? ⟨w.heap.size, 0, none⟩ = some (.int .i64 n) ∧ u.cell? ⟨w.heap.size, 1, none⟩ = some (.string t) ∧ u.cell? ⟨w.heap.size + 1, 0, none⟩ = some (.int .i64 f) ∧ u.cell? ⟨w.heap.size + 1, 1, none⟩ = some (.int .i64 to) ∧ u.cell? ⟨w.heap.size + 1, 2, none⟩ = some (.int .i64 k) ∧ u.cell? ⟨w.heap.size + 1, 3, none⟩ = some (.string tl)) := HS.out u i
              refine wpAnyH_done (by kernel_rfl) ?_ _
              refine NoPanic.normal ?_
              go_wp2_with fail
              go_meet
              case rel => exact ⟨q1, rfl, nq1, i, b0, b1⟩
          · skip
            go_simp
            refine hK.out _ _ (HS.out _ (i.up (rw.up_alloc _ _))) (fun _ => ?_)
            clear hK K hHeld
            try simp only [Act.put, List.setIfInBounds_toArray, List.set_cons_zero, List.set_cons_succ]
            obtain ⟨q1, hq1⟩ : ∃ q1, q1 = u.heap.size := ⟨_, rfl⟩
            rw [← hq1]
            have nq1 : w.heap.size + 1 < q1 := by rw [hq1]; exact i.lt
            have nq1q0 : q0 < q1 := by rw [hq1]; exact b0.lt
            refine rw.region_w (fun u => (InReceiverHear w n t f to k tl u) ∧ (rw.At u q0 #[.int .i64 X, .string T, .int .i64 Y] 50) ∧ (rw.At u q1 #[.int .i64 0, .string ⟨#[]⟩, .int .i64 0] 50)) ⟨i.up (rw.up_alloc _ _), b0.up (rw.up_alloc _ _), by rw [hq1]; exact rw.At.new _ _ _⟩ ?_
            clear i b0
            rintro u ⟨i, b0, b1⟩
            have hHeld : (u.cell? ⟨w.heap.size, 0, none⟩ = some (.int .i64 n) ∧ u.cell? ⟨w.heap.size, 1, none⟩ = some (.string t) ∧ u.cell? ⟨w.heap.size + 1, 0, none⟩ = some (.int .i64 f) ∧ u.cell? ⟨w.heap.size + 1, 1, none⟩ = some (.int .i64 to) ∧ u.cell? ⟨w.heap.size + 1, 2, none⟩ = some (.int .i64 k) ∧ u.cell? ⟨w.heap.size + 1, 3, none⟩ = some (.string tl)) := HS.out u i
            clear hq1
            refine wpAnyH_ready (rs := [1]) (by kernel_rfl) (by simp) ?_
            refine AllReadyH.cons rfl (fun K hK => ?_) AllReadyH.nil
            go_simp
            go_at_call 18
            refine (toReceiver_any n t u).mono ?_
            rintro r7 w7 ⟨rfl, hb⟩
            go_wp2_with fail
            refine hK.out _ _ (HS.out _ (i.up hb)) (fun _ => ?_)
            clear hK K hHeld
            try simp only [Act.put, List.setIfInBounds_toArray, List.set_cons_zero, List.set_cons_succ]
            refine rw.region_w (fun u => (InReceiverHear w n t f to k tl u) ∧ (rw.At u q0 #[.int .i64 X, .string T, .int .i64 Y] 50) ∧ (rw.At u q1 #[.int .i64 0, .string ⟨#[]⟩, .int .i64 0] 50)) ⟨i.up hb, b0.up hb, b1.up hb⟩ ?_
            clear i b0 b1 hb
            rintro u ⟨i, b0, b1⟩
            have hHeld : (u.cell? ⟨w.heap.size, 0, none⟩ = some (.int .i64 n) ∧ u.cell? ⟨w.heap.size, 1, none⟩ = some (.string t) ∧ u.cell? ⟨w.heap.size + 1, 0, none⟩ = some (.int .i64 f) ∧ u.cell? ⟨w.heap.size + 1, 1, none⟩ = some (.int .i64 to) ∧ u.cell? ⟨w.heap.size + 1, 2, none⟩ = some (.int .i64 k) ∧ u.cell? ⟨w.heap.size + 1, 3, none⟩ = some (.string tl)) := HS.out u i
            refine wpAnyH_ready (rs := [3]) (by kernel_rfl) (by simp) ?_
            refine AllReadyH.cons rfl (fun K hK => ?_) AllReadyH.nil
            go_simp
            go_at_call 19
            refine (toUpdate_any f to k tl u).mono ?_
            rintro r7 w7 ⟨rfl, hb⟩
            go_wp2_with fail
            refine hK.out _ _ (HS.out _ (i.up hb)) (fun _ => ?_)
            clear hK K hHeld
            try simp only [Act.put, List.setIfInBounds_toArray, List.set_cons_zero, List.set_cons_succ]
            refine rw.region_w (fun u => (InReceiverHear w n t f to k tl u) ∧ (rw.At u q0 #[.int .i64 X, .string T, .int .i64 Y] 50) ∧ (rw.At u q1 #[.int .i64 0, .string ⟨#[]⟩, .int .i64 0] 50)) ⟨i.up hb, b0.up hb, b1.up hb⟩ ?_
            clear i b0 b1 hb
            rintro u ⟨i, b0, b1⟩
            have hHeld : (u.cell? ⟨w.heap.size, 0, none⟩ = some (.int .i64 n) ∧ u.cell? ⟨w.heap.size, 1, none⟩ = some (.string t) ∧ u.cell? ⟨w.heap.size + 1, 0, none⟩ = some (.int .i64 f) ∧ u.cell? ⟨w.heap.size + 1, 1, none⟩ = some (.int .i64 to) ∧ u.cell? ⟨w.heap.size + 1, 2, none⟩ = some (.int .i64 k) ∧ u.cell? ⟨w.heap.size + 1, 3, none⟩ = some (.string tl)) := HS.out u i
            refine wpAnyH_ready (rs := [4]) (by kernel_rfl) (by simp) ?_
            refine AllReadyH.cons rfl (fun K hK => ?_) AllReadyH.nil
            go_simp
            go_at_call 20
            refine (HX.out _).mono ?_
            rintro r7 w7 ⟨rfl, hb⟩
            go_wp2_with fail
            refine hK.out _ _ (HS.out _ (i.up hb)) (fun _ => ?_)
            clear hK K hHeld
            try simp only [Act.put, List.setIfInBounds_toArray, List.set_cons_zero, List.set_cons_succ]
            refine rw.region_w (fun u => (InReceiverHear w n t f to k tl u) ∧ (rw.At u q0 #[.int .i64 X, .string T, .int .i64 Y] 50) ∧ (rw.At u q1 #[.int .i64 0, .string ⟨#[]⟩, .int .i64 0] 50)) ⟨i.up hb, b0.up hb, b1.up hb⟩ ?_
            clear i b0 b1 hb
            rintro u ⟨i, b0, b1⟩
            have hHeld : (u.cell? ⟨w.heap.size, 0, none⟩ = some (.int .i64 n) ∧ u.cell? ⟨w.heap.size, 1, none⟩ = some (.string t) ∧ u.cell? ⟨w.heap.size + 1, 0, none⟩ = some (.int .i64 f) ∧ u.cell? ⟨w.heap.size + 1, 1, none⟩ = some (.int .i64 to) ∧ u.cell? ⟨w.heap.size + 1, 2, none⟩ = some (.int .i64 k) ∧ u.cell? ⟨w.heap.size + 1, 3, none⟩ = some (.string tl)) := HS.out u i
            refine wpAnyH_ready (rs := [6]) (by kernel_rfl) (by simp) ?_
            refine AllReadyH.cons rfl (fun K hK => ?_) AllReadyH.nil
            have c0 : u.cell? ⟨q1, 0, none⟩ = some (.int .i64 0) := b1.cell 0
            have c1 : u.cell? ⟨q1, 1, none⟩ = some (.string ⟨#[]⟩) := b1.cell 1
            have c2 : u.cell? ⟨q1, 2, none⟩ = some (.int .i64 0) := b1.cell 2
            have f0 := fun k => b1.frozen k
            go_simp
            refine hK.out _ _ (HS.out _ ((((i.set nq1 0 (.int .i64 X)).set nq1 1 (.string T)).set nq1 2 (.int .i64 Y)))) (fun _ => ?_)
            clear hK K hHeld
            try simp only [Act.put, List.setIfInBounds_toArray, List.set_cons_zero, List.set_cons_succ]
            refine rw.region_w (fun u => (InReceiverHear w n t f to k tl u) ∧ (rw.At u q0 #[.int .i64 X, .string T, .int .i64 Y] 50) ∧ (rw.At u q1 #[.int .i64 X, .string T, .int .i64 Y] 50)) ⟨(((i.set nq1 0 (.int .i64 X)).set nq1 1 (.string T)).set nq1 2 (.int .i64 Y)), (rw.At.far (rw.At.far (rw.At.far b0 (by omega) 0 (.int .i64 X)) (by omega) 1 (.string T)) (by omega) 2 (.int .i64 Y)), (rw.At.set (rw.At.set (rw.At.set b1 0 (.int .i64 X)) 1 (.string T)) 2 (.int .i64 Y))⟩ ?_
            clear i b0 b1 c0 c1 c2 f0
            rintro u ⟨i, b0, b1⟩
            have hHeld : (u.cell? ⟨w.heap.size, 0, none⟩ = some (.int .i64 n) ∧ u.cell? ⟨w.heap.size, 1, none⟩ = some (.string t) ∧ u.cell? ⟨w.heap.size + 1, 0, none⟩ = some (.int .i64 f) ∧ u.cell? ⟨w.heap.size + 1, 1, none⟩ = some (.int .i64 to) ∧ u.cell? ⟨w.heap.size + 1, 2, none⟩ = some (.int .i64 k) ∧ u.cell? ⟨w.heap.size + 1, 3, none⟩ = some (.string tl)) := HS.out u i
            refine wpAnyH_done (by kernel_rfl) ?_ _
            refine NoPanic.normal ?_
            go_wp2_with fail
            go_meet
            case rel => exact ⟨q1, rfl, nq1, i, b0, b1⟩
        case rest =>
          obtain ⟨q1, rfl, nq1, i, b0, b1⟩ := hcut
          have HB : Hid (∀ u', Below wc.heap.size wc u' → Below w.heap.size w u') := fun u' hb => i.bel.trans (hb.mono i.bel.size)
          have c00 : wc.cell? ⟨q0, 0, none⟩ = some (.int .i64 X) := b0.cell 0
          have c01 : wc.cell? ⟨q0, 1, none⟩ = some (.string T) := b0.cell 1
          have c02 : wc.cell? ⟨q0, 2, none⟩ = some (.int .i64 Y) := b0.cell 2
          have c10 : wc.cell? ⟨q1, 0, none⟩ = some (.int .i64 X) := b1.cell 0
          have c11 : wc.cell? ⟨q1, 1, none⟩ = some (.string T) := b1.cell 1
          have c12 : wc.cell? ⟨q1, 2, none⟩ = some (.int .i64 Y) := b1.cell 2
          clear i HS HM HX b0 b1
          go_wp2_with (go_at_call 21; fail)
          refine (eqRecOut_any X T Y wc).mono ?_
          rintro r u9 ⟨rfl, hb9⟩
          have HB9 : Hid (Below w.heap.size w u9) := HB.out _ hb9
          clear hb9 HB
          go_wp2
          go_ret
          exact ⟨rfl, HB9.out⟩
end Go.Proofs.Ytjjfdkmhoocfhab.st
