/-
  The law's own helpers on updates and receivers by value: copied, measured, held against another. No condition.
-/
import Derived.Test.YtjjfdkmhoocfhabStT
import Derived.Test.YtjjfdkmhoocfhabRegW
namespace Go.Proofs.Ytjjfdkmhoocfhab.st
open Go.ChangeShapes Go.WideShapes Go.ChangeAt Go.RowKit
open Go.Proofs.Ytjjfdkmhoocfhab.wi (heap_lt calls_w wp_w)
set_option linter.unusedVariables false

theorem infoIU : (Try.prog.info? 53).map (·.size) = some 4 := by kernel_rfl
theorem szUpdate_any (a b c : Int) (t : ByteArray) (left : Int) (w : World) (h0 : 0 ≤ left) (h1 : left ≤ 1048576) (ht : t.size ≤ 9223372036854775807) :
    Calls Try.prog 16 #[.agg #[.int .i64 a, .int .i64 b, .int .i64 c, .string t], .int .i64 left] w fun r w' => r = .returned (.int .i64 (if left - (t.size : Int) < 0 then -1 else left - (t.size : Int))) ∧ Below w.heap.size w w' := by
  have HB : Hid (∀ o, Below w.heap.size w (w.alloc o)) := fun o => (Below.refl _ _).alloc (Nat.le_refl _) o
  by_cases h : left - (t.size : Int) < 0
  · have d : decide (left - (t.size : Int) < 0) = true := decide_eq_true h
    rw [if_pos h]
    go_enter Try.func16, Try.ntmps16
    go_wp2
    go_ret
    exact ⟨rfl, HB.out _⟩
  · have d : decide (left - (t.size : Int) < 0) = false := decide_eq_false h
    rw [if_neg h]
    go_enter Try.func16, Try.ntmps16
    go_wp2
    go_ret
    exact ⟨rfl, HB.out _⟩
set_option maxHeartbeats 2000000 in
theorem toUpdate_any (a b c : Int) (t : ByteArray) (w : World) :
    Calls Try.prog 19 #[.agg #[.int .i64 a, .int .i64 b, .int .i64 c, .string t]] w fun r w' => r = .returned (.agg #[.int .i64 a, .int .i64 b, .int .i64 c, .string t]) ∧ Below w.heap.size w w' := by
  have HB : Hid (Below w.heap.size w (((w.alloc (.cells #[.int .i64 a, .int .i64 b, .int .i64 c, .string t] 43)).alloc (.cells #[.int .i64 a, .int .i64 b, .int .i64 c, .string t] 53)).alloc (.cells #[.int .i64 a, .int .i64 b, .int .i64 c, .string t] 53))) := (((Below.refl _ _).alloc (Nat.le_refl _) _).alloc (((Below.refl _ _).alloc (Nat.le_refl _) _).size) _).alloc ((((Below.refl _ _).alloc (Nat.le_refl _) _).alloc (((Below.refl _ _).alloc (Nat.le_refl _) _).size) _).size) _
  go_enter Try.func19, Try.ntmps19
  go_wp2
  exact bodyPost_ret (results_cell_row Try.results19 _ _ (w.heap.size + 1) _ _ _ _ rfl ((Below.heap_alloc _ _ _ (by simp)).trans (heap_alloc2_new _ _ _)) Try.underlying53 rfl infoIU) rfl ⟨rfl, HB.out⟩
theorem eqRec_any (a : Int) (t : ByteArray) (w : World) : Calls Try.prog 42 #[.agg #[.int .i64 a, .string t], .agg #[.int .i64 a, .string t]] w fun r w' => r = .returned (.bool true) ∧ Below w.heap.size w w' := by
  have HB : Hid (∀ o p, Below w.heap.size w ((w.alloc o).alloc p)) := fun o p => ((Below.refl _ _).alloc (Nat.le_refl _) _).alloc (by simp) _
  go_enter Try.func42, Try.ntmps42
  go_wp2_with (go_at_call 48; fail)
  refine calls_w (fun u => Below w.heap.size w u) (HB.out _ _) ?_
  clear HB
  intro u hu
  refine (eqState_any a t u).mono ?_
  rintro r u1 ⟨rfl, hb⟩
  have HB : Hid (Below w.heap.size w u1) := hu.trans (hb.mono hu.size)
  clear hu hb
  go_wp2
  go_ret
  exact ⟨rfl, HB.out⟩
theorem eqRecOut_any (a : Int) (t : ByteArray) (c : Int) (w : World) : Calls Try.prog 21 #[.agg #[.int .i64 a, .string t, .int .i64 c], .agg #[.int .i64 a, .string t, .int .i64 c]] w fun r w' => r = .returned (.bool true) ∧ Below w.heap.size w w' := by
  have HI : Hid ((fun u => Below w.heap.size w u ∧ rw.At u w.heap.size #[.int .i64 a, .string t, .int .i64 c] 50 ∧ rw.At u (w.heap.size + 1) #[.int .i64 a, .string t, .int .i64 c] 50) ((w.alloc (.cells #[.int .i64 a, .string t, .int .i64 c] 50)).alloc (.cells #[.int .i64 a, .string t, .int .i64 c] 50))) :=
    ⟨((Below.refl _ _).alloc (Nat.le_refl _) _).alloc (by simp) _, (Below.heap_alloc _ _ _ (by simp)).trans (heap_alloc_new _ _), by have := rw.At.new (w.alloc (.cells #[.int .i64 a, .string t, .int .i64 c] 50)) #[.int .i64 a, .string t, .int .i64 c] 50; rwa [World.size_alloc] at this⟩
  have q1 : (c == c) = true := by simp
  go_enter Try.func21, Try.ntmps21
  go_wp2_with (go_at_call 42; fail)
  refine calls_w (fun u => Below w.heap.size w u ∧ rw.At u w.heap.size #[.int .i64 a, .string t, .int .i64 c] 50 ∧ rw.At u (w.heap.size + 1) #[.int .i64 a, .string t, .int .i64 c] 50) HI.out ?_
  clear HI
  rintro u ⟨hu, h1, h2⟩
  refine (eqRec_any a t u).mono ?_
  rintro r u1 ⟨rfl, hb⟩
  have HB : Hid (Below w.heap.size w u1) := hu.trans (hb.mono hu.size)
  have c1 : u1.cell? ⟨w.heap.size, 2, none⟩ = some (.int .i64 c) := (h1.up hb).cell 2
  have c2 : u1.cell? ⟨w.heap.size + 1, 2, none⟩ = some (.int .i64 c) := (h2.up hb).cell 2
  clear hu hb h1 h2
  go_wp2
  go_ret
  exact ⟨rfl, HB.out⟩
end Go.Proofs.Ytjjfdkmhoocfhab.st
