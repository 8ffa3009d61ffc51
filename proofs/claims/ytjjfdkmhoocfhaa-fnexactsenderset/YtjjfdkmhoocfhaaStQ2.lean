/-
  The program's queue of states: its last one and its first one. No condition.
-/
import Derived.Test.YtjjfdkmhoocfhaaStQ
namespace Go.Proofs.Ytjjfdkmhoocfhaa.st
open Go.ChangeShapes Go.WideShapes Go.ChangeAt Go.RowKit
open Go.Proofs.Ytjjfdkmhoocfhaa.wi (heap_lt calls_w wp_w)
set_option linter.unusedVariables false

theorem infoSt2 : (Try.prog.info? 28).map (·.size) = some 2 := by kernel_rfl
theorem new_drew (u : World) (x0 x1 : Value) : rw.At (u.alloc (.cells #[x0, x1] 28)).drew u.heap.size #[x0, x1] 28 ∧ Below u.heap.size u (u.alloc (.cells #[x0, x1] 28)).drew :=
  ⟨rw.At.new u _ _, (rw.up_alloc u _).drew⟩
theorem new_plain (u : World) (x0 x1 : Value) : rw.At (u.alloc (.cells #[x0, x1] 28)) u.heap.size #[x0, x1] 28 ∧ Below u.heap.size u (u.alloc (.cells #[x0, x1] 28)) :=
  ⟨rw.At.new u _ _, rw.up_alloc u _⟩
set_option maxHeartbeats 4000000 in
theorem last_any (q b off cap : Nat) (l : List Ln) (u : World) (hl : l.length ≤ 1000) (hne : 0 < l.length) (hb : b < u.heap.size) (hq : rw.At u q #[.slice (some ⟨b, off, none⟩) l.length cap] 79) (hR : Row u b off l) :
    Calls Try.prog 52 #[.pointer (some ⟨q, 0, none⟩)] u fun e w' => e = .returned (.agg #[.int .i64 (l.getD (l.length - 1) ln0).1, .string (l.getD (l.length - 1) ln0).2]) ∧ Below u.heap.size u w' := by
  have c0 : ∀ o, (u.alloc o).cell? ⟨q, 0, none⟩ = some (.slice (some ⟨b, off, none⟩) l.length cap) := fun o => (hq.up (rw.up_alloc _ o)).cell 0
  have hr1 := fun o => ((hR.below (rw.up_alloc u o) hb) (l.length - 1) (by omega)).1
  have hr2 := fun o => ((hR.below (rw.up_alloc u o) hb) (l.length - 1) (by omega)).2
  have HF : Hid _ := new_drew u (.int .i64 (l.getD (l.length - 1) ln0).1) (.string (l.getD (l.length - 1) ln0).2)
  obtain ⟨x, hx⟩ : ∃ x, x = (l.getD (l.length - 1) ln0).2 := ⟨_, rfl⟩
  obtain ⟨z, hz⟩ : ∃ z, z = (l.getD (l.length - 1) ln0).1 := ⟨_, rfl⟩
  rw [← hx, ← hz] at HF ⊢
  rw [← hz] at hr1
  rw [← hx] at hr2
  have n1 : q ≠ u.heap.size := Nat.ne_of_lt hq.lt
  obtain ⟨j, hj⟩ : ∃ j, j = l.length - 1 := ⟨_, rfl⟩
  rw [← hj] at hr1 hr2
  have hwj : IntKind.i64.wrap ((l.length : Int) - 1) = (j : Int) := by rw [IntKind.wrap_i64]; omega
  have hji : (j : Int) < (l.length : Int) := by omega
  generalize l.length = n at *
  clear hj hne
  clear hq hR hx hz hb
  go_enter Try.func52, Try.ntmps52
  go_wp2_with fail
  go_region_with (fail)
  all_goals
    obtain ⟨d1, d2⟩ := HF.out
    go_wp2
    exact bodyPost_ret (results_cell_row Try.results52 _ _ u.heap.size _ #[.int .i64 z, .string x] _ _ rfl d1 Try.underlying28 rfl infoSt2) rfl ⟨rfl, d2⟩
end Go.Proofs.Ytjjfdkmhoocfhaa.st
