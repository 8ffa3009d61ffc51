/-
  The program's joined at a row of the call's own: all its texts one behind the other. No condition.
-/
import Derived.Test.YtikkohecanmefabJoin
import Derived.Test.YtikkohecanmefabOwnT
namespace Go.Proofs.Ytikkohecanmefab.ot
open Go.ChangeShapes Go.WideShapes Go.ChangeAt Go.RowKit
open Go.Proofs.Ytikkohecanmefab.wi (heap_lt)
open Go.Proofs.Ytikkohecanmefab.jo (joined_any joinB total bytesOf total_append total_one bytesOf_append bytesOf_one bytesOf_length)
set_option linter.unusedVariables false

theorem total_join (s : List ByteArray) : total s = (joinB s).size := by
  rw [← bytesOf_length]
  simp [joinB, ByteArray.size]
theorem joined_none (p : Option Addr) (cap : Nat) (w : World) : Calls Try.prog 50 #[.slice p 0 cap] w fun e w' => e = .returned (.string ⟨#[]⟩) ∧ Below w.heap.size w w' := by
  have HB : Hid (∀ o, Below w.heap.size w (w.alloc o)) := fun o => (Below.refl _ _).alloc (Nat.le_refl _) o
  obtain ⟨i0, hi, hz0, hz1, hz2⟩ := info_parts jo.info5
  have hmk : (Instr.makeSlice 95 (.int .i64 0) (.int .i64 0)).run Try.prog w = .ok (.slice (some ⟨w.heap.size, 0, none⟩) 0 0) (w.alloc (.cells #[] 5)) := by
    have h := run_make (P := Try.prog) w 95 5 i0 (.int .u8 0) Try.underlying95 hi hz0 .i64 .i64 0 0 (by omega) (Int.le_refl _) (by rw [hz2]; omega) (by omega)
    simpa [hz1, Value.cells, jo.madeRow] using h
  have hconv := run_convert_bytes_back (P := Try.prog) (w.alloc (.cells #[] 5)) 95 9 5 ⟨w.heap.size, 0, none⟩ 0 [] Try.underlying95 Try.underlying5 Try.underlying9 (fun j hj => by simp at hj)
  rw [List.length_nil] at hconv
  clear hi hz0 hz1 hz2
  go_enter Try.func50, Try.ntmps50
  go_wp2
  refine wp_loop_rounds 1 ?_
  rw [rounds_succ]
  go_wp2
  refine wp_loop_rounds 1 ?_
  rw [rounds_succ]
  go_wp2
  go_ret
  exact ⟨rfl, HB.out _⟩
theorem joined_own (s : List ByteArray) (base : Nat) (v : Value) (W : World) (hs : s.length ≤ 1000000) (ht : (joinB s).size ≤ 1099511627776) (hr : OwT base v s W) :
    Calls Try.prog 50 #[v] W fun e w' => e = .returned (.string (joinB s)) ∧ Below W.heap.size W w' := by
  have hr0 : W.ownsRow base 9 1 v s.length (s.map Value.string) := hr
  rcases hr.2 with ⟨rfl, h0⟩ | ⟨g, cap, cur, rfl, hb, hg, _⟩
  · obtain rfl : s = [] := List.eq_nil_of_length_eq_zero h0
    exact joined_none none 0 W
  · refine joined_any s g cap W (heap_lt hg) hs (by rw [total_join]; exact ht) (fun i hi => ?_)
    rw [hr0.cellAt i (by omega), List.getElem?_map, List.getElem?_eq_getElem hi]; rfl
end Go.Proofs.Ytikkohecanmefab.ot
