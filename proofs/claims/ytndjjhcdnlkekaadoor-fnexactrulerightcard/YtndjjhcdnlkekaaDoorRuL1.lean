/-
  The walk of the law that holds the program's RuleRight against the model's: true at every rule. No condition.
-/
import Derived.Test.YtndjjhcdnlkekaaDoorRuT
namespace Go.Proofs.YtndjjhcdnlkekaaDoor.rl
open Go.ChangeShapes Go.WideShapes Go.ChangeAt Go.RowKit
open Go.Proofs.YtndjjhcdnlkekaaDoor.wi (heap_lt calls_w wp_w)
open Classical
set_option linter.unusedVariables false

/-- the argument's block -/
def InV (w : World) (k n : Int) (x g : ByteArray) (u : World) : Prop := Below w.heap.size w u ∧ rw.At u w.heap.size #[.int .i64 k, .int .i64 n, .string x, .string g] 23
theorem InV.up {w u u' : World} {k n : Int} {x g : ByteArray} (h : InV w k n x g u) (hb : Below u.heap.size u u') : InV w k n x g u' := ⟨h.1.trans (hb.mono h.1.size), h.2.up hb⟩
theorem InV.row {w u : World} {k n : Int} {x g : ByteArray} (h : InV w k n x g u) : u.heap[w.heap.size]? = some (.cells #[.int .i64 k, .int .i64 n, .string x, .string g] 23 (0, 0)) := h.2
set_option maxHeartbeats 8000000 in
theorem lawRuleRight (w : World) (k n : Int) (x g : ByteArray) (hx : x.size ≤ maxLen) (hg : g.size ≤ maxLen) :
    Calls Tryd.prog 3 #[.agg #[.int .i64 k, .int .i64 n, .string x, .string g]] w fun r w' => r = .returned (.bool true) ∧ Below w.heap.size w w' := by
  have HI : Hid (InV w k n x g (w.alloc (.cells #[.int .i64 k, .int .i64 n, .string x, .string g] 23))) := ⟨(Below.refl _ _).alloc (Nat.le_refl _) _, rw.At.new _ _ _⟩
  have hsz := fun u => szRule_any k n x g 1048576 u (by decide) (Int.le_refl _) (by unfold maxLen at hx; omega) (by unfold maxLen at hg; omega)
  have hm := fun u => ruleM_any k n x g u hx hg
  have hi := fun u => ruleI_any k n x g u hx hg
  go_enter Tryd.func3, Tryd.ntmps3
  go_wp2_with (go_at_call 9; fail)
  refine calls_w (InV w k n x g) HI.out ?_
  clear HI
  intro u i
  refine (hsz u).mono ?_
  rintro r u1 ⟨rfl, hb⟩
  replace i := i.up hb
  clear hb hsz
  obtain ⟨z, hz⟩ : ∃ z : Int, z = if 1048576 - ((x.size + g.size : Nat) : Int) < 0 then -1 else 1048576 - ((x.size + g.size : Nat) : Int) := ⟨_, rfl⟩
  rw [← hz]
  clear hz
  by_cases hneg : z < 0
  · have HB : Hid (Below w.heap.size w u1) := i.1
    clear i hm hi
    go_wp2
    go_ret
    exact ⟨rfl, HB.out⟩
  · generalize decide (RuleR k n x g) = b at hm hi
    have hbb : (b != b) = false := by simp
    have c0 := i.2.cell 0
    have c1 := i.2.cell 1
    have c2 := i.2.cell 2
    have c3 := i.2.cell 3
    go_wp2_with (go_at_call 11; fail)
    refine calls_w (InV w k n x g) i ?_
    clear i c0 c1 c2 c3
    intro u2 i
    refine (toRule_any k n x g u2).mono ?_
    rintro r u3 ⟨rfl, hb⟩
    replace i := i.up hb
    clear hb
    go_wp2_with (go_at_call 10; fail)
    refine (hm _).mono ?_
    rintro r u4 ⟨rfl, hb⟩
    replace i := i.up hb
    clear hb hm
    have c0 := i.2.cell 0
    have c1 := i.2.cell 1
    have c2 := i.2.cell 2
    have c3 := i.2.cell 3
    go_wp2_with (go_at_call 11; fail)
    refine calls_w (InV w k n x g) i ?_
    clear i c0 c1 c2 c3
    intro u5 i
    refine (toRule_any k n x g u5).mono ?_
    rintro r u6 ⟨rfl, hb⟩
    replace i := i.up hb
    clear hb
    go_wp2_with (go_at_call 12; fail)
    refine (hi _).mono ?_
    rintro r u7 ⟨rfl, hb⟩
    replace i := i.up hb
    clear hb hi
    have HB : Hid (Below w.heap.size w u7) := i.1
    clear i
    go_wp2
    go_ret
    exact ⟨rfl, HB.out⟩
end Go.Proofs.YtndjjhcdnlkekaaDoor.rl
