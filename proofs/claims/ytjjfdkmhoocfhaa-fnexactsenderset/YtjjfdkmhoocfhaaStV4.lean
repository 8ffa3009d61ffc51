/-
  The law's own helpers on senders: marked, looked at again. No condition.
-/
import Derived.Test.YtjjfdkmhoocfhaaStV3
import Derived.Test.YtjjfdkmhoocfhaaStU
namespace Go.Proofs.Ytjjfdkmhoocfhaa.st
open Go.ChangeShapes Go.WideShapes Go.ChangeAt Go.RowKit
open Go.Proofs.Ytjjfdkmhoocfhaa.wi (heap_lt calls_w wp_w)
set_option linter.unusedVariables false

/-- what marking leaves of an owned slice -/
def MarkPost (w : World) (v : Value) (n : Nat) (r : Ending) (w' : World) : Prop := r = .returned (.int .i64 (2 * (n : Int) + 1)) ∧ w.grownBy w' v.ownBlock ∧ ∃ l' : List Ln, l'.length = n ∧ Mk l' n ∧ OwnX w' v l'
theorem grown_after {w u w1 : World} {row : Option Nat} (hu : Below w.heap.size w u) (hg : u.grownBy w1 row) : w.grownBy w1 row :=
  ⟨hg.os.trans hu.os, hg.tape.trans hu.tape, hg.output.trans hu.output, Nat.le_trans hu.size hg.size, fun j hj hne => (hg.block j (Nat.lt_of_lt_of_le hj hu.size) hne).trans (hu.block j hj)⟩
set_option maxRecDepth 20000 in
set_option maxHeartbeats 4000000 in
theorem markSnd_any (v : Value) (l : List Ln) (w : World) (hl : l.length ≤ 1048576) (h : OwnX w v l) : Calls Try.prog 26 #[.agg #[v], .int .i64 1] w (MarkPost w v l.length) := by
  obtain ⟨p, cap, rfl⟩ := h.shape
  have HB : Hid (Below w.heap.size w (w.alloc (.cells #[.slice p l.length cap] 49))) := (Below.refl _ _).alloc (Nat.le_refl _) _
  go_enter Try.func26, Try.ntmps26
  go_wp2_with (go_at_call 48; fail)
  refine calls_w (fun u => Below w.heap.size w u) HB.out ?_
  intro u hu
  refine (markS_any _ l u hl (h.up hu)).mono ?_
  rintro r w1 ⟨rfl, hg, l', h1, h2, h3⟩
  have HP : Hid (MarkPost w (.slice p l.length cap) l.length (.returned (.int .i64 (2 * (l.length : Int) + 1))) w1) := ⟨rfl, grown_after hu hg, l', h1, h2, h3⟩
  clear hu hg h2 h3
  go_wp2
  go_ret
  exact HP.out
set_option maxRecDepth 20000 in
set_option maxHeartbeats 4000000 in
theorem heldSnd_any (v : Value) (l : List Ln) (w : World) (hl : l.length ≤ 1048576) (h : OwnX w v l) (hm : Mk l l.length) : Calls Try.prog 27 #[.agg #[v], .int .i64 1] w fun r w' => r = .returned (.int .i64 (2 * (l.length : Int) + 1)) ∧ Below w.heap.size w w' := by
  obtain ⟨p, cap, rfl⟩ := h.shape
  have HB : Hid (Below w.heap.size w (w.alloc (.cells #[.slice p l.length cap] 49))) := (Below.refl _ _).alloc (Nat.le_refl _) _
  have hn1 : decide (2 * (l.length : Int) + 1 < 0) = false := decide_eq_false (by omega)
  go_enter Try.func27, Try.ntmps27
  go_wp2_with (go_at_call 49; fail)
  refine calls_w (fun u => Below w.heap.size w u) HB.out ?_
  intro u hu
  refine (heldS_any _ l u hl (h.up hu) hm).mono ?_
  rintro r w1 ⟨rfl, hb1⟩
  have HP : Hid (Below w.heap.size w w1) := hu.trans (hb1.mono hu.size)
  clear hu hb1 h hm
  go_wp2
  go_ret
  exact ⟨rfl, HP.out⟩
end Go.Proofs.Ytjjfdkmhoocfhaa.st
