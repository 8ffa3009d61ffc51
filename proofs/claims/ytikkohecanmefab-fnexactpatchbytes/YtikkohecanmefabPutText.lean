/-
  The two functions that write a text with its length ahead hand back the same text: no condition.
-/
import Derived.Test.YtikkohecanmefabPutNum
import Derived.Test.YtikkohecanmefabJoin
namespace Go.Proofs.Ytikkohecanmefab.pt
open Go.ChangeShapes Go.WideShapes Go.ChangeAt Go.RowKit
set_option linter.unusedVariables false

theorem digs_length_le (k : Nat) : ∀ u : Nat, u < 128 ^ (k + 1) → (pn.digs u).length ≤ k + 1 := by
  induction k with
  | zero => intro u h; rw [pn.digs_last (by simpa using h)]; simp
  | succ k ih =>
    intro u h
    by_cases hu : u < 128
    · rw [pn.digs_last hu]; simp
    · rw [pn.digs_more hu]
      have := ih (u / 128) (by rw [Nat.div_lt_iff_lt_mul (by omega)]; rwa [Nat.pow_succ] at h)
      simp; omega
theorem numB_size_le {n : Int} (h : pn.i64P n) : (pn.numB n).size ≤ 10 := by
  have hf := pn.fold_u64 h
  rw [pn.numB, strOfNums_size]
  exact digs_length_le 9 _ (by have : (128 : Nat) ^ 10 = 1180591620717411303424 := by decide
                               omega)
theorem i64_size {s : ByteArray} (h : ¬ 8000 < s.size) : pn.i64P (s.size : Int) := by unfold pn.i64P; omega

/-- what both hand back -/
def putB (s : ByteArray) : ByteArray := if 8000 < s.size then { data := #[] } else pn.numB (s.size : Int) ++ s
theorem putB_no {s : ByteArray} (h : 8000 < s.size) : putB s = { data := #[] } := if_pos h
theorem putB_yes {s : ByteArray} (h : ¬ 8000 < s.size) : putB s = pn.numB (s.size : Int) ++ s := if_neg h

set_option maxHeartbeats 400000 in
theorem spec_any (s : ByteArray) (w : World) (hs : s.size ≤ maxLen) :
    Calls Try.prog 46 #[.string s] w fun e w' => e = .returned (.string (putB s)) ∧ Below w.heap.size w w' := by
  unfold maxLen at hs
  by_cases h1 : 8000 < s.size
  · rw [putB_no h1]
    go_enter Try.func46, Try.ntmps46
    go_wp2
    go_ret
    exact ⟨rfl, Below.refl _ _⟩
  · rw [putB_yes h1]
    have hi := i64_size h1
    have hn := numB_size_le hi
    go_enter Try.func46, Try.ntmps46
    go_wp2_with (go_at_call 45; refine (pn.spec_any _ _ hi).mono ?_; rintro e w1 ⟨rfl, hb1⟩)
    go_ret
    exact ⟨rfl, hb1⟩

set_option maxHeartbeats 400000 in
theorem impl_any (s : ByteArray) (w : World) (hs : s.size ≤ maxLen) :
    Calls Try.prog 49 #[.string s] w fun e w' => e = .returned (.string (putB s)) ∧ Below w.heap.size w w' := by
  unfold maxLen at hs
  by_cases h1 : 8000 < s.size
  · rw [putB_no h1]
    go_enter Try.func49, Try.ntmps49
    go_wp2
    go_ret
    exact ⟨rfl, Below.refl _ _⟩
  · rw [putB_yes h1]
    have hi := i64_size h1
    have hn := numB_size_le hi
    go_enter Try.func49, Try.ntmps49
    go_wp2_with (first | (go_at_call 48; refine (pn.impl_any _ _ hi).mono ?_; rintro e w1 ⟨rfl, hb1⟩) | (go_at_call 50; refine (jo.joined2 _ _ _ (by omega)).mono ?_; rintro e w2 ⟨rfl, hb2⟩))
    go_ret
    exact ⟨rfl, hb1.trans (hb2.mono hb1.size)⟩
end Go.Proofs.Ytikkohecanmefab.pt
