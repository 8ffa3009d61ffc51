/-
  Plain mathematics of chapter 5's grams: a gram's number, its bytes, what comes out of bytes. No condition.
-/
import Derived.Test.YtneahcoakbbdaaaDoorWin0
import Derived.Test.YtneahcoakbbdaaaDoorNumBk
import Derived.Test.YtneahcoakbbdaaaDoorBoxPlain
namespace Go.Proofs.YtneahcoakbbdaaaDoor.gm
open Go.ChangeShapes Go.WideShapes Go.ChangeAt Go.RowKit
open Go.Proofs.YtneahcoakbbdaaaDoor.wi (RightG)
open Classical
set_option linter.unusedVariables false

def KeyR (key : ByteArray) : Prop := 1 ≤ key.size ∧ key.size ≤ 64
/-- a gram's number -/
def numG (s e c : Int) : Int := (s * 201 + e) * 2001 + c
theorem numG_range {s e c : Int} {b : Nat} (h : RightG s e c b) : 0 ≤ numG s e c ∧ numG s e c ≤ 804401 := by
  unfold RightG at h; unfold numG; omega
/-- a gram's bytes -/
def sealG (key : ByteArray) (s e c : Int) (b : ByteArray) : ByteArray := if (1 ≤ key.size ∧ key.size ≤ 64) ∧ ((0 ≤ s ∧ s ≤ 1) ∧ (0 ≤ e ∧ e ≤ 200) ∧ (0 ≤ c ∧ c ≤ 2000) ∧ b.size ≤ 800) then pn.numB (numG s e c) ++ cc.sealA key (numG s e c) b else ⟨#[]⟩
theorem sealG_no {key : ByteArray} {s e c : Int} {b : ByteArray} (h : ¬ (KeyR key ∧ RightG s e c b.size)) : sealG key s e c b = ⟨#[]⟩ := if_neg h
theorem sealG_yes {key : ByteArray} {s e c : Int} {b : ByteArray} (h : KeyR key ∧ RightG s e c b.size) : sealG key s e c b = pn.numB (numG s e c) ++ cc.sealA key (numG s e c) b := if_pos h
theorem i64_num {s e c : Int} {b : Nat} (h : RightG s e c b) : pn.i64P (numG s e c) := by
  have := numG_range h
  unfold pn.i64P; omega
theorem digs_length_le (k : Nat) : ∀ u : Nat, u < 128 ^ (k + 1) → (pn.digs u).length ≤ k + 1 := by
  induction k with
  | zero => intro u hu; rw [pn.digs_last (by omega)]; simp
  | succ k ih =>
    intro u hu
    by_cases h : u < 128
    · rw [pn.digs_last h]; simp
    · rw [pn.digs_more h]
      have := ih (u / 128) (by rw [Nat.div_lt_iff_lt_mul (by decide)]; rwa [Nat.pow_succ] at hu)
      simp; omega
theorem numB_size_le {n : Int} (h : pn.i64P n) : (pn.numB n).size ≤ 10 := by
  rw [nk.numB_size]
  have hf := pn.fold_u64 h
  exact digs_length_le 9 _ (by have : (128 : Nat) ^ 10 = 1180591620717411303424 := by decide
                               omega)
end Go.Proofs.YtneahcoakbbdaaaDoor.gm
