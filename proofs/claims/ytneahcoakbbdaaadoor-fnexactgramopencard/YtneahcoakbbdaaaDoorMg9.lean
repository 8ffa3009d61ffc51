/-
  The answer of OpenBox, and two texts held against each other.
  Plain mathematics of chapter 5's grams: a gram's number, its bytes, what comes out of bytes. No condition.
  Opening a gram's bytes, plainly: which gram a number tells, and what GramOpen answers. No condition.
-/
import Derived.Test.YtneahcoakbbdaaaDoorMg8
import Derived.WalkSpells
import Derived.Laws.Tables
import Derived.Laws.CopyOwn
import Derived.Laws.IdiomStrings
import Derived.Test.YtneahcoakbbdaaaDoorMg4
import Derived.Test.YtneahcoakbbdaaaDoorNumBk
namespace Go.Proofs.YtneahcoakbbdaaaDoor.cc
open Go.ChangeShapes Go.WideShapes Go.ChangeAt Go.RowKit
set_option linter.unusedVariables false

theorem infoO : (Tryd.prog.info? 66).map (·.size) = some 3 := by kernel_rfl
/-- the answer of OpenBox -/
def OutO (key : ByteArray) (n : Int) (b : ByteArray) : Value := .agg #[.string (openA key n b).1, .int .i64 0, .int .i64 (openA key n b).2]
theorem outO_of {key : ByteArray} {n : Int} {b : ByteArray} {t : ByteArray} {c : Int} (h : openA key n b = (t, c)) : Ending.returned (.agg #[.string t, .int .i64 0, .int .i64 c]) = Ending.returned (OutO key n b) := by unfold OutO; rw [h]

theorem beqT {a b : ByteArray} (h : a = b) : (a.toList == b.toList) = true := by subst h; simp
theorem toList_dataQ (s : ByteArray) : s.toList = s.data.toList := ByteArray.toList_eq s
theorem bytes_injQ {a b : ByteArray} (h : a.data.toList = b.data.toList) : a = b := by
  cases a; cases b; simp only [ByteArray.mk.injEq]; exact Array.ext' h
theorem beqF {s t : ByteArray} (h : ¬ s = t) : (s.toList == t.toList) = false := by
  simp only [beq_eq_false_iff_ne, ne_eq, toList_dataQ]
  intro e; exact h (bytes_injQ e)
end Go.Proofs.YtneahcoakbbdaaaDoor.cc

namespace Go.Proofs.YtneahcoakbbdaaaDoor.gm
open Go.ChangeShapes Go.WideShapes Go.ChangeAt Go.RowKit
open Go.Proofs.YtneahcoakbbdaaaDoor.wi (RightG)
open Classical
set_option linter.unusedVariables false

def KeyR (key : ByteArray) : Prop := 1 ≤ key.size ∧ key.size ≤ 64
/-- a gram's number -/
def numG (s e c : Int) : Int := (s * 201 + e) * 2001 + c
theorem numG_range {s e c : Int} {b : Nat} (h : RightG s e c b) : 0 ≤ numG s e c ∧ numG s e c ≤ 804401 := by
  unfold RightG at h; unfold numG; omega
/-- a gram's bytes -/
def sealG (key : ByteArray) (s e c : Int) (b : ByteArray) : ByteArray := if (1 ≤ key.size ∧ key.size ≤ 64) ∧ ((0 ≤ s ∧ s ≤ 1) ∧ (0 ≤ e ∧ e ≤ 200) ∧ (0 ≤ c ∧ c ≤ 2000) ∧ b.size ≤ 800) then pn.numB (numG s e c) ++ cc.sealA key (numG s e c) b else ⟨#[]⟩
theorem sealG_no {key : ByteArray} {s e c : Int} {b : ByteArray} (h : ¬ (KeyR key ∧ RightG s e c b.size)) : sealG key s e c b = ⟨#[]⟩ := if_neg h
theorem sealG_yes {key : ByteArray} {s e c : Int} {b : ByteArray} (h : KeyR key ∧ RightG s e c b.size) : sealG key s e c b = pn.numB (numG s e c) ++ cc.sealA key (numG s e c) b := if_pos h
theorem i64_num {s e c : Int} {b : Nat} (h : RightG s e c b) : pn.i64P (numG s e c) := by
  have := numG_range h
  unfold pn.i64P; omega
theorem digs_length_le (k : Nat) : ∀ u : Nat, u < 128 ^ (k + 1) → (pn.digs u).length ≤ k + 1 := by
  induction k with
  | zero => intro u hu; rw [pn.digs_last (by omega)]; simp
  | succ k ih =>
    intro u hu
    by_cases h : u < 128
    · rw [pn.digs_last h]; simp
    · rw [pn.digs_more h]
      have := ih (u / 128) (by rw [Nat.div_lt_iff_lt_mul (by decide)]; rwa [Nat.pow_succ] at hu)
      simp; omega
theorem numB_size_le {n : Int} (h : pn.i64P n) : (pn.numB n).size ≤ 10 := by
  rw [nk.numB_size]
  have hf := pn.fold_u64 h
  exact digs_length_le 9 _ (by have : (128 : Nat) ^ 10 = 1180591620717411303424 := by decide
                               omega)
end Go.Proofs.YtneahcoakbbdaaaDoor.gm

namespace Go.Proofs.YtneahcoakbbdaaaDoor.gm
open Go.ChangeShapes Go.WideShapes Go.ChangeAt Go.RowKit
open Go.Proofs.YtneahcoakbbdaaaDoor.wi (RightG)
open Go.Proofs.YtneahcoakbbdaaaDoor.np (getV numV)
open Classical
set_option linter.unusedVariables false

/-- the gram of a number: side, epoch, count -/
def gS (n : Int) : Int := (n.tdiv 2001).tdiv 201
def gE (n : Int) : Int := (n.tdiv 2001).tmod 201
def gC (n : Int) : Int := n.tmod 2001
theorem gS_pos {n : Int} (h : 0 ≤ n) : gS n = n / 2001 / 201 := by
  unfold gS
  rw [Int.tdiv_eq_ediv_of_nonneg h, Int.tdiv_eq_ediv_of_nonneg (by omega)]
theorem gE_pos {n : Int} (h : 0 ≤ n) : gE n = n / 2001 % 201 := by
  unfold gE
  rw [Int.tdiv_eq_ediv_of_nonneg h, Int.tmod_eq_emod_of_nonneg (by omega)]
theorem gC_pos {n : Int} (h : 0 ≤ n) : gC n = n % 2001 := by
  unfold gC
  rw [Int.tmod_eq_emod_of_nonneg h]
theorem gS_neg {n : Int} (h : 0 ≤ n) : gS (-n) = -(n / 2001 / 201) := by
  have := gS_pos h
  unfold gS at this ⊢
  rw [Int.neg_tdiv, Int.neg_tdiv, this]
theorem gE_neg {n : Int} (h : 0 ≤ n) : gE (-n) = -(n / 2001 % 201) := by
  have := gE_pos h
  unfold gE at this ⊢
  rw [Int.neg_tdiv, Int.neg_tmod, this]
theorem gC_neg {n : Int} (h : 0 ≤ n) : gC (-n) = -(n % 2001) := by
  have := gC_pos h
  unfold gC at this ⊢
  rw [Int.neg_tmod, this]
/-- a number's gram is right just within the range -/
theorem right_of_num {n : Int} {b : Nat} : RightG (gS n) (gE n) (gC n) b ↔ (0 ≤ n ∧ n ≤ 804401) ∧ b ≤ 800 := by
  unfold RightG
  by_cases h : 0 ≤ n
  · rw [gS_pos h, gE_pos h, gC_pos h]
    omega
  · obtain ⟨m, rfl⟩ : ∃ m : Int, n = -m := ⟨-n, by omega⟩
    rw [gS_neg (by omega), gE_neg (by omega), gC_neg (by omega)]
    omega
theorem g_range {n : Int} (h : pn.i64P n) : (-9223372036854775808 ≤ gS n ∧ gS n ≤ 9223372036854775807) ∧ (-9223372036854775808 ≤ n.tdiv 2001 ∧ n.tdiv 2001 ≤ 9223372036854775807) := by
  unfold pn.i64P at h
  by_cases h0 : 0 ≤ n
  · rw [gS_pos h0, Int.tdiv_eq_ediv_of_nonneg h0]
    omega
  · obtain ⟨m, rfl⟩ : ∃ m : Int, n = -m := ⟨-n, by omega⟩
    rw [gS_neg (by omega), Int.neg_tdiv, Int.tdiv_eq_ediv_of_nonneg (by omega)]
    omega

/-- what GramOpen tells: a gram, and a code -/
def noG (c : Int) : (Int × Int × Int × ByteArray) × Int := ((0, 0, 0, ⟨#[]⟩), c)
/-- the box behind the number -/
def boxG (text : ByteArray) : ByteArray := text.extract (getV text 0).2.1.toNat text.size
def openG (key text : ByteArray) : (Int × Int × Int × ByteArray) × Int :=
  if 8000 < key.size ∨ 8000 < text.size then noG 2
  else if ¬ (1 ≤ key.size ∧ key.size ≤ 64) then noG 1
  else if ¬ ((getV text 0).2.2 = 0 ∧ 0 ≤ (getV text 0).1 ∧ (getV text 0).1 ≤ 804401) then noG 3
  else if (cc.openA key (getV text 0).1 (boxG text)).2 ≠ 0 then noG (cc.openA key (getV text 0).1 (boxG text)).2
  else if 800 < (cc.openA key (getV text 0).1 (boxG text)).1.size then noG 1
  else ((gS (getV text 0).1, gE (getV text 0).1, gC (getV text 0).1, (cc.openA key (getV text 0).1 (boxG text)).1), 0)
theorem openG_size {key text : ByteArray} (h : 8000 < key.size ∨ 8000 < text.size) : openG key text = noG 2 := if_pos h
theorem openG_key {key text : ByteArray} (h : ¬ (8000 < key.size ∨ 8000 < text.size)) (h1 : ¬ KeyR key) : openG key text = noG 1 := by
  unfold openG; rw [if_neg h, if_pos (show ¬ (1 ≤ key.size ∧ key.size ≤ 64) from h1)]
theorem openG_num {key text : ByteArray} (h : ¬ (8000 < key.size ∨ 8000 < text.size)) (h1 : KeyR key) {n a c : Int} (hg : getV text 0 = (n, a, c)) (h2 : ¬ (c = 0 ∧ 0 ≤ n ∧ n ≤ 804401)) : openG key text = noG 3 := by
  unfold openG; rw [if_neg h, if_neg (not_not_intro (show 1 ≤ key.size ∧ key.size ≤ 64 from h1)), hg, if_pos h2]
theorem openG_box {key text : ByteArray} (h : ¬ (8000 < key.size ∨ 8000 < text.size)) (h1 : KeyR key) {n a : Int} (hg : getV text 0 = (n, a, 0)) (h2 : 0 ≤ n ∧ n ≤ 804401) {T : ByteArray} {c : Int} (ho : cc.openA key n (text.extract a.toNat text.size) = (T, c)) (hc : c ≠ 0) : openG key text = noG c := by
  unfold openG boxG; rw [if_neg h, if_neg (not_not_intro (show 1 ≤ key.size ∧ key.size ≤ 64 from h1)), hg, if_neg (by simp; omega)]; simp only [ho]; rw [if_pos hc]
theorem openG_long {key text : ByteArray} (h : ¬ (8000 < key.size ∨ 8000 < text.size)) (h1 : KeyR key) {n a : Int} (hg : getV text 0 = (n, a, 0)) (h2 : 0 ≤ n ∧ n ≤ 804401) {T : ByteArray} (ho : cc.openA key n (text.extract a.toNat text.size) = (T, 0)) (hc : 800 < T.size) : openG key text = noG 1 := by
  unfold openG boxG; rw [if_neg h, if_neg (not_not_intro (show 1 ≤ key.size ∧ key.size ≤ 64 from h1)), hg, if_neg (by simp; omega)]; simp only [ho]; rw [if_neg (by simp), if_pos hc]
theorem openG_ok {key text : ByteArray} (h : ¬ (8000 < key.size ∨ 8000 < text.size)) (h1 : KeyR key) {n a : Int} (hg : getV text 0 = (n, a, 0)) (h2 : 0 ≤ n ∧ n ≤ 804401) {T : ByteArray} (ho : cc.openA key n (text.extract a.toNat text.size) = (T, 0)) (hc : ¬ 800 < T.size) : openG key text = ((gS n, gE n, gC n, T), 0) := by
  unfold openG boxG; rw [if_neg h, if_neg (not_not_intro (show 1 ≤ key.size ∧ key.size ≤ 64 from h1)), hg, if_neg (by simp; omega)]; simp only [ho]; rw [if_neg (by simp), if_neg hc]
/-- a code of openA is no less than 0 -/
theorem openA_code {key : ByteArray} {n : Int} {b : ByteArray} {T : ByteArray} {c : Int} (h : cc.openA key n b = (T, c)) : c ≠ 0 → 1 ≤ c := by
  unfold cc.openA at h
  intro hc
  split at h <;> (try split at h) <;> (try split at h) <;> (try split at h) <;> (cases h; first | omega | decide)
end Go.Proofs.YtneahcoakbbdaaaDoor.gm
