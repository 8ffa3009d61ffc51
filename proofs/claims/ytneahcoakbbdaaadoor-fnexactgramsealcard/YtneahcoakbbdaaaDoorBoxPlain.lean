/-
  Plain mathematics of a box: what hides a text, what stands behind it, what SealBox and OpenBox answer; a text comes out of its box, and what came out of a box makes that box again.
-/
import Derived.Test.YtneahcoakbbdaaaDoorShaMac
import Derived.Test.YtneahcoakbbdaaaDoorChaLaws
import Derived.Test.YtneahcoakbbdaaaDoorChaLow
namespace Go.Proofs.YtneahcoakbbdaaaDoor.cc
open Go.ChangeShapes Go.WideShapes Go.ChangeAt Go.RowKit
open Go.Proofs.YtneahcoakbbdaaaDoor.sh (U macB macB_size)
set_option linter.unusedVariables false

def nonceL (n : Int) : List UInt8 := [0, 0, 0, 0] ++ lowL n 8
theorem nonceL_length (n : Int) : (nonceL n).length = 12 := by simp [nonceL, lowL_length]
def nonceB (n : Int) : ByteArray := ⟨(nonceL n).toArray⟩
theorem nonceB_size (n : Int) : (nonceB n).size = 12 := by
  show ((nonceL n).toArray).size = 12
  rw [List.size_toArray, nonceL_length]
theorem nonceB_list (n : Int) : (nonceB n).data.toList = nonceL n := by simp [nonceB]
def hideW : ByteArray := ⟨#[104, 105, 100, 101]⟩
def signW : ByteArray := ⟨#[115, 105, 103, 110]⟩
/-- the hidden text -/
def hideB (key : ByteArray) (n : Int) (t : ByteArray) : ByteArray := ⟨(cipherL (macB key hideW).data.toList 1 (nonceB n).data.toList t.data.toList).toArray⟩
theorem hideB_size (key : ByteArray) (n : Int) (t : ByteArray) : (hideB key n t).size = t.size := by
  show ((cipherL _ _ _ _).toArray).size = _
  rw [List.size_toArray, cipherL_length, Array.length_toList]
  rfl
theorem hideB_twice (key : ByteArray) (n : Int) (t : ByteArray) : hideB key n (hideB key n t) = t := by
  unfold hideB
  simp only []
  rw [cipherL_twice]
/-- what stands behind it -/
def signB (key : ByteArray) (n : Int) (h : ByteArray) : ByteArray := (macB (macB key signW) (nonceB n ++ h)).extract 0 16
theorem extract_size (s : ByteArray) (i j : Nat) : (s.extract i j).size = min j s.size - i := by simp
theorem signB_size (key : ByteArray) (n : Int) (h : ByteArray) : (signB key n h).size = 16 := by
  unfold signB; rw [extract_size, macB_size]
  decide
def boxB (key : ByteArray) (n : Int) (t : ByteArray) : ByteArray := hideB key n t ++ signB key n (hideB key n t)
theorem boxB_size (key : ByteArray) (n : Int) (t : ByteArray) : (boxB key n t).size = t.size + 16 := by
  unfold boxB; rw [ByteArray.size_append, hideB_size, signB_size]
def Key (key : ByteArray) (n : Int) : Prop := (1 ≤ key.size ∧ key.size ≤ 64) ∧ 0 ≤ n ∧ n ≤ 1000000
def sealA (key : ByteArray) (n : Int) (t : ByteArray) : ByteArray := if (1 ≤ key.size ∧ key.size ≤ 64 ∧ 0 ≤ n ∧ n ≤ 1000000) ∧ t.size ≤ 1000 then boxB key n t else ⟨#[]⟩
theorem sealA_yes {key : ByteArray} {n : Int} {t : ByteArray} (h : (1 ≤ key.size ∧ key.size ≤ 64 ∧ 0 ≤ n ∧ n ≤ 1000000) ∧ t.size ≤ 1000) : sealA key n t = boxB key n t := if_pos h
theorem sealA_no {key : ByteArray} {n : Int} {t : ByteArray} (h : ¬ ((1 ≤ key.size ∧ key.size ≤ 64 ∧ 0 ≤ n ∧ n ≤ 1000000) ∧ t.size ≤ 1000)) : sealA key n t = ⟨#[]⟩ := if_neg h
/-- what OpenBox tells: the text and the code -/
def openA (key : ByteArray) (n : Int) (b : ByteArray) : ByteArray × Int :=
  if 8000 < key.size ∨ 8000 < b.size then (⟨#[]⟩, 2)
  else if ¬ (1 ≤ key.size ∧ key.size ≤ 64 ∧ 0 ≤ n ∧ n ≤ 1000000) then (⟨#[]⟩, 1)
  else if b.size < 16 then (⟨#[]⟩, 4)
  else if b.extract (b.size - 16) b.size = signB key n (b.extract 0 (b.size - 16)) then (hideB key n (b.extract 0 (b.size - 16)), 0)
  else (⟨#[]⟩, 5)
theorem openA_size {key : ByteArray} {n : Int} {b : ByteArray} (h : 8000 < key.size ∨ 8000 < b.size) : openA key n b = (⟨#[]⟩, 2) := if_pos h
theorem openA_form {key : ByteArray} {n : Int} {b : ByteArray} (h : ¬ (8000 < key.size ∨ 8000 < b.size)) (h1 : ¬ (1 ≤ key.size ∧ key.size ≤ 64 ∧ 0 ≤ n ∧ n ≤ 1000000)) : openA key n b = (⟨#[]⟩, 1) := by
  unfold openA; rw [if_neg h, if_pos h1]
theorem openA_short {key : ByteArray} {n : Int} {b : ByteArray} (h : ¬ (8000 < key.size ∨ 8000 < b.size)) (h1 : 1 ≤ key.size ∧ key.size ≤ 64 ∧ 0 ≤ n ∧ n ≤ 1000000) (h2 : b.size < 16) : openA key n b = (⟨#[]⟩, 4) := by
  unfold openA; rw [if_neg h, if_neg (not_not_intro h1), if_pos h2]
theorem openA_sum {key : ByteArray} {n : Int} {b : ByteArray} (h : ¬ (8000 < key.size ∨ 8000 < b.size)) (h1 : 1 ≤ key.size ∧ key.size ≤ 64 ∧ 0 ≤ n ∧ n ≤ 1000000) (h2 : ¬ b.size < 16) (h3 : b.extract (b.size - 16) b.size ≠ signB key n (b.extract 0 (b.size - 16))) : openA key n b = (⟨#[]⟩, 5) := by
  unfold openA; rw [if_neg h, if_neg (not_not_intro h1), if_neg h2, if_neg h3]
theorem openA_ok {key : ByteArray} {n : Int} {b : ByteArray} (h : ¬ (8000 < key.size ∨ 8000 < b.size)) (h1 : 1 ≤ key.size ∧ key.size ≤ 64 ∧ 0 ≤ n ∧ n ≤ 1000000) (h2 : ¬ b.size < 16) (h3 : b.extract (b.size - 16) b.size = signB key n (b.extract 0 (b.size - 16))) : openA key n b = (hideB key n (b.extract 0 (b.size - 16)), 0) := by
  unfold openA; rw [if_neg h, if_neg (not_not_intro h1), if_neg h2, if_pos h3]
theorem app_extract (b : ByteArray) (m : Nat) (h : m ≤ b.size) : b.extract 0 m ++ b.extract m b.size = b := by
  rw [ByteArray.extract_append_extract]
  simp
theorem extract_left (a b : ByteArray) : (a ++ b).extract 0 a.size = a := ByteArray.extract_append_eq_left rfl
theorem extract_right (a b : ByteArray) : (a ++ b).extract a.size (a ++ b).size = b := ByteArray.extract_append_eq_right rfl ByteArray.size_append
/-- what is opened is what was sealed -/
theorem open_seal (key : ByteArray) (n : Int) (t : ByteArray) (h : sealA key n t ≠ ⟨#[]⟩) : openA key n (sealA key n t) = (t, 0) ∧ (sealA key n t).size = t.size + 16 := by
  by_cases hc : (1 ≤ key.size ∧ key.size ≤ 64 ∧ 0 ≤ n ∧ n ≤ 1000000) ∧ t.size ≤ 1000
  · rw [sealA_yes hc]
    have hs := boxB_size key n t
    have h0 : (boxB key n t).size - 16 = (hideB key n t).size := by rw [hs, hideB_size]; omega
    have e1 : (boxB key n t).extract 0 ((boxB key n t).size - 16) = hideB key n t := by rw [h0]; exact extract_left _ _
    have e2 : (boxB key n t).extract ((boxB key n t).size - 16) (boxB key n t).size = signB key n (hideB key n t) := by rw [h0]; exact extract_right _ _
    refine ⟨?_, hs⟩
    rw [openA_ok (by omega) hc.1 (by omega) (by rw [e1, e2]), e1, hideB_twice]
  · exact absurd (sealA_no hc) h
/-- what came out of a box makes it again -/
theorem seal_open (key : ByteArray) (n : Int) (b : ByteArray) (h : (openA key n b).2 = 0) (ht : (openA key n b).1.size ≤ 1000) : sealA key n (openA key n b).1 = b := by
  by_cases h0 : 8000 < key.size ∨ 8000 < b.size
  · rw [openA_size h0] at h; cases h
  · by_cases h1 : 1 ≤ key.size ∧ key.size ≤ 64 ∧ 0 ≤ n ∧ n ≤ 1000000
    · by_cases h2 : b.size < 16
      · rw [openA_short h0 h1 h2] at h; cases h
      · by_cases h3 : b.extract (b.size - 16) b.size = signB key n (b.extract 0 (b.size - 16))
        · rw [openA_ok h0 h1 h2 h3] at ht ⊢
          rw [sealA_yes ⟨h1, ht⟩]
          unfold boxB
          rw [hideB_twice, ← h3]
          exact app_extract b _ (by omega)
        · rw [openA_sum h0 h1 h2 h3] at h; cases h
    · rw [openA_form h0 h1] at h; cases h
end Go.Proofs.YtneahcoakbbdaaaDoor.cc
