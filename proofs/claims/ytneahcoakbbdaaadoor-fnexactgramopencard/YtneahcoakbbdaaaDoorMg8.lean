/-
  The program's Mac and Stretch at every argument: what the plain functions tell; no old block turns. Condition: the table of the rounds' numbers lies in its variable.
  Plain mathematics of a box: what hides a text, what stands behind it, what SealBox and OpenBox answer; a text comes out of its box, and what came out of a box makes that box again.
-/
import Derived.Test.YtneahcoakbbdaaaDoorShaOne
import Derived.Test.YtneahcoakbbdaaaDoorShaPad
import Derived.Test.YtneahcoakbbdaaaDoorMg2
namespace Go.Proofs.YtneahcoakbbdaaaDoor.sh
open Go.ChangeShapes Go.WideShapes Go.ChangeAt Go.RowKit
set_option linter.unusedVariables false

/-- the key of a mac -/
def keyB (key : ByteArray) : ByteArray := if 64 < key.size then shaB key.data.toList else key
theorem keyB_size (key : ByteArray) : (keyB key).size ≤ 64 := by
  unfold keyB; split
  · rw [shaB_size]; omega
  · omega
def macB (key t : ByteArray) : ByteArray := shaB ((padS (keyB key).data.toList 92).data.toList ++ (shaB ((padS (keyB key).data.toList 54).data.toList ++ t.data.toList)).data.toList)
theorem macB_size (key t : ByteArray) : (macB key t).size = 32 := shaB_size _
/-- what Mac answers -/
def macA (key t : ByteArray) : ByteArray := if 8000 < key.size ∨ 8000 < t.size then ⟨#[]⟩ else macB key t
theorem macA_no {key t : ByteArray} (h : 8000 < key.size ∨ 8000 < t.size) : macA key t = ⟨#[]⟩ := if_pos h
theorem macA_yes {key t : ByteArray} (h : ¬ (8000 < key.size ∨ 8000 < t.size)) : macA key t = macB key t := if_neg h

set_option maxRecDepth 20000 in
set_option maxHeartbeats 4000000 in
theorem implMac_core (key t : ByteArray) (w : World) (hk : key.size ≤ 8000) (ht : t.size ≤ 8000) (hT : Tab w) :
    Calls Tryd.prog 64 #[.string key, .string t] w fun e w' => e = .returned (.string (macB key t)) ∧ Below w.heap.size w w' := by
  by_cases hlong : 64 < key.size
  · have HK : Hid (keyB key = shaB key.data.toList) := if_pos hlong
    have hks := keyB_size key
    have HM : Hid (macB key t = shaB ((padS (keyB key).data.toList 92).data.toList ++ (shaB ((padS (keyB key).data.toList 54).data.toList ++ t.data.toList)).data.toList)) := rfl
    have hz92 := padS_size (keyB key).data.toList 92
    have hz54 := padS_size (keyB key).data.toList 54
    go_enter Tryd.func64, Tryd.ntmps64
    go_wp2_with fail
    refine (digest1 key w (by omega) hT).mono ?_
    rw [← HK.out]
    rintro e w0 ⟨rfl, hC0⟩
    go_wp2_with fail
    refine (masked_any (keyB key) 92 _ w0 hks rfl).mono ?_
    rintro e w1 ⟨rfl, hB1⟩
    have hC1 := hC0.trans (hB1.mono hC0.size)
    clear hB1
    go_wp2_with fail
    refine (masked_any (keyB key) 54 _ w1 hks rfl).mono ?_
    rintro e w2 ⟨rfl, hB2⟩
    have hC2 := hC1.trans (hB2.mono hC1.size)
    clear hB2 hC1
    go_wp2_with fail
    refine (digest2 _ _ w2 (by omega) (hT.up hC2)).mono ?_
    rintro e w3 ⟨rfl, hB3⟩
    have hC3 := hC2.trans (hB3.mono hC2.size)
    clear hB3 hC2
    go_wp2_with fail
    refine (digest2 _ _ w3 (by rw [shaB_size]; omega) (hT.up hC3)).mono ?_
    rintro e w4 ⟨rfl, hB4⟩
    have hC4 := hC3.trans (hB4.mono hC3.size)
    go_wp2_with fail
    go_ret
    exact ⟨ret_str HM.out.symm, hC4⟩
  · have HM : Hid (macB key t = shaB ((padS key.data.toList 92).data.toList ++ (shaB ((padS key.data.toList 54).data.toList ++ t.data.toList)).data.toList)) := by
      show _ = _
      unfold macB; rw [show keyB key = key from if_neg hlong]
    have hks : key.size ≤ 64 := by omega
    have hz92 := padS_size key.data.toList 92
    have hz54 := padS_size key.data.toList 54
    have hC0 := Below.refl w.heap.size w
    go_enter Tryd.func64, Tryd.ntmps64
    go_wp2_with fail
    refine (masked_any key 92 _ w hks rfl).mono ?_
    rintro e w1 ⟨rfl, hB1⟩
    have hC1 := hC0.trans (hB1.mono hC0.size)
    clear hB1
    go_wp2_with fail
    refine (masked_any key 54 _ w1 hks rfl).mono ?_
    rintro e w2 ⟨rfl, hB2⟩
    have hC2 := hC1.trans (hB2.mono hC1.size)
    clear hB2 hC1
    go_wp2_with fail
    refine (digest2 _ _ w2 (by omega) (hT.up hC2)).mono ?_
    rintro e w3 ⟨rfl, hB3⟩
    have hC3 := hC2.trans (hB3.mono hC2.size)
    clear hB3 hC2
    go_wp2_with fail
    refine (digest2 _ _ w3 (by rw [shaB_size]; omega) (hT.up hC3)).mono ?_
    rintro e w4 ⟨rfl, hB4⟩
    have hC4 := hC3.trans (hB4.mono hC3.size)
    go_wp2_with fail
    go_ret
    exact ⟨ret_str HM.out.symm, hC4⟩

theorem implMac_any (key t : ByteArray) (w : World) (hk : key.size ≤ maxLen) (ht : t.size ≤ maxLen) (hT : Tab w) :
    Calls Tryd.prog 64 #[.string key, .string t] w fun e w' => e = .returned (.string (macA key t)) ∧ Below w.heap.size w w' := by
  unfold maxLen at hk ht
  by_cases hb : 8000 < key.size ∨ 8000 < t.size
  · rw [macA_no hb]
    by_cases h1 : 8000 < key.size
    · clear hb
      go_enter Tryd.func64, Tryd.ntmps64
      go_wp2
      go_ret
      exact ⟨rfl, Below.refl _ _⟩
    · have h2 : 8000 < t.size := by omega
      clear hb
      go_enter Tryd.func64, Tryd.ntmps64
      go_wp2
      go_ret
      exact ⟨rfl, Below.refl _ _⟩
  · rw [macA_yes hb]
    exact implMac_core key t w (by omega) (by omega) hT

end Go.Proofs.YtneahcoakbbdaaaDoor.sh

namespace Go.Proofs.YtneahcoakbbdaaaDoor.cc
open Go.ChangeShapes Go.WideShapes Go.ChangeAt Go.RowKit
open Go.Proofs.YtneahcoakbbdaaaDoor.sh (U macB macB_size)
set_option linter.unusedVariables false

def nonceL (n : Int) : List UInt8 := [0, 0, 0, 0] ++ lowL n 8
theorem nonceL_length (n : Int) : (nonceL n).length = 12 := by simp [nonceL, lowL_length]
def nonceB (n : Int) : ByteArray := ⟨(nonceL n).toArray⟩
theorem nonceB_size (n : Int) : (nonceB n).size = 12 := by
  show ((nonceL n).toArray).size = 12
  rw [List.size_toArray, nonceL_length]
theorem nonceB_list (n : Int) : (nonceB n).data.toList = nonceL n := by simp [nonceB]
def hideW : ByteArray := ⟨#[104, 105, 100, 101]⟩
def signW : ByteArray := ⟨#[115, 105, 103, 110]⟩
/-- the hidden text -/
def hideB (key : ByteArray) (n : Int) (t : ByteArray) : ByteArray := ⟨(cipherL (macB key hideW).data.toList 1 (nonceB n).data.toList t.data.toList).toArray⟩
theorem hideB_size (key : ByteArray) (n : Int) (t : ByteArray) : (hideB key n t).size = t.size := by
  show ((cipherL _ _ _ _).toArray).size = _
  rw [List.size_toArray, cipherL_length, Array.length_toList]
  rfl
theorem hideB_twice (key : ByteArray) (n : Int) (t : ByteArray) : hideB key n (hideB key n t) = t := by
  unfold hideB
  simp only []
  rw [cipherL_twice]
/-- what stands behind it -/
def signB (key : ByteArray) (n : Int) (h : ByteArray) : ByteArray := (macB (macB key signW) (nonceB n ++ h)).extract 0 16
theorem extract_size (s : ByteArray) (i j : Nat) : (s.extract i j).size = min j s.size - i := by simp
theorem signB_size (key : ByteArray) (n : Int) (h : ByteArray) : (signB key n h).size = 16 := by
  unfold signB; rw [extract_size, macB_size]
  decide
def boxB (key : ByteArray) (n : Int) (t : ByteArray) : ByteArray := hideB key n t ++ signB key n (hideB key n t)
theorem boxB_size (key : ByteArray) (n : Int) (t : ByteArray) : (boxB key n t).size = t.size + 16 := by
  unfold boxB; rw [ByteArray.size_append, hideB_size, signB_size]
def Key (key : ByteArray) (n : Int) : Prop := (1 ≤ key.size ∧ key.size ≤ 64) ∧ 0 ≤ n ∧ n ≤ 1000000
def sealA (key : ByteArray) (n : Int) (t : ByteArray) : ByteArray := if (1 ≤ key.size ∧ key.size ≤ 64 ∧ 0 ≤ n ∧ n ≤ 1000000) ∧ t.size ≤ 1000 then boxB key n t else ⟨#[]⟩
theorem sealA_yes {key : ByteArray} {n : Int} {t : ByteArray} (h : (1 ≤ key.size ∧ key.size ≤ 64 ∧ 0 ≤ n ∧ n ≤ 1000000) ∧ t.size ≤ 1000) : sealA key n t = boxB key n t := if_pos h
theorem sealA_no {key : ByteArray} {n : Int} {t : ByteArray} (h : ¬ ((1 ≤ key.size ∧ key.size ≤ 64 ∧ 0 ≤ n ∧ n ≤ 1000000) ∧ t.size ≤ 1000)) : sealA key n t = ⟨#[]⟩ := if_neg h
/-- what OpenBox tells: the text and the code -/
def openA (key : ByteArray) (n : Int) (b : ByteArray) : ByteArray × Int :=
  if 8000 < key.size ∨ 8000 < b.size then (⟨#[]⟩, 2)
  else if ¬ (1 ≤ key.size ∧ key.size ≤ 64 ∧ 0 ≤ n ∧ n ≤ 1000000) then (⟨#[]⟩, 1)
  else if b.size < 16 then (⟨#[]⟩, 4)
  else if b.extract (b.size - 16) b.size = signB key n (b.extract 0 (b.size - 16)) then (hideB key n (b.extract 0 (b.size - 16)), 0)
  else (⟨#[]⟩, 5)
theorem openA_size {key : ByteArray} {n : Int} {b : ByteArray} (h : 8000 < key.size ∨ 8000 < b.size) : openA key n b = (⟨#[]⟩, 2) := if_pos h
theorem openA_form {key : ByteArray} {n : Int} {b : ByteArray} (h : ¬ (8000 < key.size ∨ 8000 < b.size)) (h1 : ¬ (1 ≤ key.size ∧ key.size ≤ 64 ∧ 0 ≤ n ∧ n ≤ 1000000)) : openA key n b = (⟨#[]⟩, 1) := by
  unfold openA; rw [if_neg h, if_pos h1]
theorem openA_short {key : ByteArray} {n : Int} {b : ByteArray} (h : ¬ (8000 < key.size ∨ 8000 < b.size)) (h1 : 1 ≤ key.size ∧ key.size ≤ 64 ∧ 0 ≤ n ∧ n ≤ 1000000) (h2 : b.size < 16) : openA key n b = (⟨#[]⟩, 4) := by
  unfold openA; rw [if_neg h, if_neg (not_not_intro h1), if_pos h2]
theorem openA_sum {key : ByteArray} {n : Int} {b : ByteArray} (h : ¬ (8000 < key.size ∨ 8000 < b.size)) (h1 : 1 ≤ key.size ∧ key.size ≤ 64 ∧ 0 ≤ n ∧ n ≤ 1000000) (h2 : ¬ b.size < 16) (h3 : b.extract (b.size - 16) b.size ≠ signB key n (b.extract 0 (b.size - 16))) : openA key n b = (⟨#[]⟩, 5) := by
  unfold openA; rw [if_neg h, if_neg (not_not_intro h1), if_neg h2, if_neg h3]
theorem openA_ok {key : ByteArray} {n : Int} {b : ByteArray} (h : ¬ (8000 < key.size ∨ 8000 < b.size)) (h1 : 1 ≤ key.size ∧ key.size ≤ 64 ∧ 0 ≤ n ∧ n ≤ 1000000) (h2 : ¬ b.size < 16) (h3 : b.extract (b.size - 16) b.size = signB key n (b.extract 0 (b.size - 16))) : openA key n b = (hideB key n (b.extract 0 (b.size - 16)), 0) := by
  unfold openA; rw [if_neg h, if_neg (not_not_intro h1), if_neg h2, if_pos h3]
theorem app_extract (b : ByteArray) (m : Nat) (h : m ≤ b.size) : b.extract 0 m ++ b.extract m b.size = b := by
  rw [ByteArray.extract_append_extract]
  simp
theorem extract_left (a b : ByteArray) : (a ++ b).extract 0 a.size = a := ByteArray.extract_append_eq_left rfl
theorem extract_right (a b : ByteArray) : (a ++ b).extract a.size (a ++ b).size = b := ByteArray.extract_append_eq_right rfl ByteArray.size_append
/-- what is opened is what was sealed -/
theorem open_seal (key : ByteArray) (n : Int) (t : ByteArray) (h : sealA key n t ≠ ⟨#[]⟩) : openA key n (sealA key n t) = (t, 0) ∧ (sealA key n t).size = t.size + 16 := by
  by_cases hc : (1 ≤ key.size ∧ key.size ≤ 64 ∧ 0 ≤ n ∧ n ≤ 1000000) ∧ t.size ≤ 1000
  · rw [sealA_yes hc]
    have hs := boxB_size key n t
    have h0 : (boxB key n t).size - 16 = (hideB key n t).size := by rw [hs, hideB_size]; omega
    have e1 : (boxB key n t).extract 0 ((boxB key n t).size - 16) = hideB key n t := by rw [h0]; exact extract_left _ _
    have e2 : (boxB key n t).extract ((boxB key n t).size - 16) (boxB key n t).size = signB key n (hideB key n t) := by rw [h0]; exact extract_right _ _
    refine ⟨?_, hs⟩
    rw [openA_ok (by omega) hc.1 (by omega) (by rw [e1, e2]), e1, hideB_twice]
  · exact absurd (sealA_no hc) h
/-- what came out of a box makes it again -/
theorem seal_open (key : ByteArray) (n : Int) (b : ByteArray) (h : (openA key n b).2 = 0) (ht : (openA key n b).1.size ≤ 1000) : sealA key n (openA key n b).1 = b := by
  by_cases h0 : 8000 < key.size ∨ 8000 < b.size
  · rw [openA_size h0] at h; cases h
  · by_cases h1 : 1 ≤ key.size ∧ key.size ≤ 64 ∧ 0 ≤ n ∧ n ≤ 1000000
    · by_cases h2 : b.size < 16
      · rw [openA_short h0 h1 h2] at h; cases h
      · by_cases h3 : b.extract (b.size - 16) b.size = signB key n (b.extract 0 (b.size - 16))
        · rw [openA_ok h0 h1 h2 h3] at ht ⊢
          rw [sealA_yes ⟨h1, ht⟩]
          unfold boxB
          rw [hideB_twice, ← h3]
          exact app_extract b _ (by omega)
        · rw [openA_sum h0 h1 h2 h3] at h; cases h
    · rw [openA_form h0 h1] at h; cases h
end Go.Proofs.YtneahcoakbbdaaaDoor.cc
