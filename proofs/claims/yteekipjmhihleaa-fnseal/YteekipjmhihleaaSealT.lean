/-
  A seal with one byte turned is no seal, and a seal gives back its text: no condition.
-/
import Derived.Test.YteekipjmhihleaaCrcPlain
namespace Go.Proofs.Yteekipjmhihleaa.st
open Go.ChangeShapes Go.WideShapes Go.ChangeAt Go.RowKit
open Go.Proofs.Yteekipjmhihleaa.cr Go.Proofs.Yteekipjmhihleaa.cp
set_option linter.unusedVariables false

theorem extract_list (s : ByteArray) (a b : Nat) : (s.extract a b).data.toList = (s.data.toList.drop a).take (b - a) := by
  simp [ByteArray.data_extract]
theorem size_list (s : ByteArray) : s.data.toList.length = s.size := by simp
theorem sealB_list {t : ByteArray} (ht : ¬ 7996 < t.size) : (se.sealB t).data.toList = t.data.toList ++ (se.fourB (crcC 0 t)).data.toList := by
  rw [se.sealB_yes ht]; simp
theorem sealB_size {t : ByteArray} (ht : ¬ 7996 < t.size) : (se.sealB t).size = t.size + 4 := by
  rw [se.sealB_yes ht]; simp [se.fourB_size]
theorem inner_list (s : ByteArray) : (un.inner s).data.toList = s.data.toList.take (s.size - 4) := by
  rw [un.inner, extract_list]; simp
theorem tail_list (s : ByteArray) : (un.tail s).data.toList = s.data.toList.drop (s.size - 4) := by
  rw [un.tail, extract_list, List.take_of_length_le (by simp)]
/-- a seal is right, and its text is the text -/
theorem sealB_inner {t : ByteArray} (ht : ¬ 7996 < t.size) : un.inner (se.sealB t) = t := by
  apply bytes_inj
  rw [inner_list, sealB_list ht, sealB_size ht, List.take_append_of_le_length (by simp), List.take_of_length_le (by simp)]
theorem sealB_right {t : ByteArray} (ht : ¬ 7996 < t.size) : un.rightP (se.sealB t) := by
  rw [un.right_iff _ (by rw [sealB_size ht]; omega), sealB_inner ht]
theorem set_split {l : List UInt8} {i : Nat} (h : i < l.length) (y : UInt8) : l = l.take i ++ l[i] :: l.drop (i + 1) ∧ l.set i y = l.take i ++ y :: l.drop (i + 1) := by
  refine ⟨?_, List.set_eq_take_append_cons_drop .. |>.trans (by rw [if_pos h])⟩
  rw [List.getElem_cons_drop, List.take_append_drop]
theorem seal_turned {t s' : ByteArray} (ht : ¬ 7996 < t.size) {i : Nat} {y : UInt8} (hi : i < (se.sealB t).data.toList.length) (hy : y ≠ (se.sealB t).data.toList[i]) (hs' : s'.data.toList = (se.sealB t).data.toList.set i y) : ¬ un.rightP s' := by
  have hsz : s'.size = t.size + 4 := by
    have := congrArg List.length hs'
    rw [List.length_set, size_list, size_list, sealB_size ht] at this
    exact this
  intro hr
  have hr1 : (un.tail s').data.toList = (se.fourB (crcC 0 (un.inner s'))).data.toList := congrArg (fun x : ByteArray => x.data.toList) hr
  have hil : i < t.size + 4 := by rw [size_list, sealB_size ht] at hi; exact hi
  have htl : (un.tail s').data.toList = s'.data.toList.drop t.size := by rw [tail_list, hsz]; rfl
  have hin : (un.inner s').data.toList = s'.data.toList.take t.size := by rw [inner_list, hsz]; rfl
  have hlt : t.data.toList.length = t.size := size_list t
  rw [htl, hs', sealB_list ht] at hr1
  by_cases hlow : i < t.size
  · have e1 : (t.data.toList ++ (se.fourB (crcC 0 t)).data.toList).set i y = t.data.toList.set i y ++ (se.fourB (crcC 0 t)).data.toList := List.set_append_left i y (by rw [hlt]; exact hlow)
    have hin2 : (un.inner s').data.toList = t.data.toList.set i y := by
      rw [hin, hs', sealB_list ht, e1, List.take_append_of_le_length (by rw [List.length_set, hlt]; exact Nat.le_refl _), List.take_of_length_le (by rw [List.length_set, hlt]; exact Nat.le_refl _)]
    rw [e1, List.drop_append_of_le_length (by rw [List.length_set, hlt]; exact Nat.le_refl _), List.drop_of_length_le (by rw [List.length_set, hlt]; exact Nat.le_refl _), List.nil_append] at hr1
    have hcrc : crcC 0 t = crcC 0 (un.inner s') := four_inj (crcC_u32 0 t) (crcC_u32 0 _) (bytes_inj hr1)
    obtain ⟨h1, h2⟩ := set_split (l := t.data.toList) (i := i) (by rw [hlt]; exact hlow) y
    refine crc_turned 0 t (un.inner s') _ _ h1 (by rw [hin2]; exact h2) ?_ hcrc
    intro e
    apply hy
    simp only [sealB_list ht]
    rw [List.getElem_append_left (by rw [hlt]; exact hlow)]
    exact e.symm
  · have e1 : (t.data.toList ++ (se.fourB (crcC 0 t)).data.toList).set i y = t.data.toList ++ (se.fourB (crcC 0 t)).data.toList.set (i - t.size) y := by
      rw [List.set_append_right i y (by rw [hlt]; omega), hlt]
    have hin2 : un.inner s' = t := by
      apply bytes_inj
      rw [hin, hs', sealB_list ht, e1, List.take_append_of_le_length (by rw [hlt]; exact Nat.le_refl _), List.take_of_length_le (by rw [hlt]; exact Nat.le_refl _)]
    rw [e1, List.drop_append_of_le_length (by rw [hlt]; exact Nat.le_refl _), List.drop_of_length_le (by rw [hlt]; exact Nat.le_refl _), List.nil_append, hin2] at hr1
    have h4 : (se.fourB (crcC 0 t)).data.toList.length = 4 := by rw [size_list, se.fourB_size]
    apply hy
    have h5 := congrArg (fun l => l[i - t.size]?) hr1
    simp only [List.getElem?_set_self (show i - t.size < (se.fourB (crcC 0 t)).data.toList.length by omega)] at h5
    simp only [sealB_list ht]
    rw [List.getElem_append_right (by rw [hlt]; omega)]
    rw [List.getElem?_eq_getElem (by omega)] at h5
    simpa [hlt] using h5
end Go.Proofs.Yteekipjmhihleaa.st
