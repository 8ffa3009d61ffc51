/-
  A text's pieces between its line ends; a policy's line; the first blank cuts in one way only: plain words. No condition.
-/
import Derived.Test.YtndjjhcdnlkekaaDoorCu0
import Derived.Test.YtndjjhcdnlkekaaDoorPt2
namespace Go.Proofs.YtndjjhcdnlkekaaDoor.cu
open Go.ChangeShapes Go.WideShapes Go.ChangeAt Go.RowKit
open Go.Proofs.YtndjjhcdnlkekaaDoor.gb (bat bat_eq GlobR)
open Go.Proofs.YtndjjhcdnlkekaaDoor.rl
open Go.Proofs.YtndjjhcdnlkekaaDoor.jo (joinB)
open Classical
set_option linter.unusedVariables false

def one (c : UInt8) : ByteArray := ⟨#[c]⟩
theorem ext_of {a b : ByteArray} (h : a.data.toList = b.data.toList) : a = b := by
  apply ByteArray.ext; exact Array.toList_inj.1 h
theorem bytes_of {a b : ByteArray} (h : a = b) : a.data.toList = b.data.toList := by rw [h]
/-- no byte of it is this one -/
def Free (s : ByteArray) (c : UInt8) : Prop := c ∉ s.data.toList
theorem cutL (c : UInt8) : ∀ (a a' b b' : List UInt8), c ∉ a → c ∉ a' → a ++ c :: b = a' ++ c :: b' → a = a' ∧ b = b'
  | [], [], b, b', _, _, h => by simpa using h
  | [], y :: a', b, b', _, h2, h => by simp at h h2; exact absurd h.1 h2.1
  | x :: a, [], b, b', h1, _, h => by simp at h h1; exact absurd h.1.symm h1.1
  | x :: a, y :: a', b, b', h1, h2, h => by
    simp at h h1 h2
    obtain ⟨e1, e2⟩ := cutL c a a' b b' h1.2 h2.2 h.2
    exact ⟨by rw [h.1, e1], e2⟩
/-- the first such byte cuts in one way only -/
theorem cutU {c : UInt8} {a a' b b' : ByteArray} (h1 : Free a c) (h2 : Free a' c) (h : a ++ one c ++ b = a' ++ one c ++ b') : a = a' ∧ b = b' := by
  have := bytes_of h
  simp [one] at this
  obtain ⟨e1, e2⟩ := cutL c _ _ _ _ h1 h2 this
  exact ⟨ext_of e1, ext_of e2⟩
theorem free_of {s : ByteArray} {c : UInt8} (h : NoneOf s c.toNat) : Free s c := fun hm => by
  obtain ⟨i, hi, he⟩ := List.mem_iff_getElem.1 hm
  have hi' : i < s.size := by simpa using hi
  refine h i hi' ?_
  unfold bat
  rw [List.getD_eq_getElem?_getD, List.getElem?_eq_getElem hi, he]
  rfl
theorem none_of {s : ByteArray} {c : UInt8} (h : Free s c) : NoneOf s c.toNat := fun i hi hb => by
  refine h ?_
  unfold bat at hb
  have hi' : i < s.data.toList.length := by simpa using hi
  rw [List.getD_eq_getElem?_getD, List.getElem?_eq_getElem hi'] at hb
  have : s.data.toList[i] = c := UInt8.toNat_inj.1 hb
  rw [← this]; exact List.getElem_mem _
theorem ext_toList (s : ByteArray) (a b : Nat) : (s.extract a b).data.toList = (s.data.toList.take b).drop a := by
  simp [ByteArray.data_extract, List.extract_eq_take_drop, List.drop_take]
/-- cut at its first such byte -/
theorem first_cut {s : ByteArray} {c : UInt8} {i : Nat} (h : FirstAt s c.toNat i) : s = s.extract 0 i ++ one c ++ s.extract (i + 1) s.size ∧ Free (s.extract 0 i) c := by
  obtain ⟨h1, h2, h3⟩ := h
  have hi : i < s.data.toList.length := by simpa using h1
  have he : s.data.toList[i] = c := by
    unfold bat at h2
    rw [List.getD_eq_getElem?_getD, List.getElem?_eq_getElem hi] at h2
    exact UInt8.toNat_inj.1 h2
  refine ⟨ext_of ?_, fun hm => ?_⟩
  · have hs : s.data.toList.take s.size = s.data.toList := List.take_of_length_le (by simp)
    simp only [ByteArray.data_append, Array.toList_append, ext_toList, hs, List.drop_zero, one]
    conv => lhs; rw [← List.take_append_drop i s.data.toList, List.drop_eq_getElem_cons hi, he]
    simp
  · rw [ext_toList, List.drop_zero] at hm
    obtain ⟨j, hj, hb⟩ := List.mem_iff_getElem.1 hm
    have hj' : j < i := by simp at hj; omega
    refine h3 j hj' ?_
    unfold bat
    rw [List.getD_eq_getElem?_getD, List.getElem?_eq_getElem (by omega)]
    rw [List.getElem_take] at hb
    rw [hb]; rfl
/-- a line of a right rule, without its end -/
def bare (x : Ln) : ByteArray := wordB x.1 x.2.1 ++ one 32 ++ x.2.2.1 ++ one 32 ++ x.2.2.2
theorem line_bare (x : Ln) : lineL x = bare x ++ one 10 := by
  unfold lineL lineB bare one
  rw [← line_cat]
theorem line_iff (x : Ln) (t : ByteArray) : lineL x = t ++ one 10 ↔ bare x = t := by
  rw [line_bare]
  refine ⟨fun h => ?_, fun h => by rw [h]⟩
  have := bytes_of h
  simp only [ByteArray.data_append, Array.toList_append, List.append_cancel_right_eq] at this
  exact ext_of this
theorem free_user {u : ByteArray} (h : UserR u) : Free u 32 := by
  rcases h with rfl | h
  · intro hm; simp at hm
  · refine free_of (c := 32) fun i hi hb => ?_
    have hn : nm.nameP u := by simpa [nm.nameB] using h
    have := hn.2.2 i hi
    rw [bat_eq hi] at hb
    unfold nm.good at this
    rw [show (u[i]'hi).toNat = 32 from hb] at this
    simp at this
theorem LnR.user {x : Ln} (h : LnR x) : Free x.2.2.1 32 := free_user h.2.1
theorem free_word0 : Free denyB 32 ∧ Free allowB 32 ∧ Free (⟨#[104, 111, 108, 100]⟩ : ByteArray) 32 ∧ ∀ n, Free (decB n) 32 := by
  refine ⟨by unfold Free denyB; decide, by unfold Free allowB; decide, by unfold Free; decide, fun n => ?_⟩
  unfold decB; split
  · unfold Free; decide
  · split <;> (unfold Free; decide)
def holdW : ByteArray := ⟨#[104, 111, 108, 100]⟩
theorem app3 (a b c d e : ByteArray) : a ++ b ++ c ++ d ++ e = a ++ b ++ (c ++ d ++ e) := by simp [ByteArray.append_assoc]
theorem word_deny (n : Int) : wordB 0 n = denyB := by simp [wordB]
theorem word_allow (n : Int) : wordB 1 n = allowB := by simp [wordB]
theorem word_hold (n : Int) : wordB 2 n = holdW ++ one 32 ++ decB n := by simp [wordB, holdW, one, hold_cat]
theorem bare_deny {n : Int} {u g : ByteArray} : bare (0, n, u, g) = denyB ++ one 32 ++ (u ++ one 32 ++ g) := by unfold bare; rw [word_deny, app3]
theorem bare_allow {n : Int} {u g : ByteArray} : bare (1, n, u, g) = allowB ++ one 32 ++ (u ++ one 32 ++ g) := by unfold bare; rw [word_allow, app3]
theorem bare_hold {n : Int} {u g : ByteArray} : bare (2, n, u, g) = holdW ++ one 32 ++ (decB n ++ one 32 ++ (u ++ one 32 ++ g)) := by unfold bare; simp only [word_hold, ByteArray.append_assoc]
theorem ne_words : denyB ≠ allowB ∧ denyB ≠ holdW ∧ allowB ≠ holdW := ⟨by decide, by decide, by decide⟩
theorem dec_inj {m n : Int} (hm : 1 ≤ m ∧ m ≤ 3) (hn : 1 ≤ n ∧ n ≤ 3) (h : decB m = decB n) : m = n := by
  rcases (show m = 1 ∨ m = 2 ∨ m = 3 by omega) with rfl | rfl | rfl <;> rcases (show n = 1 ∨ n = 2 ∨ n = 3 by omega) with rfl | rfl | rfl <;> first | rfl | exact absurd h (by decide)
/-- a line is one rule's only -/
theorem bare_inj {x y : Ln} (hx : LnR x) (hy : LnR y) (h : bare x = bare y) : x = y := by
  have fu := LnR.user hx
  have fv := LnR.user hy
  obtain ⟨k, n, u, g⟩ := x
  obtain ⟨k', n', u', g'⟩ := y
  dsimp only at fu fv
  have kx : Known k n := hx.1
  have ky : Known k' n' := hy.1
  have f := free_word0
  rcases kx with ⟨rfl, rfl⟩ | ⟨rfl, rfl⟩ | ⟨rfl, h1⟩ <;> rcases ky with ⟨rfl, rfl⟩ | ⟨rfl, rfl⟩ | ⟨rfl, h2⟩ <;> simp only [bare_deny, bare_allow, bare_hold] at h
  · obtain ⟨-, e⟩ := cutU f.1 f.1 h
    obtain ⟨rfl, rfl⟩ := cutU fu fv e; rfl
  · exact absurd (cutU f.1 f.2.1 h).1 ne_words.1
  · exact absurd (cutU f.1 f.2.2.1 h).1 ne_words.2.1
  · exact absurd (cutU f.2.1 f.1 h).1.symm ne_words.1
  · obtain ⟨-, e⟩ := cutU f.2.1 f.2.1 h
    obtain ⟨rfl, rfl⟩ := cutU fu fv e; rfl
  · exact absurd (cutU f.2.1 f.2.2.1 h).1 ne_words.2.2
  · exact absurd (cutU f.2.2.1 f.1 h).1.symm ne_words.2.1
  · exact absurd (cutU f.2.2.1 f.2.1 h).1.symm ne_words.2.2
  · obtain ⟨-, e⟩ := cutU f.2.2.1 f.2.2.1 h
    obtain ⟨e1, e3⟩ := cutU (f.2.2.2 n) (f.2.2.2 n') e
    obtain ⟨rfl, rfl⟩ := cutU fu fv e3
    rw [dec_inj h1 h2 e1]
end Go.Proofs.YtndjjhcdnlkekaaDoor.cu
