/-
  What the program unseals: a text and a code, by a plain function; no condition.
-/
import Derived.Test.YteekipjmhihleaaSeal
import Derived.BigQuiet
import Derived.Deep.QuietTactic
import Derived.Deep.RegionWith
import Derived.Laws.Closers25b
namespace Go.Proofs.Yteekipjmhihleaa.un
open Go.ChangeShapes Go.WideShapes Go.ChangeAt Go.RowKit
open Go.Lib (byteCells)
set_option linter.unusedVariables false

theorem bcell {W w1 : World} (hb : Below W.heap.size W w1) : (∀ b o, b < W.heap.size → w1.cell? ⟨b, o, none⟩ = W.cell? ⟨b, o, none⟩) ∧ (∀ b o, b < W.heap.size → w1.frozen? ⟨b, o, none⟩ = W.frozen? ⟨b, o, none⟩) :=
  ⟨fun b o h => hb.cell (p := ⟨b, o, none⟩) h, fun b o h => hb.frozen (p := ⟨b, o, none⟩) h⟩

theorem toList_data (s : ByteArray) : s.toList = s.data.toList := ByteArray.toList_eq s
theorem beq_ne {s t : ByteArray} (h : ¬ s = t) : (s.toList == t.toList) = false := by
  simp only [beq_eq_false_iff_ne, ne_eq, toList_data]
  intro e; exact h (bytes_inj e)
theorem beq_eq {s t : ByteArray} (h : s = t) : (s.toList == t.toList) = true := by subst h; simp

/-- all but the last four bytes, and these -/
def inner (s : ByteArray) : ByteArray := s.extract 0 (s.size - 4)
def tail (s : ByteArray) : ByteArray := s.extract (s.size - 4) s.size
theorem inner_tail (s : ByteArray) : inner s ++ tail s = s := by
  apply ByteArray.ext
  simp [inner, tail]
theorem inner_size (s : ByteArray) : (inner s).size = s.size - 4 := by simp [inner]
/-- is it sealed rightly? -/
abbrev rightP (s : ByteArray) : Prop := tail s = se.fourB (cr.crcC 0 (inner s))
theorem right_iff (s : ByteArray) (h : s.size ≤ 8000) : rightP s ↔ s = se.sealB (inner s) := by
  have h' : ¬ 7996 < (inner s).size := by rw [inner_size]; omega
  rw [se.sealB_yes h', rightP]
  constructor
  · intro e; rw [← e, inner_tail]
  · intro e
    have e2 : inner s ++ tail s = inner s ++ se.fourB (cr.crcC 0 (inner s)) := (inner_tail s).trans e
    have e3 : (inner s).data.toList ++ (tail s).data.toList = (inner s).data.toList ++ (se.fourB (cr.crcC 0 (inner s))).data.toList := by
      have := congrArg (fun x : ByteArray => x.data.toList) e2
      simpa using this
    exact bytes_inj (List.append_cancel_left e3)
def textU (s : ByteArray) : ByteArray := if 8000 < s.size ∨ s.size < 4 ∨ ¬ rightP s then { data := #[] } else inner s
def codeU (s : ByteArray) : Int := if 8000 < s.size then 2 else if s.size < 4 then 4 else if rightP s then 0 else 5
def outU (s : ByteArray) : Value := .agg #[.string (textU s), .int .i64 0, .int .i64 (codeU s)]
theorem outU_long {s : ByteArray} (h : 8000 < s.size) : outU s = .agg #[.string { data := #[] }, .int .i64 0, .int .i64 2] := by simp [outU, textU, codeU, h]
theorem outU_short {s : ByteArray} (h : s.size < 4) : outU s = .agg #[.string { data := #[] }, .int .i64 0, .int .i64 4] := by
  have h' : ¬ 8000 < s.size := by omega
  simp [outU, textU, codeU, h, h']
theorem outU_bad {s : ByteArray} (h : ¬ 8000 < s.size) (h2 : ¬ s.size < 4) (h3 : ¬ rightP s) : outU s = .agg #[.string { data := #[] }, .int .i64 0, .int .i64 5] := by simp [outU, textU, codeU, h, h2, h3]
theorem outU_good {s : ByteArray} (h : ¬ 8000 < s.size) (h2 : ¬ s.size < 4) (h3 : rightP s) : outU s = .agg #[.string (inner s), .int .i64 0, .int .i64 0] := by simp [outU, textU, codeU, h, h2, h3]

set_option maxHeartbeats 400000 in
theorem impl_any (s : ByteArray) (w : World) (hs : s.size ≤ maxLen) :
    Calls Try.prog 8 #[.string s] w fun e w' => e = .returned (outU s) ∧ Below w.heap.size w w' := by
  unfold maxLen at hs
  by_cases h1 : 8000 < s.size
  · rw [outU_long h1]
    go_enter Try.func8, Try.ntmps8
    go_wp2
    exact bodyPost_ret (v := .agg #[.string { data := #[] }, .int .i64 0, .int .i64 2]) (by simp [results, Try.results8, go_sem]) rfl ⟨rfl, (Below.refl _ _).alloc (Nat.le_refl _) _⟩
  by_cases h2 : s.size < 4
  · rw [outU_short h2]
    go_enter Try.func8, Try.ntmps8
    go_wp2
    exact bodyPost_ret (v := .agg #[.string { data := #[] }, .int .i64 0, .int .i64 4]) (by simp [results, Try.results8, go_sem]) rfl ⟨rfl, (Below.refl _ _).alloc (Nat.le_refl _) _⟩
  by_cases h3 : rightP s
  · have hq : (s.toList == (se.sealB (s.extract 0 (s.size - 4))).toList) = true := beq_eq ((right_iff s (by omega)).1 h3)
    rw [outU_good h1 h2 h3]
    unfold inner
    clear h3
    have hm : (s.extract 0 (s.size - 4)).size ≤ maxLen := by unfold maxLen; simp; omega
    have hm2 : (s.extract 0 (s.size - 4)).size ≤ 1099511627776 := by simp; omega
    go_enter Try.func8, Try.ntmps8
    go_wp2_with (first | (go_at_call 5; refine (se.impl_any _ _ hm).mono ?_; rintro e w1 ⟨rfl, hb1⟩; obtain ⟨hc, hf⟩ := bcell hb1; have hz1 : w.heap.size < w1.heap.size := by { have := hb1.size; simp at this; omega }) | (go_at_call 17; refine (jo.joined1 _ _ hm2).mono ?_; rintro e w2 ⟨rfl, hb2⟩; obtain ⟨hc2, hf2⟩ := bcell hb2; have hz2 : w.heap.size < w2.heap.size := by { have := hb2.size; omega }))
    refine bodyPost_ret (v := .agg #[.string (s.extract 0 (s.size - 4)), .int .i64 0, .int .i64 0]) (by simp [results, Try.results8, go_sem, hc, hc2, hz1]) rfl ⟨rfl, ?_⟩
    exact ((((((Below.refl _ _).alloc (Nat.le_refl _) _).trans (hb1.mono (by simp))).trans (hb2.mono (by omega))).setCell (Nat.le_refl _) _).setCell (Nat.le_refl _) _).setCell (Nat.le_refl _) _
  · have hq : (s.toList == (se.sealB (s.extract 0 (s.size - 4))).toList) = false := beq_ne (fun e => h3 ((right_iff s (by omega)).2 e))
    rw [outU_bad h1 h2 h3]
    clear h3
    have hm : (s.extract 0 (s.size - 4)).size ≤ maxLen := by unfold maxLen; simp; omega
    go_enter Try.func8, Try.ntmps8
    go_wp2_with (first | (go_at_call 5; refine (se.impl_any _ _ hm).mono ?_; rintro e w1 ⟨rfl, hb1⟩; obtain ⟨hc, hf⟩ := bcell hb1; have hz1 : w.heap.size < w1.heap.size := by { have := hb1.size; simp at this; omega }))
    refine bodyPost_ret (v := .agg #[.string { data := #[] }, .int .i64 0, .int .i64 5]) (by simp [results, Try.results8, go_sem, hc]) rfl ⟨rfl, ?_⟩
    exact (((((Below.refl _ _).alloc (Nat.le_refl _) _).trans (hb1.mono (by simp))).setCell (Nat.le_refl _) _).setCell (Nat.le_refl _) _).setCell (Nat.le_refl _) _

theorem impl_out (s : ByteArray) (w : World) (hs : s.size ≤ maxLen) :
    Calls Try.prog 8 #[.string s] w fun e w' => e = .returned (.agg #[.string (textU s), .int .i64 0, .int .i64 (codeU s)]) ∧ Below w.heap.size w w' := impl_any s w hs
end Go.Proofs.Yteekipjmhihleaa.un
