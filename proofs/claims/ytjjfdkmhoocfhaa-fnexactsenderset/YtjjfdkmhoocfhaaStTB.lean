/-
  A sender that is set: the model and the program answer the same. No condition.
-/
import Derived.Test.YtjjfdkmhoocfhaaStT3
namespace Go.Proofs.Ytjjfdkmhoocfhaa.st
open Go.ChangeShapes Go.WideShapes Go.ChangeAt Go.RowKit
open Classical
set_option linter.unusedVariables false

theorem SetS.cases (l : List Ln) (t : ByteArray) (hl : SndR l → l.length ≤ 8) : ∃ al cd, al.length ≤ 9 ∧ ∀ al' cd', SetS l t al' cd' → al' = al ∧ cd' = cd := by
  by_cases h0 : 8000 < t.size
  · exact ⟨[], 2, by simp, fun al' cd' hh => hh.c0 h0⟩
  · by_cases s : SndR l
    · by_cases h4 : t.size ≤ 400
      · have h8 := hl s
        by_cases e : lastT l = t
        · exact ⟨l, 0, by omega, fun al' cd' hh => hh.c2 s h4 e⟩
        · by_cases f : lastN l = 1000000 ∨ l.length = 8
          · exact ⟨[], 9, by simp, fun al' cd' hh => hh.c3 s h4 e f⟩
          · exact ⟨l ++ [(lastN l + 1, t)], 0, by simp; omega, fun al' cd' hh => hh.c4 s h4 e f⟩
      · exact ⟨[], 1, by simp, fun al' cd' hh => hh.c1 h0 (fun h => h4 h.2)⟩
    · exact ⟨[], 1, by simp, fun al' cd' hh => hh.c1 h0 (fun h => s h.1)⟩
theorem set_bothS (l : List Ln) (t : ByteArray) (hl : l.length ≤ maxLen) (hz : ∀ r ∈ l, r.2.size ≤ maxLen) (ht : t.size ≤ maxLen) : ∃ al cd, al.length ≤ 9 ∧
    (∀ u g, Blk u g l → Calls Try.prog 28 #[.agg #[.slice (some ⟨g, 0, none⟩) l.length l.length], .string t] u (OutPost u al cd)) ∧
    ∀ u g, Blk u g l → Calls Try.prog 29 #[.agg #[.slice (some ⟨g, 0, none⟩) l.length l.length], .string t] u (OutPost u al cd) := by
  obtain ⟨al, cd, h1, h2⟩ := SetS.cases l t (fun s => s.1.2)
  refine ⟨al, cd, h1, fun u g hk => (setM_S _ l t u hl hz ht hk.slice (fun p cap h => by cases h; exact Nat.le_refl _)).mono fun e w' => ?_, fun u g hk => (setI_S _ l t u hl hz ht hk.slice).mono fun e w' => ?_⟩
  · rintro ⟨al', cd', hh, hp⟩
    obtain ⟨rfl, rfl⟩ := h2 al' cd' hh
    exact hp
  · rintro ⟨al', cd', hh, hp⟩
    obtain ⟨rfl, rfl⟩ := h2 al' cd' hh
    exact hp
end Go.Proofs.Ytjjfdkmhoocfhaa.st
