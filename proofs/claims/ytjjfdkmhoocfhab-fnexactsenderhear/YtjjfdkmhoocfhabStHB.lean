/-
  What a sender hears: the model and the program answer the same. No condition.
-/
import Derived.Test.YtjjfdkmhoocfhabStH3
namespace Go.Proofs.Ytjjfdkmhoocfhab.st
open Go.ChangeShapes Go.WideShapes Go.ChangeAt Go.RowKit
open Classical
set_option linter.unusedVariables false

theorem first_or (l : List Ln) (n : Int) : ∀ k, NoneTo l n k ∨ ∃ j, j < k ∧ NoneTo l n j ∧ (l.getD j ln0).1 = n
  | 0 => .inl (fun j h => by omega)
  | k + 1 => by
    rcases first_or l n k with h | ⟨j, h1, h2⟩
    · by_cases e : (l.getD k ln0).1 = n
      · exact .inr ⟨k, by omega, h, e⟩
      · refine .inl (fun j hj => ?_)
        by_cases ej : j = k
        · subst ej; exact e
        · exact h j (by omega)
    · exact .inr ⟨j, by omega, h2⟩
theorem HearS.cases (l : List Ln) (n : Int) (hl : SndR l → l.length ≤ 8) : ∃ al cd, al.length ≤ 8 ∧ ∀ al' cd', HearS l n al' cd' → al' = al ∧ cd' = cd := by
  by_cases s : SndR l
  · rcases first_or l n l.length with h | ⟨k, h1, h2, h3⟩
    · exact ⟨[], 6, by simp, fun al' cd' hh => hh.c2 s h⟩
    · exact ⟨l.drop k, 0, by rw [List.length_drop]; have := hl s; omega, fun al' cd' hh => hh.c3 s k h1 h2 h3⟩
  · exact ⟨[], 1, by simp, fun al' cd' hh => hh.c1 s⟩
theorem hear_bothS (l : List Ln) (n : Int) (hl : l.length ≤ maxLen) (hz : ∀ r ∈ l, r.2.size ≤ maxLen) : ∃ al cd, al.length ≤ 8 ∧
    (∀ u g, Blk u g l → Calls Try.prog 7 #[.agg #[.slice (some ⟨g, 0, none⟩) l.length l.length], .int .i64 n] u (OutPost u al cd)) ∧
    ∀ u g, Blk u g l → Calls Try.prog 9 #[.agg #[.slice (some ⟨g, 0, none⟩) l.length l.length], .int .i64 n] u (OutPost u al cd) := by
  obtain ⟨al, cd, h1, h2⟩ := HearS.cases l n (fun s => s.1.2)
  refine ⟨al, cd, h1, fun u g hk => (hearM_S _ l n u hl hz hk.slice (fun p cap h => by cases h; exact Nat.le_refl _)).mono fun e w' => ?_, fun u g hk => (hearI_S _ l n u hl hz hk.slice).mono fun e w' => ?_⟩
  · rintro ⟨al', cd', hh, hp⟩
    obtain ⟨rfl, rfl⟩ := h2 al' cd' hh
    exact hp
  · rintro ⟨al', cd', hh, hp⟩
    obtain ⟨rfl, rfl⟩ := h2 al' cd' hh
    exact hp
end Go.Proofs.Ytjjfdkmhoocfhab.st
