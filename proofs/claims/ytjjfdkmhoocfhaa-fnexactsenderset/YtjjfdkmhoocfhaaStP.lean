/-
  Answers that bear a sender and a code: what they are handed back as. No condition.
-/
import Derived.Test.YtjjfdkmhoocfhaaStV
namespace Go.Proofs.Ytjjfdkmhoocfhaa.st
open Go.ChangeShapes Go.WideShapes Go.ChangeAt Go.RowKit
open Go.Proofs.Ytjjfdkmhoocfhaa.wi (heap_lt calls_w wp_w)
set_option linter.unusedVariables false

theorem infoSO : (Try.prog.info? 57).map (·.size) = some 2 := by kernel_rfl
/-- a sender with a code is handed back, its states in a row of their own -/
def OutPost (w : World) (al : List Ln) (cd : Int) (r : Ending) (w' : World) : Prop := ∃ v, r = .returned (.agg #[v, .int .i64 cd]) ∧ Below w.heap.size w w' ∧ OwnX w' v al ∧ ∀ b, v.ownBlock = some b → w.heap.size ≤ b ∧ b < w'.heap.size
theorem OwS.whole {base : Nat} {v : Value} {l : List Ln} {u : World} (h : OwS base v l u) (hl : l ≠ []) : ∃ g cap, v = .slice (some ⟨g, 0, none⟩) l.length cap ∧ l.length ≤ cap ∧ base ≤ g ∧ RowX u g 0 l := by
  rcases OwnX.of h with ⟨h1, _⟩ | ⟨g, off, cap, hv, hr⟩
  · exact absurd h1 hl
  · rcases h.2 with ⟨h1, _⟩ | ⟨g', cap', cur, h1, h2, h3, h4, _⟩
    · rw [hv] at h1; cases h1
    · rw [hv] at h1
      cases h1
      exact ⟨g, cap, hv, h4, h2, hr⟩
theorem RowX.drop {u : World} {g : Nat} {l : List Ln} (h : RowX u g 0 l) (k : Nat) : RowX u g (k * 2) (l.drop k) := by
  obtain ⟨cur, h1, h2⟩ := h
  refine ⟨cur, h1, fun j hj => ?_⟩
  rw [List.length_drop] at hj
  have := h2 (k + j) (by omega)
  have e1 : 0 + (k + j) * 2 = k * 2 + j * 2 := by omega
  have e2 : (l.drop k).getD j ln0 = l.getD (k + j) ln0 := by simp [List.getD]
  rw [e1] at this
  rw [e2]
  exact this
theorem RowX.far {u : World} {g off q : Nat} {l : List Ln} (h : RowX u g off l) (hq : g ≠ q) (k : Nat) (x : Value) : RowX (u.setCell ⟨q, k, none⟩ x) g off l := by
  obtain ⟨cur, h1, h2⟩ := h
  exact ⟨cur, h1.far hq k x, h2⟩
/-- the answer's block filled -/
def fillS (u : World) (q : Nat) (x0 x1 : Value) : World := (u.setCell ⟨q, 0, none⟩ x0).setCell ⟨q, 1, none⟩ x1
theorem noBlock {w u : World} : ∀ b, (Value.slice none 0 0).ownBlock = some b → w.heap.size ≤ b ∧ b < u.heap.size := fun b h => by simp [Value.ownBlock] at h
end Go.Proofs.Ytjjfdkmhoocfhaa.st
