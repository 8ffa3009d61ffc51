/-
  Blocks and slices of rules (two numbers and two texts each). No condition.
-/
import Derived.Test.YtndjjhcdnlkekaaDoorWin0
import Derived.Test.YtndjjhcdnlkekaaDoorLogS0
namespace Go.Proofs.YtndjjhcdnlkekaaDoor.rl
open Go.ChangeShapes Go.WideShapes Go.ChangeAt Go.RowKit
open Go.Proofs.YtndjjhcdnlkekaaDoor.wi (heap_lt calls_w wp_w)
set_option linter.unusedVariables false

abbrev Ln := Int × Int × ByteArray × ByteArray
abbrev ln0 : Ln := (0, 0, ⟨#[]⟩, ⟨#[]⟩)
/-- a slice that holds these rules -/
def Row (w : World) (b off : Nat) (s : List Ln) : Prop := ∀ j, j < s.length → w.cell? ⟨b, off + j * 4, none⟩ = some (.int .i64 (s.getD j ln0).1) ∧ w.cell? ⟨b, off + j * 4 + 1, none⟩ = some (.int .i64 (s.getD j ln0).2.1) ∧ w.cell? ⟨b, off + j * 4 + 2, none⟩ = some (.string (s.getD j ln0).2.2.1) ∧ w.cell? ⟨b, off + j * 4 + 3, none⟩ = some (.string (s.getD j ln0).2.2.2)
def SliceIs (w : World) (v : Value) (s : List Ln) : Prop := (∃ p cap, s = [] ∧ v = .slice p 0 cap) ∨ ∃ b off cap, b < w.heap.size ∧ v = .slice (some ⟨b, off, none⟩) s.length cap ∧ Row w b off s
theorem Row.below {w u : World} {n b off : Nat} {s : List Ln} (h : Row w b off s) (hB : Below n w u) (hb : b < n) : Row u b off s := fun j hj => ⟨(hB.cell (p := ⟨b, off + j * 4, none⟩) hb).trans (h j hj).1, (hB.cell (p := ⟨b, off + j * 4 + 1, none⟩) hb).trans (h j hj).2.1, (hB.cell (p := ⟨b, off + j * 4 + 2, none⟩) hb).trans (h j hj).2.2.1, (hB.cell (p := ⟨b, off + j * 4 + 3, none⟩) hb).trans (h j hj).2.2.2⟩
theorem SliceIs.up {w u : World} {v : Value} {s : List Ln} (h : SliceIs w v s) (hb : Below w.heap.size w u) : SliceIs u v s := by
  rcases h with h | ⟨b, off, cap, hb', rfl, hR⟩
  · exact .inl h
  · exact .inr ⟨b, off, cap, Nat.lt_of_lt_of_le hb' hb.size, rfl, hR.below hb hb'⟩
theorem SliceIs.shape {w : World} {v : Value} {s : List Ln} (h : SliceIs w v s) : ∃ p cap, v = .slice p s.length cap := by
  rcases h with ⟨p, cap, rfl, rfl⟩ | ⟨b, off, cap, hb, rfl, hR⟩
  · exact ⟨_, _, rfl⟩
  · exact ⟨_, _, rfl⟩
end Go.Proofs.YtndjjhcdnlkekaaDoor.rl
