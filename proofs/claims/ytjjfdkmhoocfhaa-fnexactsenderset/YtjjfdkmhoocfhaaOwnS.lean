/-
  States in a row of the call's own. No condition.
-/
import Derived.Test.YtjjfdkmhoocfhaaStS
import Derived.Test.YtjjfdkmhoocfhaaLgAp
import Derived.Test.YtjjfdkmhoocfhaaRegW
import Derived.OwnWalk
import Derived.Lib.BufferWrite
namespace Go.Proofs.Ytjjfdkmhoocfhaa.st
open Go.ChangeShapes Go.WideShapes Go.ChangeAt Go.RowKit
open Go.Proofs.Ytjjfdkmhoocfhaa.wi (heap_lt calls_w wp_w)
set_option linter.unusedVariables false

/-- the cells of these states -/
def flat (s : List Ln) : List Value := s.flatMap fun x => [Value.int .i64 x.1, Value.string x.2]
theorem flat_length (s : List Ln) : (flat s).length = s.length * 2 := flat_len s
theorem flat_app (a b : List Ln) : flat (a ++ b) = flat a ++ flat b := by simp [flat]
theorem flat_at (s : List Ln) (j : Nat) (h : j < s.length) : (flat s)[j * 2]? = some (.int .i64 (s.getD j ln0).1) ∧ (flat s)[j * 2 + 1]? = some (.string (s.getD j ln0).2) := cells_at s j h
/-- a row of the call's own that holds these states -/
def OwS (base : Nat) (v : Value) (l : List Ln) (u : World) : Prop := u.ownsRow base 28 2 v l.length (flat l)
theorem OwS.nil (base : Nat) (u : World) : OwS base (.slice none 0 0) [] u := ⟨rfl, .inl ⟨rfl, rfl⟩⟩
theorem OwS.shape {base : Nat} {v : Value} {l : List Ln} {u : World} (h : OwS base v l u) : ∃ p cap, v = .slice p l.length cap := by
  rcases h.2 with ⟨hv, hl⟩ | ⟨g, cap, cur, hv, _⟩
  · exact ⟨none, 0, by rw [hv, hl]⟩
  · exact ⟨_, _, hv⟩
theorem OwS.slice {base : Nat} {v : Value} {l : List Ln} {u : World} (h : OwS base v l u) : SliceIs u v l := by
  rcases h.2 with ⟨rfl, hl⟩ | ⟨g, cap, cur, rfl, hb, hg, h1, h2, h3, h4⟩
  · exact .inl ⟨_, _, List.length_eq_zero_iff.1 hl, rfl⟩
  · refine .inr ⟨g, 0, cap, (Array.getElem?_eq_some_iff.1 hg).1, rfl, fun j hj => ?_⟩
    have hc : u.ownsRow base 28 2 (.slice (some ⟨g, 0, none⟩) l.length cap) l.length (flat l) := h
    obtain ⟨e1, e2⟩ := flat_at l j hj
    rw [Nat.zero_add, hc.cellAt (j * 2) (by omega), hc.cellAt (j * 2 + 1) (by omega)]
    exact ⟨e1, e2⟩
theorem OwS.up {base : Nat} {v : Value} {l : List Ln} {u u' : World} (h : OwS base v l u) (hb : Below u.heap.size u u') : OwS base v l u' :=
  World.ownsRow.kept h (row := none) ⟨hb.os, hb.tape, hb.output, hb.size, fun k hk _ => hb.block k hk⟩ (by cases v.ownBlock <;> simp)
theorem OwS.le {base base' : Nat} {v : Value} {l : List Ln} {u : World} (h : OwS base v l u) (hb : base' ≤ base) : OwS base' v l u := la.own_le h hb
theorem OwS.block {base : Nat} {v : Value} {l : List Ln} {u : World} (h : OwS base v l u) : ∀ k, v.ownBlock = some k → base ≤ k ∧ ∃ cur, u.heap[k]? = some (.cells cur 28 (0, 0)) := by
  intro k hk
  rcases h.2 with ⟨rfl, _⟩ | ⟨g, cap, cur, rfl, hb, hg, _⟩
  · simp [Value.ownBlock] at hk
  · simp [Value.ownBlock] at hk
    subst hk
    exact ⟨hb, cur, hg⟩
/-- it is no block of another type -/
theorem OwS.other {base : Nat} {v : Value} {l : List Ln} {u : World} (h : OwS base v l u) {q : Nat} {cs : Array Value} {T : TypeId} (hT : T ≠ 28) (hq : rw.At u q cs T) : v.ownBlock ≠ some q := fun e => by
  obtain ⟨_, cur, hg⟩ := h.block q e
  have : (some (Obj.cells cur 28 (0, 0))) = some (.cells cs T (0, 0)) := hg.symm.trans hq
  simp at this
  exact hT this.2.symm
end Go.Proofs.Ytjjfdkmhoocfhaa.st
