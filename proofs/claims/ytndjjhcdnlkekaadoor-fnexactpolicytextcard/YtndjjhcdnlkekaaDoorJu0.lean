/-
  Who may do what: plain words. No condition.
-/
import Derived.Test.YtndjjhcdnlkekaaDoorPo0
namespace Go.Proofs.YtndjjhcdnlkekaaDoor.rl
open Go.ChangeShapes Go.WideShapes Go.ChangeAt Go.RowKit
open Go.Proofs.YtndjjhcdnlkekaaDoor.sc (ret_b)
open Go.Proofs.YtndjjhcdnlkekaaDoor.wi (heap_lt calls_w wp_w)
open Go.Proofs.YtndjjhcdnlkekaaDoor.gb (fitB GFits)
open Classical
set_option linter.unusedVariables false

/-- the rule is for this user, and its glob fits this line -/
def Hits (u t : ByteArray) (x : Ln) : Prop := (x.2.2.1 = ⟨#[42]⟩ ∨ x.2.2.1 = u) ∧ fitB x.2.2.2 t = true
def Asks (l : List Ln) (u t : ByteArray) : Prop := PolR l ∧ nm.nameB u = true ∧ t.size ≤ 60
/-- what a policy tells -/
def JudgeIs (l : List Ln) (u t : ByteArray) (a b : Int) : Prop :=
  (¬ Asks l u t → a = 0 ∧ b = 0) ∧ (Asks l u t → ((∀ j, j < l.length → ¬ Hits u t (l.getD j ln0)) → a = 0 ∧ b = 0) ∧ ∀ j, j < l.length → Hits u t (l.getD j ln0) → (∀ i, i < j → ¬ Hits u t (l.getD i ln0)) → a = (l.getD j ln0).1 ∧ b = (l.getD j ln0).2.1)
theorem first_hit {p : Nat → Prop} (n : Nat) : (∀ j, j < n → ¬ p j) ∨ ∃ j, j < n ∧ p j ∧ ∀ i, i < j → ¬ p i := by
  induction n with
  | zero => exact .inl fun j h => by omega
  | succ n ih =>
    rcases ih with h | ⟨j, hj, h1, h2⟩
    · by_cases hp : p n
      · exact .inr ⟨n, by omega, hp, h⟩
      · refine .inl fun j hj => ?_
        by_cases e : j = n
        · rw [e]; exact hp
        · exact h j (by omega)
    · exact .inr ⟨j, by omega, h1, h2⟩
theorem JudgeIs.uniq {l : List Ln} {u t : ByteArray} {a b a' b' : Int} (h : JudgeIs l u t a b) (h' : JudgeIs l u t a' b') : a = a' ∧ b = b' := by
  by_cases hA : Asks l u t
  · rcases first_hit (p := fun j => Hits u t (l.getD j ln0)) l.length with hn | ⟨j, hj, h1, h2⟩
    · have e := (h.2 hA).1 hn
      have e' := (h'.2 hA).1 hn
      exact ⟨e.1.trans e'.1.symm, e.2.trans e'.2.symm⟩
    · have e := (h.2 hA).2 j hj h1 h2
      have e' := (h'.2 hA).2 j hj h1 h2
      exact ⟨e.1.trans e'.1.symm, e.2.trans e'.2.symm⟩
  · have e := h.1 hA
    have e' := h'.1 hA
    exact ⟨e.1.trans e'.1.symm, e.2.trans e'.2.symm⟩
theorem JudgeIs.no {l : List Ln} {u t : ByteArray} (h : ¬ Asks l u t) : JudgeIs l u t 0 0 := ⟨fun _ => ⟨rfl, rfl⟩, fun h' => absurd h' h⟩
theorem JudgeIs.none {l : List Ln} {u t : ByteArray} (hA : Asks l u t) (h : ∀ j, j < l.length → ¬ Hits u t (l.getD j ln0)) : JudgeIs l u t 0 0 := ⟨fun h' => absurd hA h', fun _ => ⟨fun _ => ⟨rfl, rfl⟩, fun j hj h1 _ => absurd h1 (h j hj)⟩⟩
theorem JudgeIs.hit {l : List Ln} {u t : ByteArray} (hA : Asks l u t) {j : Nat} (hj : j < l.length) (h1 : Hits u t (l.getD j ln0)) (h2 : ∀ i, i < j → ¬ Hits u t (l.getD i ln0)) : JudgeIs l u t (l.getD j ln0).1 (l.getD j ln0).2.1 := by
  refine ⟨fun h' => absurd hA h', fun _ => ⟨fun h => absurd h1 (h j hj), fun i hi h3 h4 => ?_⟩⟩
  have e : i = j := by
    rcases Nat.lt_trichotomy i j with h | h | h
    · exact absurd h3 (h2 i h)
    · exact h
    · exact absurd h1 (h4 j h)
  rw [e]; exact ⟨rfl, rfl⟩
theorem verdict_say {k n : Int} (h : Known k n) (w : World) : Calls Tryd.prog 49 #[sayV k n] w fun e w' => e = .returned (.agg #[.int .i64 k, .int .i64 n]) ∧ Below w.heap.size w w' := by
  rcases h with ⟨rfl, rfl⟩ | ⟨rfl, rfl⟩ | ⟨rfl, h1, h2⟩
  · exact verdict_deny w
  · exact verdict_allow w
  · exact verdict_hold n w
end Go.Proofs.YtndjjhcdnlkekaaDoor.rl
