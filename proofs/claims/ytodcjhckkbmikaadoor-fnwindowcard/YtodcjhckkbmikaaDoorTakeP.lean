/-
  Plain mathematics: what WindowTake answers, and that the program's way comes to it. No condition.
-/
import Derived.Test.YtodcjhckkbmikaaDoorTake5
namespace Go.Proofs.YtodcjhckkbmikaaDoor.wi
open Classical
set_option linter.unusedVariables false

/-- the answer: the window's parts and the code -/
def takeA (e t : Int) (s : List Int) (ep c : Int) : (Int × Int × List Int) × Int :=
  if ¬ (((0 ≤ e ∧ e ≤ 200) ∧ (-1 ≤ t ∧ t ≤ 2000) ∧ s.length ≤ 16 ∧ (∀ i, i < s.length → low t ≤ s.getD i 0 ∧ s.getD i 0 ≤ t - 1 ∧ (0 < i → s.getD (i - 1) 0 < s.getD i 0))) ∧ ((0 ≤ (0 : Int) ∧ (0 : Int) ≤ 1) ∧ (0 ≤ ep ∧ ep ≤ 200) ∧ (0 ≤ c ∧ c ≤ 2000) ∧ (0 : Nat) ≤ 800)) then ((0, 0, []), 1)
  else if (ep < e ∨ ep = e ∧ c < t - 16) then ((0, 0, []), 12)
  else if (ep = e ∧ ((t ≠ -1 ∧ c = t) ∨ c ∈ s)) then ((0, 0, []), 7)
  else if e < ep then ((ep, c, []), 0)
  else ((ep, max c t, newSeen t s c), 0)
theorem takeA_form {e t : Int} {s : List Int} {ep c : Int} (h : ¬ (RightW e t s ∧ RightG 0 ep c 0)) : takeA e t s ep c = ((0, 0, []), 1) := if_pos h
theorem takeA_old {e t : Int} {s : List Int} {ep c : Int} (h : RightW e t s ∧ RightG 0 ep c 0) (ho : Old ep c e t) : takeA e t s ep c = ((0, 0, []), 12) := by
  unfold takeA; rw [if_neg (show ¬ ¬ (((0 ≤ e ∧ e ≤ 200) ∧ (-1 ≤ t ∧ t ≤ 2000) ∧ s.length ≤ 16 ∧ (∀ i, i < s.length → low t ≤ s.getD i 0 ∧ s.getD i 0 ≤ t - 1 ∧ (0 < i → s.getD (i - 1) 0 < s.getD i 0))) ∧ ((0 ≤ (0 : Int) ∧ (0 : Int) ≤ 1) ∧ (0 ≤ ep ∧ ep ≤ 200) ∧ (0 ≤ c ∧ c ≤ 2000) ∧ (0 : Nat) ≤ 800)) from fun hh => hh h), if_pos (show (ep < e ∨ ep = e ∧ c < t - 16) from ho)]
theorem takeA_there {e t : Int} {s : List Int} {ep c : Int} (h : RightW e t s ∧ RightG 0 ep c 0) (ho : ¬ Old ep c e t) (ht : Told e t s ep c) : takeA e t s ep c = ((0, 0, []), 7) := by
  unfold takeA; rw [if_neg (show ¬ ¬ (((0 ≤ e ∧ e ≤ 200) ∧ (-1 ≤ t ∧ t ≤ 2000) ∧ s.length ≤ 16 ∧ (∀ i, i < s.length → low t ≤ s.getD i 0 ∧ s.getD i 0 ≤ t - 1 ∧ (0 < i → s.getD (i - 1) 0 < s.getD i 0))) ∧ ((0 ≤ (0 : Int) ∧ (0 : Int) ≤ 1) ∧ (0 ≤ ep ∧ ep ≤ 200) ∧ (0 ≤ c ∧ c ≤ 2000) ∧ (0 : Nat) ≤ 800)) from fun hh => hh h), if_neg (show ¬ (ep < e ∨ ep = e ∧ c < t - 16) from ho), if_pos (show (ep = e ∧ ((t ≠ -1 ∧ c = t) ∨ c ∈ s)) from ht)]
theorem takeA_new {e t : Int} {s : List Int} {ep c : Int} (h : RightW e t s ∧ RightG 0 ep c 0) (ho : ¬ Old ep c e t) (ht : ¬ Told e t s ep c) (hl : e < ep) : takeA e t s ep c = ((ep, c, []), 0) := by
  unfold takeA; rw [if_neg (show ¬ ¬ (((0 ≤ e ∧ e ≤ 200) ∧ (-1 ≤ t ∧ t ≤ 2000) ∧ s.length ≤ 16 ∧ (∀ i, i < s.length → low t ≤ s.getD i 0 ∧ s.getD i 0 ≤ t - 1 ∧ (0 < i → s.getD (i - 1) 0 < s.getD i 0))) ∧ ((0 ≤ (0 : Int) ∧ (0 : Int) ≤ 1) ∧ (0 ≤ ep ∧ ep ≤ 200) ∧ (0 ≤ c ∧ c ≤ 2000) ∧ (0 : Nat) ≤ 800)) from fun hh => hh h), if_neg (show ¬ (ep < e ∨ ep = e ∧ c < t - 16) from ho), if_neg (show ¬ (ep = e ∧ ((t ≠ -1 ∧ c = t) ∨ c ∈ s)) from ht), if_pos hl]
theorem takeA_same {e t : Int} {s : List Int} {ep c : Int} (h : RightW e t s ∧ RightG 0 ep c 0) (ho : ¬ Old ep c e t) (ht : ¬ Told e t s ep c) (hl : ¬ e < ep) : takeA e t s ep c = ((ep, max c t, newSeen t s c), 0) := by
  unfold takeA; rw [if_neg (show ¬ ¬ (((0 ≤ e ∧ e ≤ 200) ∧ (-1 ≤ t ∧ t ≤ 2000) ∧ s.length ≤ 16 ∧ (∀ i, i < s.length → low t ≤ s.getD i 0 ∧ s.getD i 0 ≤ t - 1 ∧ (0 < i → s.getD (i - 1) 0 < s.getD i 0))) ∧ ((0 ≤ (0 : Int) ∧ (0 : Int) ≤ 1) ∧ (0 ≤ ep ∧ ep ≤ 200) ∧ (0 ≤ c ∧ c ≤ 2000) ∧ (0 : Nat) ≤ 800)) from fun hh => hh h), if_neg (show ¬ (ep < e ∨ ep = e ∧ c < t - 16) from ho), if_neg (show ¬ (ep = e ∧ ((t ≠ -1 ∧ c = t) ∨ c ∈ s)) from ht), if_neg hl]

/-- the program's way comes to that -/
theorem with_takeA {e t : Int} {s : List Int} {ep c : Int} (h : RightW e t s ∧ RightG 0 ep c 0) (ho : ¬ Old ep c e t) (ht : ¬ Told e t s ep c) {ss : List Int} (hr : ss.Pairwise (· < ·))
    (hm : ∀ x, x ∈ ss ↔ (W64 x ∧ Rest e t s ep c (newE e t ep c) x) ∧ x ≠ newT e t ep c) : takeA e t s ep c = ((newE e t ep c, newT e t ep c, ss), 0) := by
  have ho' := ho
  unfold Old at ho'
  have hc := h.2.2.2.1
  by_cases hl : e < ep
  · have hn : Newer ep c e t := .inl hl
    have e1 : newE e t ep c = ep := if_pos (show (e < ep ∨ ep = e ∧ t < c) from hn)
    have e2 : newT e t ep c = c := if_pos (show (e < ep ∨ ep = e ∧ t < c) from hn)
    rw [takeA_new h ho ht hl, e1, e2]
    rw [e1, e2] at hm
    have hs : ss = [] := by
      cases ss with
      | nil => rfl
      | cons x r =>
        exfalso
        obtain ⟨⟨_, h1, _⟩, h2⟩ := (hm x).1 (by simp)
        rcases h1 with h1 | h1
        · have := h1.1; omega
        · exact h2 h1.2
    rw [hs]
  · have hee : ep = e := by omega
    subst hee
    have hnt : c ≠ t ∧ c ∉ s := by
      constructor
      · rintro rfl
        exact ht ⟨rfl, .inl ⟨by omega, rfl⟩⟩
      · intro hmem
        exact ht ⟨rfl, .inr hmem⟩
    have e1 : newE ep t ep c = ep := by unfold newE; split <;> rfl
    have e2 : newT ep t ep c = max c t := by
      unfold newT
      by_cases hn : Newer ep c ep t
      · rw [if_pos (show (ep < ep ∨ ep = ep ∧ t < c) from hn)]; unfold Newer at hn; omega
      · rw [if_neg (show ¬ (ep < ep ∨ ep = ep ∧ t < c) from hn)]; unfold Newer at hn; omega
    rw [takeA_same h ho ht hl, e1, e2]
    rw [e1, e2] at hm
    have := newSeen_of_mem h.1 hc.1 hnt hr (fun x => by
      rw [hm]
      unfold Rest added Told Old
      rw [e1, e2]
      constructor
      · rintro ⟨⟨_, h1, h2⟩, h3⟩
        refine ⟨⟨?_, fun hh => h2 (.inr ⟨rfl, hh⟩)⟩, h3⟩
        rcases h1 with ⟨_, h1 | h1⟩ | ⟨_, h1⟩
        · exact .inr (.inl ⟨h1.2, h1.1⟩)
        · exact .inl h1
        · exact .inr (.inr h1)
      · rintro ⟨⟨h1, h2⟩, h3⟩
        refine ⟨⟨?_, ?_, ?_⟩, h3⟩
        · rcases h1 with h1 | ⟨rfl, h1⟩ | rfl
          · exact (told_wf h.1).2.2 x h1
          · exact (told_wf h.1).2.1
          · exact w64_of (by omega) (by omega)
        · rcases h1 with h1 | ⟨h1, h4⟩ | h1
          · exact .inl ⟨rfl, .inr h1⟩
          · exact .inl ⟨rfl, .inl ⟨h4, h1⟩⟩
          · exact .inr ⟨rfl, h1⟩
        · rintro (hh | hh)
          · omega
          · exact h2 hh.2)
    rw [this]
end Go.Proofs.YtodcjhckkbmikaaDoor.wi
