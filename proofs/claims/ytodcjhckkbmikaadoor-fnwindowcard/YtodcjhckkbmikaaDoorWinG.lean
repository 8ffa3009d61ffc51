/-
  Plain mathematics: a window that has taken a gram is right, does not go back, and takes that gram no more, whatever it takes between. No condition.
-/
import Derived.Test.YtodcjhckkbmikaaDoorTakeP
namespace Go.Proofs.YtodcjhckkbmikaaDoor.wi
open Classical
set_option linter.unusedVariables false

theorem rising_len : ∀ {l : List Int} {lo hi : Int}, l.Pairwise (· < ·) → (∀ x ∈ l, lo ≤ x ∧ x ≤ hi) → (l.length : Int) ≤ max 0 (hi - lo + 1)
  | [], lo, hi, _, _ => by simp; omega
  | a :: l, lo, hi, hp, hm => by
    have h1 := List.pairwise_cons.1 hp
    have ha := hm a (List.mem_cons_self ..)
    have ih := rising_len (l := l) (lo := a + 1) (hi := hi) h1.2 (fun x hx => ⟨by have := h1.1 x hx; omega, (hm x (List.mem_cons_of_mem _ hx)).2⟩)
    simp only [List.length_cons]
    omega
theorem fits_of_rising {T : Int} {l : List Int} (hr : l.Pairwise (· < ·)) (hm : ∀ x ∈ l, low T ≤ x ∧ x ≤ T - 1) : FitsTo T l l.length := by
  intro i hi
  have e1 : l.getD i 0 = l[i] := by simp [List.getD, List.getElem?_eq_getElem hi]
  have hx := hm l[i] (List.getElem_mem hi)
  refine ⟨by rw [e1]; exact hx.1, by rw [e1]; exact hx.2, fun h0 => ?_⟩
  have hi' : i - 1 < l.length := by omega
  have e2 : l.getD (i - 1) 0 = l[i - 1] := by simp [List.getD, List.getElem?_eq_getElem hi']
  rw [e1, e2]
  exact List.pairwise_iff_getElem.1 hr (i - 1) i hi' hi (by omega)
theorem right_of_rising {E T : Int} {l : List Int} (hE : 0 ≤ E ∧ E ≤ 200) (hT : -1 ≤ T ∧ T ≤ 2000) (hr : l.Pairwise (· < ·)) (hm : ∀ x ∈ l, low T ≤ x ∧ x ≤ T - 1) : RightW E T l := by
  refine ⟨hE, hT, ?_, fits_of_rising hr hm⟩
  have := rising_len hr hm
  have := low_ge T
  omega
theorem newSeen_right {e t : Int} {s : List Int} {c : Int} (h : RightW e t s) (h0 : 0 ≤ c ∧ c ≤ 2000) (hc : c ≠ t ∧ c ∉ s) : RightW e (max c t) (newSeen t s c) := by
  have ht := h.2.1
  refine right_of_rising h.1 (by omega) (newSeen_rising h hc) fun x hx => ?_
  obtain ⟨h1, h2⟩ := mem_newSeen.1 hx
  have hl : low (max c t) = if max c t - 16 < 0 then 0 else max c t - 16 := rfl
  rw [hl]
  rcases h1 with h1 | ⟨h1, h3⟩
  · have := rightW_mem h h1
    have := low_nonneg t
    split <;> omega
  · split <;> omega

/-- it is told of, or it is too old -/
def Gone (E T : Int) (S : List Int) (ep c : Int) : Prop := Old ep c E T ∨ Told E T S ep c
theorem gone_not {E T : Int} {S : List Int} {ep c : Int} (h : Gone E T S ep c) : (takeA E T S ep c).2 ≠ 0 := by
  by_cases hr : RightW E T S ∧ RightG 0 ep c 0
  · by_cases ho : Old ep c E T
    · rw [takeA_old hr ho]; simp
    · rw [takeA_there hr ho (h.resolve_left ho)]; simp
  · rw [takeA_form hr]; simp
/-- what a window is that has taken a gram -/
theorem take_ok {e t : Int} {s : List Int} {ep c : Int} (h0 : (takeA e t s ep c).2 = 0) : (RightW e t s ∧ RightG 0 ep c 0) ∧ ¬ Old ep c e t ∧ ¬ Told e t s ep c ∧
    ((e < ep ∧ takeA e t s ep c = ((ep, c, []), 0)) ∨ (ep = e ∧ takeA e t s ep c = ((e, max c t, newSeen t s c), 0))) := by
  by_cases hr : RightW e t s ∧ RightG 0 ep c 0
  · by_cases ho : Old ep c e t
    · rw [takeA_old hr ho] at h0; simp at h0
    · by_cases ht : Told e t s ep c
      · rw [takeA_there hr ho ht] at h0; simp at h0
      · refine ⟨hr, ho, ht, ?_⟩
        by_cases hl : e < ep
        · exact .inl ⟨hl, takeA_new hr ho ht hl⟩
        · have he : ep = e := by unfold Old at ho; omega
          refine .inr ⟨he, ?_⟩
          rw [takeA_same hr ho ht hl, he]
  · rw [takeA_form hr] at h0; simp at h0
theorem untold {e t : Int} {s : List Int} {c : Int} (hc : 0 ≤ c) (ht : ¬ Told e t s e c) : c ≠ t ∧ c ∉ s := by
  refine ⟨fun hh => ht ⟨rfl, .inl ⟨by omega, hh⟩⟩, fun hh => ht ⟨rfl, .inr hh⟩⟩
theorem take_right {e t : Int} {s : List Int} {ep c e2 t2 : Int} {s2 : List Int} (h : takeA e t s ep c = ((e2, t2, s2), 0)) : RightW e2 t2 s2 ∧ e ≤ e2 ∧ (e2 = e → t ≤ t2) ∧ Gone e2 t2 s2 ep c := by
  obtain ⟨hr, ho, ht, hor⟩ := take_ok (by rw [h])
  have hg := hr.2
  unfold RightG at hg
  rcases hor with ⟨hl, he⟩ | ⟨rfl, he⟩
  · rw [h] at he
    simp only [Prod.mk.injEq] at he
    obtain ⟨⟨rfl, rfl, rfl⟩, _⟩ := he
    refine ⟨right_of_rising (by omega) (by omega) List.Pairwise.nil (fun x hx => by cases hx), by omega, by omega, .inr ⟨rfl, .inl ⟨by omega, rfl⟩⟩⟩
  · rw [h] at he
    simp only [Prod.mk.injEq] at he
    obtain ⟨⟨rfl, rfl, rfl⟩, _⟩ := he
    have hu := untold hg.2.2.1.1 ht
    refine ⟨newSeen_right hr.1 (by omega) hu, by omega, by omega, .inr ⟨rfl, ?_⟩⟩
    by_cases hct : t < c
    · exact .inl ⟨by omega, by omega⟩
    · refine .inr (mem_newSeen.2 ⟨.inr ⟨by omega, by omega⟩, ?_⟩)
      unfold Old at ho
      omega
theorem gone_keep {e t : Int} {s : List Int} {f d e2 t2 : Int} {s2 : List Int} (h : takeA e t s f d = ((e2, t2, s2), 0)) {ep c : Int} (hgo : Gone e t s ep c) : Gone e2 t2 s2 ep c := by
  obtain ⟨hr, ho, ht, hor⟩ := take_ok (by rw [h])
  have htr := hr.1.2.1
  rcases hor with ⟨hl, he⟩ | ⟨rfl, he⟩
  · rw [h] at he
    simp only [Prod.mk.injEq] at he
    obtain ⟨⟨rfl, rfl, rfl⟩, _⟩ := he
    refine .inl (.inl ?_)
    rcases hgo with hgo | hgo
    · unfold Old at hgo; omega
    · have := hgo.1; omega
  · rw [h] at he
    simp only [Prod.mk.injEq] at he
    obtain ⟨⟨rfl, rfl, rfl⟩, _⟩ := he
    by_cases hold : c < max d t - 16
    · rcases hgo with hgo | hgo
      · refine .inl ?_
        unfold Old at hgo ⊢
        omega
      · exact .inl (.inr ⟨hgo.1, hold⟩)
    · rcases hgo with hgo | ⟨he1, hm⟩
      · refine .inl ?_
        unfold Old at hgo ⊢
        omega
      · refine .inr ⟨he1, ?_⟩
        rcases hm with ⟨hm, rfl⟩ | hm
        · by_cases hdt : c < d
          · exact .inr (mem_newSeen.2 ⟨.inr ⟨by omega, by omega⟩, by omega⟩)
          · exact .inl ⟨by omega, by omega⟩
        · exact .inr (mem_newSeen.2 ⟨.inl hm, by omega⟩)
end Go.Proofs.YtodcjhckkbmikaaDoor.wi
