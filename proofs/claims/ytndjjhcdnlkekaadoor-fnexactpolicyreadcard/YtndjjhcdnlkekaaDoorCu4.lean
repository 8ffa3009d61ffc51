/-
  What a policy's line begins with, and which rule's it is: plain words. No condition.
-/
import Derived.Test.YtndjjhcdnlkekaaDoorCu1
namespace Go.Proofs.YtndjjhcdnlkekaaDoor.cu
open Go.ChangeShapes Go.WideShapes Go.ChangeAt Go.RowKit
open Go.Proofs.YtndjjhcdnlkekaaDoor.gb (bat bat_eq GlobR)
open Go.Proofs.YtndjjhcdnlkekaaDoor.rl
open Go.Proofs.YtndjjhcdnlkekaaDoor.jo (joinB joined1 joined_any total)
open Classical
set_option linter.unusedVariables false

/-- the line begins with these words and a blank -/
def Beg (t : ByteArray) (k n : Int) : Prop := ∃ r, t = wordB k n ++ one 32 ++ r
theorem word_cut {k n k' n' : Int} {r r' : ByteArray} (kx : Known k n) (ky : Known k' n') (h : wordB k n ++ one 32 ++ r = wordB k' n' ++ one 32 ++ r') : k = k' ∧ n = n' ∧ r = r' := by
  have f := free_word0
  have ax : ∀ (n : Int) (r : ByteArray), wordB 2 n ++ one 32 ++ r = holdW ++ one 32 ++ (decB n ++ one 32 ++ r) := fun n r => by rw [word_hold]; simp only [ByteArray.append_assoc]
  rcases kx with ⟨rfl, rfl⟩ | ⟨rfl, rfl⟩ | ⟨rfl, h1⟩ <;> rcases ky with ⟨rfl, rfl⟩ | ⟨rfl, rfl⟩ | ⟨rfl, h2⟩ <;> simp only [word_deny, word_allow, ax] at h
  · exact ⟨rfl, rfl, (cutU f.1 f.1 h).2⟩
  · exact absurd (cutU f.1 f.2.1 h).1 ne_words.1
  · exact absurd (cutU f.1 f.2.2.1 h).1 ne_words.2.1
  · exact absurd (cutU f.2.1 f.1 h).1.symm ne_words.1
  · exact ⟨rfl, rfl, (cutU f.2.1 f.2.1 h).2⟩
  · exact absurd (cutU f.2.1 f.2.2.1 h).1 ne_words.2.2
  · exact absurd (cutU f.2.2.1 f.1 h).1.symm ne_words.2.1
  · exact absurd (cutU f.2.2.1 f.2.1 h).1.symm ne_words.2.2
  · obtain ⟨-, e⟩ := cutU f.2.2.1 f.2.2.1 h
    obtain ⟨e1, e3⟩ := cutU (f.2.2.2 n) (f.2.2.2 n') e
    exact ⟨rfl, dec_inj h1 h2 e1, e3⟩
/-- the answer on a line: a rule, and whether it is right and the line is its own -/
def LineIs (t : ByteArray) (x : Ln) (b : Bool) : Prop := (b = true → LnR x ∧ bare x = t) ∧ (b = false → ∀ y, LnR y → bare y ≠ t)
theorem bare_beg (y : Ln) : bare y = wordB y.1 y.2.1 ++ one 32 ++ (y.2.2.1 ++ one 32 ++ y.2.2.2) := by unfold bare; rw [app3]
theorem known_at {k n : Int} (h : Known k n) : ∃ j, j < 5 ∧ verA j = k ∧ verB j = n := by
  rcases h with ⟨rfl, rfl⟩ | ⟨rfl, rfl⟩ | ⟨rfl, h1, h2⟩
  · exact ⟨0, by omega, rfl, rfl⟩
  · exact ⟨1, by omega, rfl, rfl⟩
  · rcases (show n = 1 ∨ n = 2 ∨ n = 3 by omega) with rfl | rfl | rfl
    · exact ⟨2, by omega, rfl, rfl⟩
    · exact ⟨3, by omega, rfl, rfl⟩
    · exact ⟨4, by omega, rfl, rfl⟩
theorem no_line {t : ByteArray} (h : ∀ j, j < 5 → ¬ Beg t (verA j) (verB j)) : ∀ y, LnR y → bare y ≠ t := fun y hy he => by
  obtain ⟨j, hj, e1, e2⟩ := known_at hy.1
  exact h j hj ⟨_, by rw [e1, e2, ← bare_beg, he]⟩
/-- a text cut at its first blank -/
def CutAt (r u g : ByteArray) (f : Bool) : Prop := (f = true ∧ r = u ++ one 32 ++ g ∧ Free u 32) ∨ (f = false ∧ Free r 32 ∧ u = r ∧ g = ⟨#[]⟩)
theorem CutOut.at {r : ByteArray} {e : Ending} (h : CutOut r 32 e) : ∃ u g f, e = .returned (.tuple #[.string u, .string g, .bool f]) ∧ CutAt r u g f ∧ u.size ≤ r.size ∧ g.size ≤ r.size := by
  rcases h with ⟨i, hi, rfl⟩ | ⟨hn, rfl⟩
  · have hc := first_cut (c := 32) hi
    exact ⟨_, _, _, rfl, .inl ⟨rfl, hc.1, hc.2⟩, by simp; omega, by simp⟩
  · exact ⟨_, _, _, rfl, .inr ⟨rfl, free_of (c := 32) hn, rfl, rfl⟩, Nat.le_refl _, Nat.zero_le _⟩
theorem not_glob0 : ¬ GlobR ⟨#[]⟩ := fun h => by
  have := h.1
  exact absurd this (by decide)
theorem line_is {t r u g : ByteArray} {k n : Int} {f : Bool} (hk : Known k n) (ht : t = wordB k n ++ one 32 ++ r) (hc : CutAt r u g f) : LineIs t (k, n, u, g) (decide (RuleR k n u g)) := by
  refine ⟨fun h => ?_, fun h y hy he => ?_⟩
  · have hr : LnR (k, n, u, g) := of_decide_eq_true h
    refine ⟨hr, ?_⟩
    rcases hc with ⟨_, hc, _⟩ | ⟨_, _, _, hg⟩
    · rw [bare_beg, ht, hc]
    · exact absurd (hg ▸ hr.2.2) not_glob0
  · have hr : ¬ RuleR k n u g := of_decide_eq_false h
    rw [ht, bare_beg] at he
    obtain ⟨e1, e2, e3⟩ := word_cut hy.1 hk he
    rcases hc with ⟨_, hc, hf⟩ | ⟨_, hf, _, _⟩
    · rw [hc] at e3
      obtain ⟨e4, e5⟩ := cutU (LnR.user hy) hf e3
      refine hr ?_
      rw [← e1, ← e2, ← e4, ← e5]; exact hy
    · refine hf ?_
      rw [← e3]
      simp [one]
theorem pre_of {t p r : ByteArray} (h : t = p ++ r) : p.size ≤ t.size ∧ t.extract 0 p.size = p ∧ t.extract p.size t.size = r := by
  subst h
  refine ⟨by simp, ext_of ?_, ext_of ?_⟩
  · rw [ext_toList]; simp
  · rw [ext_toList]; simp
    have hp : p.size = p.data.toList.length := (Array.length_toList (xs := p.data)).symm
    have hr : r.size = r.data.toList.length := (Array.length_toList (xs := r.data)).symm
    rw [List.take_of_length_le (by rw [List.length_append, ← hp, ← hr]; exact Nat.le_refl _), hp, List.drop_left]
theorem of_pre {t p : ByteArray} (h1 : p.size ≤ t.size) (h : t.extract 0 p.size = p) : t = p ++ t.extract p.size t.size := by
  refine ext_of ?_
  have hs : t.data.toList.take t.size = t.data.toList := List.take_of_length_le (by simp)
  have e := bytes_of h
  rw [ext_toList, List.drop_zero] at e
  rw [ByteArray.data_append, Array.toList_append, ext_toList, hs]
  conv => lhs; rw [← List.take_append_drop p.size t.data.toList, e]
theorem cutp_yes {t p r : ByteArray} (h : t = p ++ r) (w : World) (hs : t.size ≤ maxLen) (hp : p.size ≤ 20) :
    Calls Tryd.prog 61 #[.string t, .string p] w fun e w' => e = .returned (.tuple #[.string r, .bool true]) ∧ w' = w :=
  (cutp_any t p w hs hp).mono fun e w' ⟨he, hw⟩ => ⟨by have h' := pre_of h; rw [he.1 ⟨h'.1, h'.2.1⟩, h'.2.2], hw⟩
theorem cutp_no {t p : ByteArray} (h : ∀ r, t ≠ p ++ r) (w : World) (hs : t.size ≤ maxLen) (hp : p.size ≤ 20) :
    Calls Tryd.prog 61 #[.string t, .string p] w fun e w' => e = .returned (.tuple #[.string t, .bool false]) ∧ w' = w :=
  (cutp_any t p w hs hp).mono fun e w' ⟨he, hw⟩ => ⟨he.2 fun h' => h _ (of_pre h'.1 h'.2), hw⟩
theorem kinds {j : Nat} (h : j < 5) : (rulV[j]? = some denyV ∧ verA j = 0 ∧ verB j = 0) ∨ (rulV[j]? = some allowV ∧ verA j = 1 ∧ verB j = 0) ∨ (rulV[j]? = some (holdV (verB j)) ∧ verA j = 2 ∧ 1 ≤ verB j ∧ verB j ≤ 3) := by
  rcases (show j = 0 ∨ j = 1 ∨ j = 2 ∨ j = 3 ∨ j = 4 by omega) with rfl | rfl | rfl | rfl | rfl
  · exact .inl ⟨rfl, rfl, rfl⟩
  · exact .inr (.inl ⟨rfl, rfl, rfl⟩)
  · exact .inr (.inr ⟨rfl, rfl, by decide, by decide⟩)
  · exact .inr (.inr ⟨rfl, rfl, by decide, by decide⟩)
  · exact .inr (.inr ⟨rfl, rfl, by decide, by decide⟩)
/-- each ruling: its words, and what it tells -/
theorem says_at {j : Nat} (h : j < 5) : ∃ T v F, rulV[j]? = some (.iface T v) ∧ Known (verA j) (verB j) ∧ (∀ w, (method 241 T v "loop.example/g00455/impl.words").run Tryd.prog w = .ok (F, v) w) ∧ (∀ w, (callFunc F #[v]).run Tryd.prog w = .ok (.enter F #[v]) w) ∧
    (∀ w, Calls Tryd.prog F #[v] w fun e w' => e = .returned (.string (wordB (verA j) (verB j))) ∧ Below w.heap.size w w') ∧ ∀ w, Calls Tryd.prog 49 #[.iface T v] w fun e w' => e = .returned (.agg #[.int .i64 (verA j), .int .i64 (verB j)]) ∧ Below w.heap.size w w' := by
  obtain ⟨x, hx, -, hk, hv⟩ := verdict_at j h
  rcases kinds h with ⟨e, h1, h2⟩ | ⟨e, h1, h2⟩ | ⟨e, h1, h2⟩
  · rw [hx] at e; cases e
    exact ⟨_, _, _, hx, hk, met_deny, fun w => by kernel_rfl, fun w => by rw [h1, h2, word_deny]; exact words_deny w, hv⟩
  · rw [hx] at e; cases e
    exact ⟨_, _, _, hx, hk, met_allow, fun w => by kernel_rfl, fun w => by rw [h1, h2, word_allow]; exact words_allow w, hv⟩
  · rw [hx] at e; cases e
    exact ⟨_, _, _, hx, hk, met_hold _, fun w => by kernel_rfl, fun w => by rw [h1, show wordB 2 (verB j) = holdB (verB j) by simp [wordB]]; exact words_hold _ w h2, hv⟩
end Go.Proofs.YtndjjhcdnlkekaaDoor.cu
