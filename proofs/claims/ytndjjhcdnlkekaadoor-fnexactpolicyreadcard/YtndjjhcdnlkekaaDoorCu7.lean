/-
  What a policy's text says: plain words; the rules in a row of the call's own. No condition.
-/
import Derived.Test.YtndjjhcdnlkekaaDoorCu3
import Derived.Test.YtndjjhcdnlkekaaDoorCu4
import Derived.Test.YtndjjhcdnlkekaaDoorRuS
import Derived.Test.YtndjjhcdnlkekaaDoorRuA
namespace Go.Proofs.YtndjjhcdnlkekaaDoor.cu
open Go.ChangeShapes Go.WideShapes Go.ChangeAt Go.RowKit
open Go.Proofs.YtndjjhcdnlkekaaDoor.gb (bat bat_eq GlobR)
open Go.Proofs.YtndjjhcdnlkekaaDoor.rl
open Go.Proofs.YtndjjhcdnlkekaaDoor.wi (heap_lt calls_w wp_w)
open Classical
set_option linter.unusedVariables false

theorem pcs_skip {s : ByteArray} {a i n : Nat} (hi : i ≤ n) (hn : n ≤ s.size) (h : ∀ j, i ≤ j → j < n → bat s j ≠ 10) : Pcs s a i = Pcs s a n := by
  obtain ⟨d, rfl⟩ : ∃ d, n = i + d := ⟨n - i, by omega⟩
  clear hi
  induction d with
  | zero => rfl
  | succ d ih => rw [ih (by omega) (fun j h1 h2 => h j h1 (by omega)), pcs_on (by omega) (h (i + d) (by omega) (by omega))]; rfl
theorem bat_from (s : ByteArray) (d i : Nat) : bat (s.extract d s.size) i = bat s (d + i) := by
  unfold bat
  rw [ext_toList, List.take_of_length_le (by rw [Array.length_toList]; exact Nat.le_refl _), List.getD_eq_getElem?_getD, List.getElem?_drop, List.getD_eq_getElem?_getD]
theorem ext_from (s : ByteArray) (d a i : Nat) : (s.extract d s.size).extract a i = s.extract (d + a) (d + i) := by
  refine ext_of ?_
  have hs : s.data.toList.take s.size = s.data.toList := List.take_of_length_le (Nat.le_of_eq (Array.length_toList (xs := s.data)))
  rw [ext_toList, ext_toList, ext_toList, hs, List.take_drop, List.drop_drop]
theorem pieces_from (s : ByteArray) (d : Nat) (hd : d ≤ s.size) : ∀ n a i, pieces s n (d + a) (d + i) = pieces (s.extract d s.size) n a i := by
  intro n
  have hz : (s.extract d s.size).size = s.size - d := by simp
  induction n with
  | zero => intro a i; rfl
  | succ n ih =>
    intro a i
    unfold pieces
    rw [hz, bat_from, ext_from, ext_from, show d + (s.size - d) = s.size by omega]
    by_cases h : i < s.size - d
    · rw [if_pos h, if_pos (by omega)]
      have e := ih (i + 1) (i + 1)
      have e2 := ih a (i + 1)
      rw [← Nat.add_assoc] at e e2
      rw [e, e2]
    · rw [if_neg h, if_neg (by omega)]
theorem pcs_from (s : ByteArray) (d : Nat) (hd : d ≤ s.size) : Pcs s d d = Pcs (s.extract d s.size) 0 0 := by
  have := pieces_from s d hd (s.size + 1 - d) 0 0
  unfold Pcs
  rw [show (s.extract d s.size).size + 1 - 0 = s.size + 1 - d by simp; omega]
  exact this
theorem pcs_none {s : ByteArray} (h : NoneOf s 10) : Pcs s 0 0 = [s] := by
  rw [pcs_skip (Nat.zero_le _) (Nat.le_refl _) (fun j _ hj => h j hj), pcs_end rfl]
  congr 1
  exact ext_of (by rw [ext_toList, List.drop_zero]; exact List.take_of_length_le (by rw [Array.length_toList]; exact Nat.le_refl _))
theorem pcs_first {s : ByteArray} {i : Nat} (h : FirstAt s 10 i) : Pcs s 0 0 = s.extract 0 i :: Pcs (s.extract (i + 1) s.size) 0 0 := by
  have h1 := h.1
  rw [pcs_skip (Nat.zero_le i) (by omega) (fun j _ hj => h.2.2 j hj), pcs_cut h.1 h.2.1, pcs_from s (i + 1) (by omega)]
theorem pcs_pos (s : ByteArray) : 1 ≤ (Pcs s 0 0).length := by
  by_cases h : NoneOf s 10
  · rw [pcs_none h]; exact Nat.le_refl _
  · rcases index_of s 10 with ⟨-, h2⟩ | ⟨i, -, hi⟩
    · exact absurd h2 h
    · rw [pcs_first hi]; simp
def nob : ByteArray := ⟨#[]⟩
/-- line k is none that may stand there -/
def Bad (P : List ByteArray) (k : Nat) : Prop := (k + 1 < P.length ∧ (12 ≤ k ∨ ∀ y, LnR y → bare y ≠ P.getD k nob)) ∨ (k + 1 = P.length ∧ P.getD k nob ≠ nob)
/-- the first lines are these rules' -/
def GoodTo (P : List ByteArray) (l : List Ln) : Prop := l.length + 1 ≤ P.length ∧ l.length ≤ 12 ∧ ∀ j, j < l.length → LnR (l.getD j ln0) ∧ bare (l.getD j ln0) = P.getD j nob
/-- what PolicyRead tells -/
def OutIs (t : ByteArray) (l : List Ln) (ln cd : Int) : Prop := (8000 < t.size ∧ l = [] ∧ ln = 0 ∧ cd = 2) ∨ (t.size ≤ 8000 ∧ ∃ g, GoodTo (Pcs t 0 0) g ∧ ((Bad (Pcs t 0 0) g.length ∧ l = [] ∧ ln = g.length ∧ cd = 3) ∨ (g.length + 1 = (Pcs t 0 0).length ∧ (Pcs t 0 0).getD g.length nob = nob ∧ l = g ∧ ln = 0 ∧ cd = 0)))
theorem good_zero (t : ByteArray) : GoodTo (Pcs t 0 0) [] := ⟨pcs_pos t, Nat.zero_le _, fun j h => absurd h (by simp)⟩
theorem getD_app {l : List Ln} {x : Ln} (j : Nat) : (l ++ [x]).getD j ln0 = if j < l.length then l.getD j ln0 else if j = l.length then x else ln0 := by
  simp only [List.getD_eq_getElem?_getD]
  by_cases h : j < l.length
  · rw [if_pos h, List.getElem?_append_left h]
  · rw [if_neg h, List.getElem?_append_right (by omega)]
    by_cases h2 : j = l.length
    · subst h2; simp
    · rw [if_neg h2, List.getElem?_eq_none (by simp; omega)]; rfl
theorem GoodTo.add {P : List ByteArray} {l : List Ln} {x : Ln} (h : GoodTo P l) (h1 : l.length + 1 < P.length) (h2 : l.length < 12) (h3 : LnR x) (h4 : bare x = P.getD l.length nob) : GoodTo P (l ++ [x]) := by
  refine ⟨by simp; omega, by simp; omega, fun j hj => ?_⟩
  rw [getD_app]
  by_cases e : j < l.length
  · rw [if_pos e]; exact h.2.2 j e
  · have : j = l.length := by simp at hj; omega
    subst this
    rw [if_neg e, if_pos rfl]; exact ⟨h3, h4⟩
theorem good_end {P : List ByteArray} {g g' : List Ln} (h : GoodTo P g) (h' : GoodTo P g') (he : Bad P g.length ∨ g.length + 1 = P.length) (hl : g.length ≤ g'.length) : g = g' := by
  have hlen : g.length = g'.length := by
    refine Nat.le_antisymm hl (Nat.le_of_not_lt fun hlt => ?_)
    have h1 := h'.1
    have h2 := h'.2.1
    rcases he with (⟨-, b | b⟩ | ⟨b, -⟩) | b
    · omega
    · exact b _ (h'.2.2 _ hlt).1 (h'.2.2 _ hlt).2
    · omega
    · omega
  refine List.ext_getElem hlen fun j h1 h2 => ?_
  have a := h.2.2 j h1
  have b := h'.2.2 j h2
  have := bare_inj a.1 b.1 (a.2.trans b.2.symm)
  rwa [List.getD_eq_getElem?_getD, List.getElem?_eq_getElem h1, List.getD_eq_getElem?_getD, List.getElem?_eq_getElem h2] at this
theorem OutIs.uniq {t : ByteArray} {l l' : List Ln} {a b a' b' : Int} (h : OutIs t l a b) (h' : OutIs t l' a' b') : l = l' ∧ a = a' ∧ b = b' := by
  rcases h with ⟨h0, rfl, rfl, rfl⟩ | ⟨h0, g, hg, h⟩
  · rcases h' with ⟨-, rfl, rfl, rfl⟩ | ⟨h1, -⟩
    · exact ⟨rfl, rfl, rfl⟩
    · omega
  · rcases h' with ⟨h1, -⟩ | ⟨-, g', hg', h'⟩
    · omega
    · have e1 : Bad (Pcs t 0 0) g.length ∨ g.length + 1 = (Pcs t 0 0).length := h.elim (fun x => .inl x.1) fun x => .inr x.1
      have e2 : Bad (Pcs t 0 0) g'.length ∨ g'.length + 1 = (Pcs t 0 0).length := h'.elim (fun x => .inl x.1) fun x => .inr x.1
      have e : g = g' := (Nat.le_total g.length g'.length).elim (good_end hg hg' e1) fun hh => (good_end hg' hg e2 hh).symm
      subst e
      rcases h with ⟨x1, rfl, rfl, rfl⟩ | ⟨x1, x2, rfl, rfl, rfl⟩ <;> rcases h' with ⟨y1, rfl, rfl, rfl⟩ | ⟨y1, y2, rfl, rfl, rfl⟩
      · exact ⟨rfl, rfl, rfl⟩
      · rcases x1 with ⟨x, -⟩ | ⟨-, x⟩
        · omega
        · exact absurd y2 x
      · rcases y1 with ⟨y, -⟩ | ⟨-, y⟩
        · omega
        · exact absurd x2 y
      · exact ⟨rfl, rfl, rfl⟩
/-- a row of the call's own that holds these rules -/
def OwR (base : Nat) (v : Value) (l : List Ln) (u : World) : Prop := u.ownsRow base 26 4 v l.length (l.flatMap flat1)
theorem OwR.nil (base : Nat) (u : World) : OwR base (.slice none 0 0) [] u := ⟨rfl, .inl ⟨rfl, rfl⟩⟩
theorem OwR.shape {base : Nat} {v : Value} {l : List Ln} {u : World} (h : OwR base v l u) : ∃ p cap, v = .slice p l.length cap := by
  rcases h.2 with ⟨hv, hl⟩ | ⟨g, cap, cur, hv, _⟩
  · exact ⟨none, 0, by rw [hv, hl]⟩
  · exact ⟨_, _, hv⟩
theorem OwR.slice {base : Nat} {v : Value} {l : List Ln} {u : World} (h : OwR base v l u) : SliceIs u v l := by
  rcases h.2 with ⟨rfl, hl⟩ | ⟨g, cap, cur, rfl, hb, hg, h1, h2, h3, h4⟩
  · exact .inl ⟨_, _, List.length_eq_zero_iff.1 hl, rfl⟩
  · refine .inr ⟨g, 0, cap, (Array.getElem?_eq_some_iff.1 hg).1, rfl, fun j hj => ?_⟩
    have hc : u.ownsRow base 26 4 (.slice (some ⟨g, 0, none⟩) l.length cap) l.length (l.flatMap flat1) := h
    obtain ⟨e1, e2, e3, e4⟩ := cells_at l j hj
    rw [Nat.zero_add, hc.cellAt (j * 4) (by omega), hc.cellAt (j * 4 + 1) (by omega), hc.cellAt (j * 4 + 2) (by omega), hc.cellAt (j * 4 + 3) (by omega)]
    exact ⟨e1, e2, e3, e4⟩
theorem OwR.up {base : Nat} {v : Value} {l : List Ln} {u u' : World} (h : OwR base v l u) (hb : Below u.heap.size u u') : OwR base v l u' :=
  World.ownsRow.kept h (row := none) ⟨hb.os, hb.tape, hb.output, hb.size, fun k hk _ => hb.block k hk⟩ (by cases v.ownBlock <;> simp)
theorem OwR.of {base : Nat} {v : Value} {l : List Ln} {x : Ln} {u : World} (h : u.ownsRow base 26 4 v (l.length + 1) (l.flatMap flat1 ++ [.int .i64 x.1, .int .i64 x.2.1, .string x.2.2.1, .string x.2.2.2])) : OwR base v (l ++ [x]) u := by
  unfold OwR
  have e : (l ++ [x]).flatMap flat1 = l.flatMap flat1 ++ [.int .i64 x.1, .int .i64 x.2.1, .string x.2.2.1, .string x.2.2.2] := by simp [flat1]
  rw [e, List.length_append]
  exact h
theorem OwR.block {base : Nat} {v : Value} {l : List Ln} {u : World} (h : OwR base v l u) : ∀ k, v.ownBlock = some k → base ≤ k ∧ ∃ cur, u.heap[k]? = some (.cells cur 26 (0, 0)) := by
  intro k hk
  rcases h.2 with ⟨rfl, _⟩ | ⟨g, cap, cur, rfl, hb, hg, _⟩
  · simp [Value.ownBlock] at hk
  · simp [Value.ownBlock] at hk
    subst hk
    exact ⟨hb, cur, hg⟩
theorem OwR.other {base : Nat} {v : Value} {l : List Ln} {u : World} (h : OwR base v l u) {q : Nat} {cs : Array Value} {T : TypeId} (hT : T ≠ 26) (hq : rw.At u q cs T) : v.ownBlock ≠ some q := fun e => by
  obtain ⟨_, cur, hg⟩ := h.block q e
  have : (some (Obj.cells cur 26 (0, 0))) = some (.cells cs T (0, 0)) := hg.symm.trans hq
  simp at this
  exact hT this.2.symm
end Go.Proofs.YtndjjhcdnlkekaaDoor.cu
