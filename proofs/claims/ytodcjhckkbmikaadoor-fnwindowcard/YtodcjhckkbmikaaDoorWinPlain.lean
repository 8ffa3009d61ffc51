/-
  Plain mathematics of chapter 5's windows: what a right window is, and what a window that has taken a count more tells. No condition.
-/
import Derived.Test.YtodcjhckkbmikaaDoorRows
namespace Go.Proofs.YtodcjhckkbmikaaDoor.wi
open Classical
set_option linter.unusedVariables false

/-- two rising lists of the same numbers are one -/
theorem rising_ext : ∀ {a b : List Int}, a.Pairwise (· < ·) → b.Pairwise (· < ·) → (∀ x, x ∈ a ↔ x ∈ b) → a = b
  | [], [], _, _, _ => rfl
  | [], y :: b, _, _, h => by have := (h y).2 (by simp); simp at this
  | x :: a, [], _, _, h => by have := (h x).1 (by simp); simp at this
  | x :: a, y :: b, ha, hb, h => by
    obtain ⟨ha1, ha2⟩ := List.pairwise_cons.1 ha
    obtain ⟨hb1, hb2⟩ := List.pairwise_cons.1 hb
    have hxy : x = y := by
      rcases List.mem_cons.1 ((h x).1 (by simp)) with e | m
      · exact e
      · rcases List.mem_cons.1 ((h y).2 (by simp)) with e | m'
        · exact e.symm
        · have := hb1 x m; have := ha1 y m'; omega
    subst hxy
    rw [rising_ext ha2 hb2 fun z => ⟨fun hz => by
      rcases List.mem_cons.1 ((h z).1 (List.mem_cons_of_mem _ hz)) with e | m
      · subst e; have := ha1 z hz; omega
      · exact m, fun hz => by
      rcases List.mem_cons.1 ((h z).2 (List.mem_cons_of_mem _ hz)) with e | m
      · subst e; have := hb1 z hz; omega
      · exact m⟩]

/-- the least count that a window tells of -/
def low (t : Int) : Int := if t - 16 < 0 then 0 else t - 16
theorem low_nonneg (t : Int) : 0 ≤ low t := by unfold low; split <;> omega
theorem low_ge (t : Int) : t - 16 ≤ low t := by unfold low; split <;> omega

/-- one item more may stand at place k -/
def Fits (t : Int) (s : List Int) (k : Nat) : Prop := low t ≤ s.getD k 0 ∧ s.getD k 0 ≤ t - 1 ∧ (0 < k → s.getD (k - 1) 0 < s.getD k 0)
/-- the first k items may stand -/
def FitsTo (t : Int) (s : List Int) (k : Nat) : Prop := ∀ i, i < k → Fits t s i
theorem fitsTo_zero (t : Int) (s : List Int) : FitsTo t s 0 := fun i h => by omega
theorem fitsTo_succ {t : Int} {s : List Int} {k : Nat} (h : FitsTo t s k) (h' : Fits t s k) : FitsTo t s (k + 1) := fun i hi => by
  rcases Nat.lt_or_ge i k with h1 | h1
  · exact h i h1
  · obtain rfl : i = k := by omega
    exact h'
/-- what stands at least at place k -/
def leastAt (t : Int) (s : List Int) (k : Nat) : Int := if k = 0 then low t else s.getD (k - 1) 0 + 1
theorem leastAt_succ (t : Int) (s : List Int) (k : Nat) : leastAt t s (k + 1) = s.getD k 0 + 1 := by simp [leastAt]
theorem fits_iff {t : Int} {s : List Int} {k : Nat} (h : FitsTo t s k) : Fits t s k ↔ leastAt t s k ≤ s.getD k 0 ∧ s.getD k 0 ≤ t - 1 := by
  unfold Fits leastAt
  by_cases hk : k = 0
  · subst hk; simp
  · have := h (k - 1) (by omega)
    unfold Fits at this
    rw [if_neg hk]
    constructor
    · rintro ⟨a, b, c⟩; have := c (by omega); omega
    · rintro ⟨a, b⟩; exact ⟨by omega, b, fun _ => by omega⟩

/-- a right window -/
def RightW (e t : Int) (s : List Int) : Prop := (0 ≤ e ∧ e ≤ 200) ∧ (-1 ≤ t ∧ t ≤ 2000) ∧ s.length ≤ 16 ∧ FitsTo t s s.length

theorem rightW_rising {e t : Int} {s : List Int} (h : RightW e t s) : s.Pairwise (· < ·) := by
  have key : ∀ i j, i < j → j < s.length → s.getD i 0 < s.getD j 0 := by
    intro i j hij
    induction j with
    | zero => omega
    | succ j ih =>
      intro hj
      have h1 := (h.2.2.2 (j + 1) hj).2.2 (by omega)
      simp only [Nat.add_sub_cancel] at h1
      rcases Nat.lt_or_ge i j with h2 | h2
      · have := ih h2 (by omega); omega
      · obtain rfl : i = j := by omega
        exact h1
  rw [List.pairwise_iff_getElem]
  intro i j hi hj hij
  have := key i j hij hj
  simpa [List.getD, List.getElem?_eq_getElem hi, List.getElem?_eq_getElem hj] using this
theorem rightW_mem {e t : Int} {s : List Int} (h : RightW e t s) {x : Int} (hx : x ∈ s) : low t ≤ x ∧ x ≤ t - 1 := by
  obtain ⟨i, hi, rfl⟩ := List.mem_iff_getElem.1 hx
  have := h.2.2.2 i hi
  unfold Fits at this
  simp only [List.getD, List.getElem?_eq_getElem hi, Option.getD_some] at this
  exact ⟨this.1, this.2.1⟩

/-- a number at its place in a rising list -/
def ins (n : Int) : List Int → List Int
  | [] => [n]
  | x :: r => if n < x then n :: x :: r else x :: ins n r
theorem mem_ins {n x : Int} : ∀ {s : List Int}, x ∈ ins n s ↔ x = n ∨ x ∈ s
  | [] => by simp [ins]
  | y :: r => by
    unfold ins
    split
    · simp
    · simp only [List.mem_cons, mem_ins (s := r)]
      constructor
      · rintro (h | h | h) <;> simp [h]
      · rintro (h | h | h) <;> simp [h]
theorem ins_rising {n : Int} : ∀ {s : List Int}, s.Pairwise (· < ·) → n ∉ s → (ins n s).Pairwise (· < ·)
  | [], _, _ => by simp [ins]
  | y :: r, h, hn => by
    obtain ⟨h1, h2⟩ := List.pairwise_cons.1 h
    unfold ins
    split
    · rename_i hlt
      refine List.pairwise_cons.2 ⟨fun z hz => ?_, h⟩
      rcases List.mem_cons.1 hz with rfl | hz
      · exact hlt
      · have := h1 z hz; omega
    · rename_i hlt
      refine List.pairwise_cons.2 ⟨fun z hz => ?_, ins_rising h2 (fun hh => hn (List.mem_cons_of_mem _ hh))⟩
      rcases mem_ins.1 hz with rfl | hz
      · have : z ≠ y := fun e => hn (by simp [e])
        omega
      · exact h1 z hz

/-- what a window tells besides its top, behind a count that it has taken -/
def newSeen (t : Int) (s : List Int) (c : Int) : List Int := (if min c t < 0 then s else ins (min c t) s).filter fun x => decide (max c t - 16 ≤ x)
theorem newSeen_rising {e t : Int} {s : List Int} {c : Int} (h : RightW e t s) (hc : c ≠ t ∧ c ∉ s) : (newSeen t s c).Pairwise (· < ·) := by
  unfold newSeen
  refine List.Pairwise.filter _ ?_
  split
  · exact rightW_rising h
  · refine ins_rising (rightW_rising h) fun hm => ?_
    have := rightW_mem h hm
    rcases Int.le_total c t with h1 | h1
    · rw [Int.min_eq_left h1] at hm; exact hc.2 hm
    · rw [Int.min_eq_right h1] at this; omega
theorem mem_newSeen {t : Int} {s : List Int} {c x : Int} : x ∈ newSeen t s c ↔ (x ∈ s ∨ (x = min c t ∧ 0 ≤ min c t)) ∧ max c t - 16 ≤ x := by
  unfold newSeen
  rw [List.mem_filter]
  simp only [decide_eq_true_eq]
  refine and_congr_left fun _ => ?_
  split
  · rename_i h
    exact ⟨.inl, fun h' => h'.elim id fun h'' => by omega⟩
  · rename_i h
    rw [mem_ins]
    exact ⟨fun h' => h'.elim (fun e => .inr ⟨e, by omega⟩) .inl, fun h' => h'.elim .inr fun h'' => .inl h''.1⟩
/-- a rising list of what the program's map still holds is that -/
theorem newSeen_of_mem {e t : Int} {s : List Int} {c : Int} (h : RightW e t s) (h0 : 0 ≤ c) (hc : c ≠ t ∧ c ∉ s) {L : List Int} (hL : L.Pairwise (· < ·))
    (hm : ∀ x, x ∈ L ↔ ((x ∈ s ∨ (x = t ∧ t ≠ -1) ∨ x = c) ∧ ¬ x < max c t - 16) ∧ x ≠ max c t) : L = newSeen t s c := by
  refine rising_ext hL (newSeen_rising h hc) fun x => ?_
  rw [hm, mem_newSeen]
  have ht := h.2.1
  constructor
  · rintro ⟨⟨h1, h2⟩, h3⟩
    refine ⟨?_, by omega⟩
    rcases h1 with h1 | ⟨rfl, h1⟩ | rfl
    · exact .inl h1
    · right; omega
    · right; omega
  · rintro ⟨h1, h2⟩
    rcases h1 with h1 | ⟨rfl, h1⟩
    · have := rightW_mem h h1
      exact ⟨⟨.inl h1, by omega⟩, by omega⟩
    · refine ⟨⟨?_, by omega⟩, by omega⟩
      right
      rcases Int.le_total c t with h3 | h3
      · right; omega
      · left; omega

/-- the model's way: a number put behind others, if it is not too old -/
def putL (l : List Int) (n t : Int) : List Int := if n < t - 16 then l else l ++ [n]
/-- the model's way, behind the first k items -/
def stepL (lo T : Int) : List Int → Bool → List Int → List Int × Bool
  | l, d, [] => (l, d)
  | l, d, x :: r => if d = false ∧ lo < x then stepL lo T (putL (putL l lo T) x T) true r else stepL lo T (putL l x T) d r
def endL (lo T : Int) (s : List Int) : List Int :=
  let p := stepL lo T [] (decide (lo < 0)) s
  if p.2 then p.1 else putL p.1 lo T

theorem putL_filter (l : List Int) (n t : Int) : putL l n t = l ++ [n].filter fun x => decide (t - 16 ≤ x) := by
  unfold putL
  split
  · rename_i h; simp; omega
  · rename_i h; rw [List.filter_cons_of_pos (by simp; omega)]; simp
theorem stepL_done (lo T : Int) : ∀ (r l : List Int), stepL lo T l true r = (l ++ r.filter fun x => decide (T - 16 ≤ x), true)
  | [], l => by simp [stepL]
  | x :: r, l => by
    unfold stepL
    rw [if_neg (by simp), stepL_done lo T r, putL_filter, List.append_assoc, ← List.filter_append]
    rfl
theorem stepL_open (lo T : Int) : ∀ (r l : List Int), (if (stepL lo T l false r).2 then (stepL lo T l false r).1 else putL (stepL lo T l false r).1 lo T) = l ++ (ins lo r).filter fun x => decide (T - 16 ≤ x)
  | [], l => by simp [stepL, ins, putL_filter]
  | x :: r, l => by
    by_cases h : lo < x
    · have e : stepL lo T l false (x :: r) = stepL lo T (putL (putL l lo T) x T) true r := by rw [stepL, if_pos ⟨rfl, h⟩]
      have e' : ins lo (x :: r) = lo :: x :: r := by rw [ins, if_pos h]
      rw [e, e', stepL_done, putL_filter, putL_filter]
      simp only [if_true]
      rw [List.append_assoc, List.append_assoc, ← List.filter_append, ← List.filter_append]
      rfl
    · have e : stepL lo T l false (x :: r) = stepL lo T (putL l x T) false r := by rw [stepL, if_neg (fun hh => h hh.2)]
      have e' : ins lo (x :: r) = x :: ins lo r := by rw [ins, if_neg h]
      rw [e, e', stepL_open lo T r, putL_filter, List.append_assoc, ← List.filter_append]
      rfl
theorem endL_eq (t : Int) (s : List Int) (c : Int) : endL (min c t) (max c t) s = newSeen t s c := by
  unfold endL newSeen
  by_cases h : min c t < 0
  · simp only [h, decide_true, if_true, stepL_done]
    simp
  · simp only [h, decide_false, if_false]
    have := stepL_open (min c t) (max c t) s []
    simpa using this
/-- behind one item more -/
theorem stepL_snoc (lo T : Int) (x : Int) : ∀ (s l : List Int) (d : Bool), stepL lo T l d (s ++ [x]) = (if (stepL lo T l d s).2 = false ∧ lo < x then (putL (putL (stepL lo T l d s).1 lo T) x T, true) else (putL (stepL lo T l d s).1 x T, (stepL lo T l d s).2))
  | [], l, d => rfl
  | y :: r, l, d => by
    simp only [List.cons_append]
    by_cases h : d = false ∧ lo < y
    · rw [stepL, if_pos h, stepL, if_pos h, stepL_snoc lo T x r]
    · rw [stepL, if_neg h, stepL, if_neg h, stepL_snoc lo T x r]
theorem putL_length (l : List Int) (n t : Int) : (putL l n t).length ≤ l.length + 1 := by unfold putL; split <;> simp
theorem stepL_length (lo T : Int) : ∀ (s l : List Int) (d : Bool), (stepL lo T l d s).1.length ≤ l.length + s.length + (if d then 0 else 1)
  | [], l, d => by simp [stepL]
  | x :: r, l, d => by
    unfold stepL
    split
    · rename_i h
      have h1 := stepL_length lo T r (putL (putL l lo T) x T) true
      have h2 := putL_length (putL l lo T) x T
      have h3 := putL_length l lo T
      simp only [h.1, List.length_cons, if_true, Bool.false_eq_true, if_false] at *
      omega
    · have h1 := stepL_length lo T r (putL l x T) d
      have h2 := putL_length l x T
      simp only [List.length_cons]
      omega
end Go.Proofs.YtodcjhckkbmikaaDoor.wi
