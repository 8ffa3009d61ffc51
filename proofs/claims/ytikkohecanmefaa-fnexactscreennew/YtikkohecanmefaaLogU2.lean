/-
  Slices of texts in the law's hands: a slice's places are marked, looked at again. No condition.
-/
import Derived.Test.YtikkohecanmefaaLogU
import Derived.Laws.AppendOwnNone
import Derived.OwnWalk
namespace Go.Proofs.Ytikkohecanmefaa.ss
open Go.ChangeShapes Go.WideShapes Go.ChangeAt Go.RowKit
open Go.Proofs.Ytikkohecanmefaa.wi (heap_lt calls_w wp_w)
set_option linter.unusedVariables false

/-- a block whose first places are these texts -/
def RowAt (u : World) (g cap : Nat) (l : List ByteArray) : Prop := l.length ≤ cap ∧ ∃ cur, u.heap[g]? = some (.cells cur 9 (0, 0)) ∧ cur.size = cap ∧ cur.toList.take l.length = l.map Value.string
theorem RowAt.set {u : World} {g cap : Nat} {l : List ByteArray} (h : RowAt u g cap l) (k : Nat) (x : ByteArray) : RowAt (u.setCell ⟨g, k, none⟩ (.string x)) g cap (l.set k x) := by
  obtain ⟨hc, cur, h1, h2, h3⟩ := h
  refine ⟨by simpa using hc, _, heap_setCell_same _ _ _ _ _ _ h1, by simp [h2], ?_⟩
  simp only [Array.toList_setIfInBounds, List.length_set, List.map_set]
  rw [List.take_set, h3]
theorem RowAt.cell {u : World} {g cap : Nat} {l : List ByteArray} (h : RowAt u g cap l) {k : Nat} (hk : k < l.length) : u.cell? ⟨g, k, none⟩ = some (.string (l.getD k ⟨#[]⟩)) := by
  obtain ⟨hc, cur, h1, h2, h3⟩ := h
  have e1 : cur.toList[k]? = some (.string (l.getD k ⟨#[]⟩)) := by
    have := congrArg (fun z => z[k]?) h3
    simp only [List.getElem?_take, if_pos hk, List.getElem?_map] at this
    rw [this]
    simp [List.getD, List.getElem?_eq_getElem hk]
  rw [Array.getElem?_toList] at e1
  simp [World.cell?, h1, e1]
theorem RowAt.frozen {u : World} {g cap : Nat} {l : List ByteArray} (h : RowAt u g cap l) (k : Nat) : u.frozen? ⟨g, k, none⟩ = false := by
  obtain ⟨_, cur, h1, _⟩ := h
  exact frozen_of_row _ _ _ _ _ h1
theorem RowAt.up {u u' : World} {g cap : Nat} {l : List ByteArray} (h : RowAt u g cap l) (hb : Below u.heap.size u u') : RowAt u' g cap l := by
  obtain ⟨h0, cur, h1, h2⟩ := h
  exact ⟨h0, cur, (hb.block _ (heap_lt h1)).trans h1, h2⟩
theorem RowAt.of {u : World} {base : Nat} {v : Value} {l : List ByteArray} (h : u.ownsRow base 9 1 v l.length (l.map Value.string)) : (v = .slice none 0 0 ∧ l = []) ∨ ∃ g cap, v = .slice (some ⟨g, 0, none⟩) l.length cap ∧ base ≤ g ∧ cap ≤ maxLen ∧ RowAt u g cap l := by
  obtain ⟨h0, h1 | ⟨g, cap, cur, hv, hb, hg, h2, h3, h4, h5⟩⟩ := h
  · exact .inl ⟨h1.1, List.length_eq_zero_iff.1 h1.2⟩
  · exact .inr ⟨g, cap, hv, hb, h3, h2, cur, hg, by simpa using h4, by simpa using h5⟩
theorem RowAt.row {u : World} {base g cap : Nat} {l : List ByteArray} (h : RowAt u g cap l) (hb : base ≤ g) (hc : cap ≤ maxLen) : u.ownsRow base 9 1 (.slice (some ⟨g, 0, none⟩) l.length cap) l.length (l.map Value.string) := by
  obtain ⟨h0, cur, h1, h2, h3⟩ := h
  exact ⟨by simp, .inr ⟨g, cap, cur, rfl, hb, h1, h0, hc, by simpa using h2, by simpa using h3⟩⟩
/-- marked: one, two, three .. -/
def Mk (l : List ByteArray) (k : Nat) : Prop := ∀ j, j < k → l.getD j ⟨#[]⟩ = markT (j + 1)
theorem Mk.zero (l : List ByteArray) : Mk l 0 := fun j h => absurd h (by omega)
theorem Mk.set {l : List ByteArray} {k : Nat} (h : Mk l k) (hk : k < l.length) : Mk (l.set k (markT (k + 1))) (k + 1) := by
  intro j hj
  by_cases e : j = k
  · subst e
    simp [List.getD, hk]
  · have := h j (by omega)
    simpa [List.getD, List.getElem?_set, Ne.symm e] using this
/-- what marking leaves: the block's places are marked, and no other block has turned -/
structure Marked (w : World) (g cap : Nat) (n : Nat) (k : Nat) (u : World) : Prop where
  grown : w.grownBy u (some g)
  row : ∃ l : List ByteArray, l.length = n ∧ Mk l k ∧ RowAt u g cap l
theorem grownBy_setCell {u w : World} {g k : Nat} {v : Value} (h : w.grownBy u (some g)) : w.grownBy (u.setCell ⟨g, k, none⟩ v) (some g) :=
  ⟨h.os, h.tape, h.output, by have := h.size; simpa [World.setCell] using this, fun j hj hne => (heap_setCell_other _ _ _ _ (fun hh => hne (by rw [hh]))).trans (h.block j hj hne)⟩
theorem grownBy_up {u u' w : World} {row : Option Nat} (h : w.grownBy u row) (hb : Below u.heap.size u u') : w.grownBy u' row :=
  ⟨hb.os.trans h.os, hb.tape.trans h.tape, hb.output.trans h.output, Nat.le_trans h.size hb.size, fun j hj hne => (hb.block j (Nat.lt_of_lt_of_le hj h.size)).trans (h.block j hj hne)⟩
theorem Marked.up {w u u' : World} {g cap n k : Nat} (h : Marked w g cap n k u) (hb : Below u.heap.size u u') : Marked w g cap n k u' := by
  obtain ⟨hg, l, hl, hm, hr⟩ := h
  exact ⟨grownBy_up hg hb, l, hl, hm, hr.up hb⟩
theorem Marked.step {w u : World} {g cap n k : Nat} (h : Marked w g cap n k u) (hk : k < n) : Marked w g cap n (k + 1) (u.setCell ⟨g, k, none⟩ (.string (markT (k + 1)))) := by
  obtain ⟨hg, l, hl, hm, hr⟩ := h
  exact ⟨grownBy_setCell hg, _, by simpa using hl, hm.set (by omega), hr.set _ _⟩
theorem Marked.at {w u : World} {g cap n k : Nat} (h : Marked w g cap n k u) (j : Nat) (hj : j < n) : (∃ x, u.cell? ⟨g, j, none⟩ = some (.string x)) ∧ u.frozen? ⟨g, j, none⟩ = false := by
  obtain ⟨hg, l, hl, hm, hr⟩ := h
  exact ⟨⟨_, hr.cell (by omega)⟩, hr.frozen _⟩
set_option maxRecDepth 20000 in
set_option maxHeartbeats 8000000 in
theorem markTexts_row (g cap : Nat) (l : List ByteArray) (w : World) (hl : l.length ≤ 1048576) (hr : RowAt w g cap l) :
    Calls Try.prog 51 #[.slice (some ⟨g, 0, none⟩) l.length cap, .int .i64 1] w fun r w' => r = .returned (.int .i64 ((l.length : Int) + 1)) ∧ Marked w g cap l.length l.length w' := by
  have H0 : Hid (Marked w g cap l.length 0 w) := ⟨⟨rfl, rfl, rfl, Nat.le_refl _, fun _ _ _ => rfl⟩, l, rfl, Mk.zero l, hr⟩
  clear hr
  obtain ⟨n, hn⟩ : ∃ n, n = l.length := ⟨_, rfl⟩
  rw [← hn] at hl H0 ⊢
  clear hn
  go_enter Try.func51, Try.ntmps51
  go_wp2
  go_loopw [1, 5] (fun kk i u => ∃ k : Nat, k ≤ n ∧ i = .int .i64 k ∧ kk = .int .i64 ((k : Int) + 1) ∧ Hid (Marked w g cap n k u)) (fun _ i _ => n - (intOf i).toNat)
  case atStart => exact ⟨0, Nat.zero_le _, rfl, rfl, H0⟩
  case round =>
    clear H0
    obtain ⟨k, hk, rfl, rfl, HM⟩ := hrel
    by_cases hlt : k < n
    · have HT : Hid (∀ u, Calls Try.prog 67 #[.int .i64 ((k : Int) + 1)] u fun r w' => r = .returned (.string (markT (k + 1))) ∧ Below u.heap.size u w') := fun u => by
        have := markText_any (k + 1) u (by omega) (by omega)
        rwa [Int.natCast_add] at this
      obtain ⟨z, hz⟩ : ∃ z, z = markT (k + 1) := ⟨_, rfl⟩
      have HS : Hid (∀ u, Marked w g cap n k u → Marked w g cap n (k + 1) (u.setCell ⟨g, k, none⟩ (.string z))) := fun u h => by rw [hz]; exact h.step hlt
      rw [← hz] at HT
      clear hz
      go_wp2_with (go_at_call 67; fail)
      refine (HT.out wr).mono ?_
      rintro r w1 ⟨rfl, hb1⟩
      have hM := HM.out.up hb1
      obtain ⟨⟨x, c1⟩, f1⟩ := hM.at k hlt
      have HS2 : Hid (Marked w g cap n (k + 1) (w1.setCell ⟨g, k, none⟩ (.string z))) := HS.out w1 hM
      clear HM hM hb1 HT HS
      go_wp2
      refine ⟨⟨k + 1, by omega, by go_num, by go_num, ?_⟩, by simp [intOf]; omega⟩
      first | exact HS2 | (simpa using HS2)
    · obtain rfl : k = n := by omega
      go_wp2
      go_ret
      exact ⟨rfl, HM.out⟩

/-- a slice that is owned, wherever -/
def Own (u : World) (v : Value) (l : List ByteArray) : Prop := u.ownsRow 0 9 1 v l.length (l.map Value.string)
/-- what marking leaves of an owned slice -/
def MarkPost (w : World) (v : Value) (n : Nat) (r : Ending) (w' : World) : Prop := r = .returned (.int .i64 ((n : Int) + 1)) ∧ w.grownBy w' v.ownBlock ∧ ∃ l' : List ByteArray, l'.length = n ∧ Mk l' n ∧ Own w' v l'
set_option maxHeartbeats 8000000 in
theorem markTexts_any (v : Value) (l : List ByteArray) (w : World) (hl : l.length ≤ 1048576) (h : Own w v l) : Calls Try.prog 51 #[v, .int .i64 1] w (MarkPost w v l.length) := by
  rcases RowAt.of h with ⟨rfl, rfl⟩ | ⟨g, cap, rfl, _, hc, hr⟩
  · have HP : Hid (MarkPost w (.slice none 0 0) 0 (.returned (.int .i64 1)) w) := ⟨rfl, ⟨rfl, rfl, rfl, Nat.le_refl _, fun _ _ _ => rfl⟩, [], rfl, Mk.zero _, h⟩
    clear h
    go_enter Try.func51, Try.ntmps51
    go_wp2
    refine wp_loop_rounds 1 ?_
    rw [rounds_succ]
    go_wp2
    go_ret
    exact HP.out
  · refine (markTexts_row g cap l w hl hr).mono ?_
    rintro r w' ⟨rfl, hg, l', hl', hm, hr'⟩
    refine ⟨rfl, hg, l', hl', hm, ?_⟩
    rw [← hl']
    exact hr'.row (Nat.zero_le _) hc
set_option maxRecDepth 20000 in
set_option maxHeartbeats 8000000 in
theorem heldTexts_any (v : Value) (l : List ByteArray) (w : World) (hl : l.length ≤ 1048576) (h : Own w v l) (hm : Mk l l.length) : Calls Try.prog 63 #[v, .int .i64 1] w fun r w' => r = .returned (.int .i64 ((l.length : Int) + 1)) ∧ Below w.heap.size w w' := by
  have HB : Hid (Below w.heap.size w w) := Below.refl _ _
  rcases RowAt.of h with ⟨rfl, rfl⟩ | ⟨g, cap, rfl, _, hc, hr⟩
  · clear h
    go_enter Try.func63, Try.ntmps63
    go_wp2
    refine wp_loop_rounds 1 ?_
    rw [rounds_succ]
    go_wp2
    go_ret
    exact ⟨rfl, HB.out⟩
  · have HC : Hid (∀ u, Below w.heap.size w u → ∀ k, k < l.length → u.cell? ⟨g, k, none⟩ = some (.string (markT (k + 1)))) := fun u hu k hk => by rw [(hr.up hu).cell hk, hm k hk]
    clear h hr hm
    obtain ⟨n, hn⟩ : ∃ n, n = l.length := ⟨_, rfl⟩
    rw [← hn] at hl HC ⊢
    clear hn
    go_enter Try.func63, Try.ntmps63
    go_wp2
    go_loopw [1, 5] (fun kk i u => ∃ k : Nat, k ≤ n ∧ i = .int .i64 k ∧ kk = .int .i64 ((k : Int) + 1) ∧ Hid (Below w.heap.size w u)) (fun _ i _ => n - (intOf i).toNat)
    case atStart => exact ⟨0, Nat.zero_le _, rfl, rfl, HB⟩
    case round =>
      obtain ⟨k, hk, rfl, rfl, HU⟩ := hrel
      by_cases hlt : k < n
      · have HT : Hid (∀ u, Calls Try.prog 67 #[.int .i64 ((k : Int) + 1)] u fun r w' => r = .returned (.string (markT (k + 1))) ∧ Below u.heap.size u w') := fun u => by
          have := markText_any (k + 1) u (by omega) (by omega)
          rwa [Int.natCast_add] at this
        obtain ⟨z, hz⟩ : ∃ z, z = markT (k + 1) := ⟨_, rfl⟩
        have HC2 : Hid (∀ u, Below w.heap.size w u → u.cell? ⟨g, k, none⟩ = some (.string z)) := fun u hu => by rw [hz]; exact HC.out u hu k hlt
        rw [← hz] at HT
        have c1 := HC2.out wr HU.out
        have dz : (z.toList == z.toList) = true := by simp
        have HUX : Hid (∀ u u', Below wr.heap.size wr u → Below u.heap.size u u' → Below w.heap.size w u') := fun u u' h1 h2 => (HU.out.trans (h1.mono HU.out.size)).trans (h2.mono (Nat.le_trans HU.out.size h1.size))
        clear hz HC
        go_wp2
        go_region_with (go_at_call 67; (refine (HT.out _).mono ?_); rintro r w1 ⟨rfl, hb1⟩; have hU1 := HUX.out _ _ (by repeat (first | exact Below.refl _ _ | apply Below.drew)) hb1; have c2 := HC2.out w1 hU1; clear hb1)
        all_goals
          have HU2 : Hid (Below w.heap.size w w1) := hU1
          clear hU1 HT HC2 HUX
          go_wp2
          refine ⟨⟨k + 1, by omega, by go_num, by go_num, ?_⟩, by simp [intOf]; omega⟩
          first | exact HU2 | exact HU2.out.drew | exact HU2.out.drew.drew
      · obtain rfl : k = n := by omega
        go_wp2
        go_ret
        exact ⟨rfl, HU.out⟩
end Go.Proofs.Ytikkohecanmefaa.ss
