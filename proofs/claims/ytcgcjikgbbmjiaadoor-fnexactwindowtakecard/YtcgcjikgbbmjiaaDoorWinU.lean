/-
  Windows in the law's hands: a slice's places are marked, looked at again, two answers are compared. No condition.
-/
import Derived.Test.YtcgcjikgbbmjiaaDoorWinT
import Derived.Test.YtcgcjikgbbmjiaaDoorPutM
namespace Go.Proofs.YtcgcjikgbbmjiaaDoor.wi
open Go.ChangeShapes Go.WideShapes Go.ChangeAt Go.RowKit
set_option linter.unusedVariables false

theorem infoWO' : (Tryd.prog.info? 35).map (·.size) = some 4 := by kernel_rfl

/-- a block whose first places are these numbers -/
def RowAt (u : World) (g cap : Nat) (l : List Int) : Prop := l.length ≤ cap ∧ ∃ cur, u.heap[g]? = some (.cells cur 2 (0, 0)) ∧ cur.size = cap ∧ cur.toList.take l.length = l.map (Value.int .i64)
theorem RowAt.set {u : World} {g cap : Nat} {l : List Int} (h : RowAt u g cap l) (k : Nat) (x : Int) : RowAt (u.setCell ⟨g, k, none⟩ (.int .i64 x)) g cap (l.set k x) := by
  obtain ⟨hc, cur, h1, h2, h3⟩ := h
  refine ⟨by simpa using hc, _, heap_setCell_same _ _ _ _ _ _ h1, by simp [h2], ?_⟩
  simp only [Array.toList_setIfInBounds, List.length_set, List.map_set]
  rw [List.take_set, h3]
theorem RowAt.cell {u : World} {g cap : Nat} {l : List Int} (h : RowAt u g cap l) {k : Nat} (hk : k < l.length) : u.cell? ⟨g, k, none⟩ = some (.int .i64 (l.getD k 0)) := by
  obtain ⟨hc, cur, h1, h2, h3⟩ := h
  have e1 : cur.toList[k]? = some (.int .i64 (l.getD k 0)) := by
    have := congrArg (fun z => z[k]?) h3
    simp only [List.getElem?_take, if_pos hk, List.getElem?_map] at this
    rw [this]
    simp [List.getD, List.getElem?_eq_getElem hk]
  rw [Array.getElem?_toList] at e1
  simp [World.cell?, h1, e1]
theorem RowAt.frozen {u : World} {g cap : Nat} {l : List Int} (h : RowAt u g cap l) (k : Nat) : u.frozen? ⟨g, k, none⟩ = false := by
  obtain ⟨_, cur, h1, _⟩ := h
  exact frozen_of_row _ _ _ _ _ h1
theorem RowAt.drewN {u : World} {g cap : Nat} {l : List Int} (h : RowAt u g cap l) (n : Nat) : RowAt (u.drewN n) g cap l := h
theorem RowAt.of {u : World} {base : Nat} {v : Value} {l : List Int} (h : u.ownsRow base 2 1 v l.length (l.map (Value.int .i64))) : (v = .slice none 0 0 ∧ l = []) ∨ ∃ g cap, v = .slice (some ⟨g, 0, none⟩) l.length cap ∧ base ≤ g ∧ cap ≤ maxLen ∧ RowAt u g cap l := by
  obtain ⟨h0, h1 | ⟨g, cap, cur, hv, hb, hg, h2, h3, h4, h5⟩⟩ := h
  · exact .inl ⟨h1.1, List.length_eq_zero_iff.1 h1.2⟩
  · exact .inr ⟨g, cap, hv, hb, h3, h2, cur, hg, by simpa using h4, by simpa using h5⟩
theorem RowAt.row {u : World} {base g cap : Nat} {l : List Int} (h : RowAt u g cap l) (hb : base ≤ g) (hc : cap ≤ maxLen) : u.ownsRow base 2 1 (.slice (some ⟨g, 0, none⟩) l.length cap) l.length (l.map (Value.int .i64)) := by
  obtain ⟨h0, cur, h1, h2, h3⟩ := h
  exact ⟨by simp, .inr ⟨g, cap, cur, rfl, hb, h1, h0, hc, by simpa using h2, by simpa using h3⟩⟩
theorem Blk.rowAt {u : World} {g : Nat} {s : List Int} (h : Blk u g s) : RowAt u g s.length s := ⟨Nat.le_refl _, _, h, by simp [cells], by simp only [cells, List.toList_toArray]; exact List.take_of_length_le (by simp)⟩

/-- marked: one, two, three .. -/
def Mk (l : List Int) (k : Nat) : Prop := ∀ j, j < k → l.getD j 0 = (j : Int) + 1
theorem Mk.zero (l : List Int) : Mk l 0 := fun j h => absurd h (by omega)
theorem Mk.set {l : List Int} {k : Nat} (h : Mk l k) (hk : k < l.length) : Mk (l.set k ((k : Int) + 1)) (k + 1) := by
  intro j hj
  by_cases e : j = k
  · subst e
    simp [List.getD, hk]
  · have := h j (by omega)
    simpa [List.getD, List.getElem?_set, Ne.symm e] using this

/-- what marking leaves: the block's places are marked, and no other block has turned -/
structure Marked (w : World) (g cap : Nat) (n : Nat) (k : Nat) (u : World) : Prop where
  grown : w.grownBy u (some g)
  row : ∃ l : List Int, l.length = n ∧ Mk l k ∧ RowAt u g cap l
theorem grownBy_setCell {u w : World} {g k : Nat} {v : Value} (h : w.grownBy u (some g)) : w.grownBy (u.setCell ⟨g, k, none⟩ v) (some g) :=
  ⟨h.os, h.tape, h.output, by have := h.size; simpa [World.setCell] using this, fun j hj hne => (heap_setCell_other _ _ _ _ (fun hh => hne (by rw [hh]))).trans (h.block j hj hne)⟩
theorem Marked.step {w u : World} {g cap n k : Nat} (h : Marked w g cap n k u) (hk : k < n) : Marked w g cap n (k + 1) (u.setCell ⟨g, k, none⟩ (.int .i64 ((k : Int) + 1))) := by
  obtain ⟨hg, l, hl, hm, hr⟩ := h
  exact ⟨grownBy_setCell hg, _, by simpa using hl, hm.set (by omega), hr.set _ _⟩
theorem Marked.at {w u : World} {g cap n k : Nat} (h : Marked w g cap n k u) (j : Nat) (hj : j < n) : (∃ x, u.cell? ⟨g, j, none⟩ = some (.int .i64 x)) ∧ u.frozen? ⟨g, j, none⟩ = false := by
  obtain ⟨hg, l, hl, hm, hr⟩ := h
  exact ⟨⟨_, hr.cell (by omega)⟩, hr.frozen _⟩

set_option maxHeartbeats 8000000 in
theorem markInts_row (g cap : Nat) (l : List Int) (w : World) (hl : l.length ≤ 1048576) (hr : RowAt w g cap l) :
    Calls Tryd.prog 36 #[.slice (some ⟨g, 0, none⟩) l.length cap, .int .i64 1] w fun r w' => r = .returned (.int .i64 ((l.length : Int) + 1)) ∧ Marked w g cap l.length l.length w' := by
  have H0 : Hid (Marked w g cap l.length 0 w) := ⟨⟨rfl, rfl, rfl, Nat.le_refl _, fun _ _ _ => rfl⟩, l, rfl, Mk.zero l, hr⟩
  clear hr
  obtain ⟨n, hn⟩ : ∃ n, n = l.length := ⟨_, rfl⟩
  rw [← hn] at hl H0 ⊢
  clear hn
  go_enter Tryd.func36, Tryd.ntmps36
  go_wp2
  go_loopw [1, 5] (fun kk i u => ∃ k : Nat, k ≤ n ∧ i = .int .i64 k ∧ kk = .int .i64 ((k : Int) + 1) ∧ Hid (Marked w g cap n k u)) (fun _ i _ => n - (intOf i).toNat)
  case atStart => exact ⟨0, Nat.zero_le _, rfl, rfl, H0⟩
  case round =>
    clear H0
    obtain ⟨k, hk, rfl, rfl, HM⟩ := hrel
    by_cases hlt : k < n
    · obtain ⟨⟨x, c1⟩, f1⟩ := HM.out.at k hlt
      have HS : Hid (Marked w g cap n (k + 1) (wr.setCell ⟨g, k, none⟩ (.int .i64 ((k : Int) + 1)))) := HM.out.step hlt
      clear HM
      go_wp2
      refine ⟨⟨k + 1, by omega, by go_num, by go_num, ?_⟩, by simp [intOf]; omega⟩
      first | exact HS | (simpa using HS)
    · obtain rfl : k = n := by omega
      go_wp2
      go_ret
      exact ⟨rfl, HM.out⟩

/-- a slice that is owned, wherever -/
def Own (u : World) (v : Value) (l : List Int) : Prop := u.ownsRow 0 2 1 v l.length (l.map (Value.int .i64))
theorem Own.up {u u' : World} {v : Value} {l : List Int} (h : Own u v l) (hb : Below u.heap.size u u') : Own u' v l := row_up h hb
theorem Own.kept {u u' : World} {v : Value} {l : List Int} {g : Option Nat} (h : Own u v l) (hg : u.grownBy u' g) (hne : v.ownBlock = none ∨ v.ownBlock ≠ g) : Own u' v l := World.ownsRow.kept h hg hne
theorem grown_after {w u u' : World} {row : Option Nat} (hb : Below w.heap.size w u) (hg : u.grownBy u' row) : w.grownBy u' row :=
  ⟨hg.os.trans hb.os, hg.tape.trans hb.tape, hg.output.trans hb.output, Nat.le_trans hb.size hg.size, fun j hj hne => (hg.block j (Nat.lt_of_lt_of_le hj hb.size) hne).trans (hb.block j hj)⟩
theorem Own.slice {u : World} {v : Value} {l : List Int} (h : Own u v l) : SliceIs u v l := by
  rcases RowAt.of h with ⟨rfl, rfl⟩ | ⟨g, cap, rfl, _, _, hr⟩
  · exact .inl ⟨_, _, rfl, rfl⟩
  · exact .inr ⟨g, 0, cap, by obtain ⟨_, cur, h1, _⟩ := hr; exact heap_lt h1, rfl, fun j hj => by rw [Nat.zero_add]; exact hr.cell hj⟩

/-- what marking leaves of an owned slice -/
def MarkPost (w : World) (v : Value) (n : Nat) (r : Ending) (w' : World) : Prop := r = .returned (.int .i64 ((n : Int) + 1)) ∧ w.grownBy w' v.ownBlock ∧ ∃ l' : List Int, l'.length = n ∧ Mk l' n ∧ Own w' v l'
set_option maxHeartbeats 8000000 in
theorem markInts_any (v : Value) (l : List Int) (w : World) (hl : l.length ≤ 1048576) (h : Own w v l) : Calls Tryd.prog 36 #[v, .int .i64 1] w (MarkPost w v l.length) := by
  rcases RowAt.of h with ⟨rfl, rfl⟩ | ⟨g, cap, rfl, _, hc, hr⟩
  · have HP : Hid (MarkPost w (.slice none 0 0) 0 (.returned (.int .i64 1)) w) := ⟨rfl, ⟨rfl, rfl, rfl, Nat.le_refl _, fun _ _ _ => rfl⟩, [], rfl, Mk.zero _, h⟩
    clear h
    go_enter Tryd.func36, Tryd.ntmps36
    go_wp2
    refine wp_loop_rounds 1 ?_
    rw [rounds_succ]
    go_wp2
    go_ret
    exact HP.out
  · refine (markInts_row g cap l w hl hr).mono ?_
    rintro r w' ⟨rfl, hg, l', hl', hm, hr'⟩
    refine ⟨rfl, hg, l', hl', hm, ?_⟩
    rw [← hl']
    exact hr'.row (Nat.zero_le _) hc

set_option maxHeartbeats 8000000 in
theorem markWin_any (e t : Int) (v : Value) (l : List Int) (w : World) (hl : l.length ≤ 1048576) (h : Own w v l) : Calls Tryd.prog 14 #[.agg #[.int .i64 e, .int .i64 t, v], .int .i64 1] w (MarkPost w v l.length) := by
  have HB : Hid (Below w.heap.size w (w.alloc (.cells #[.int .i64 e, .int .i64 t, v] 33))) := (Below.refl _ _).alloc (Nat.le_refl _) _
  go_enter Tryd.func14, Tryd.ntmps14
  go_wp2_with (go_at_call 36; fail)
  refine calls_w (fun u => Below w.heap.size w u) HB.out ?_
  intro u hu
  refine (markInts_any v l u hl (h.up hu)).mono ?_
  rintro r w1 ⟨rfl, hg, l', h1, h2, h3⟩
  have HP : Hid (MarkPost w v l.length (.returned (.int .i64 ((l.length : Int) + 1))) w1) := ⟨rfl, grown_after hu hg, l', h1, h2, h3⟩
  clear hu hg h2 h3
  go_wp2
  go_ret
  exact HP.out
/-- an answer's four cells -/
theorem out_cells {u : World} {q : Nat} {a b c : Int} {v : Value} (h : u.heap[q]? = some (.cells #[.int .i64 a, .int .i64 b, v, .int .i64 c] 35 (0, 0))) : u.cell? ⟨q, 0, none⟩ = some (.int .i64 a) ∧ u.cell? ⟨q, 1, none⟩ = some (.int .i64 b) ∧ u.cell? ⟨q, 2, none⟩ = some v ∧ u.cell? ⟨q, 3, none⟩ = some (.int .i64 c) := by
  refine ⟨?_, ?_, ?_, ?_⟩ <;> simp [World.cell?, h]
theorem own_shape {u : World} {v : Value} {l : List Int} (h : Own u v l) : ∃ p cap, v = .slice p l.length cap := by
  rcases RowAt.of h with ⟨rfl, rfl⟩ | ⟨g, cap, rfl, _⟩
  · exact ⟨_, _, rfl⟩
  · exact ⟨_, _, rfl⟩

set_option maxHeartbeats 8000000 in
theorem markOut_any (e t : Int) (v : Value) (c : Int) (l : List Int) (w : World) (hl : l.length ≤ 1048576) (h : Own w v l) : Calls Tryd.prog 15 #[.agg #[.int .i64 e, .int .i64 t, v, .int .i64 c], .int .i64 1] w (MarkPost w v l.length) := by
  obtain ⟨p, cap, rfl⟩ := own_shape h
  have HB : Hid (Below w.heap.size w (w.alloc (.cells #[.int .i64 e, .int .i64 t, .slice p l.length cap, .int .i64 c] 35))) := (Below.refl _ _).alloc (Nat.le_refl _) _
  go_enter Tryd.func15, Tryd.ntmps15
  go_wp2_with (go_at_call 14; fail)
  refine calls_w (fun u => Below w.heap.size w u) HB.out ?_
  intro u hu
  refine (markWin_any e t _ l u hl (h.up hu)).mono ?_
  rintro r w1 ⟨rfl, hg, l', h1, h2, h3⟩
  have HP : Hid (MarkPost w (.slice p l.length cap) l.length (.returned (.int .i64 ((l.length : Int) + 1))) w1) := ⟨rfl, grown_after hu hg, l', h1, h2, h3⟩
  clear hu hg h2 h3
  go_wp2
  go_ret
  exact HP.out

set_option maxHeartbeats 8000000 in
theorem heldInts_any (v : Value) (l : List Int) (w : World) (hl : l.length ≤ 1048576) (h : Own w v l) (hm : Mk l l.length) : Calls Tryd.prog 55 #[v, .int .i64 1] w fun r w' => r = .returned (.int .i64 ((l.length : Int) + 1)) ∧ Below w.heap.size w w' := by
  have HB : Hid (Below w.heap.size w w) := Below.refl _ _
  rcases RowAt.of h with ⟨rfl, rfl⟩ | ⟨g, cap, rfl, _, hc, hr⟩
  · clear h
    go_enter Tryd.func55, Tryd.ntmps55
    go_wp2
    refine wp_loop_rounds 1 ?_
    rw [rounds_succ]
    go_wp2
    go_ret
    exact ⟨rfl, HB.out⟩
  · have HC : Hid (∀ k, k < l.length → w.cell? ⟨g, k, none⟩ = some (.int .i64 ((k : Int) + 1))) := fun k hk => by rw [hr.cell hk, hm k hk]
    clear h hr hm
    obtain ⟨n, hn⟩ : ∃ n, n = l.length := ⟨_, rfl⟩
    rw [← hn] at hl HC ⊢
    clear hn
    go_enter Tryd.func55, Tryd.ntmps55
    go_wp2
    go_loopw [1, 5] (fun kk i u => ∃ k : Nat, k ≤ n ∧ i = .int .i64 k ∧ kk = .int .i64 ((k : Int) + 1) ∧ ∃ m, u = w.drewN m) (fun _ i _ => n - (intOf i).toNat)
    case atStart => exact ⟨0, Nat.zero_le _, rfl, rfl, 0, rfl⟩
    case round =>
      obtain ⟨k, hk, rfl, rfl, m, rfl⟩ := hrel
      have HN : Hid (Below w.heap.size w (w.drewN m)) := below_drewN HB.out m
      by_cases hlt : k < n
      · have c1 : (w.drewN m).cell? ⟨g, k, none⟩ = some (.int .i64 ((k : Int) + 1)) := HC.out k hlt
        obtain ⟨x, hx⟩ : ∃ x : Int, x = (k : Int) + 1 := ⟨_, rfl⟩
        rw [← hx] at c1 ⊢
        have hx0 : 0 ≤ x ∧ x ≤ 1048577 := by omega
        have hq : (x == x) = true := by simp
        go_wp2
        refine ⟨⟨k + 1, by omega, by go_num, by go_num, m, rfl⟩, by simp [intOf]; omega⟩
      · obtain rfl : k = n := by omega
        go_wp2
        go_ret
        exact ⟨rfl, HN.out⟩
set_option maxHeartbeats 8000000 in
theorem heldWin_any (e t : Int) (v : Value) (l : List Int) (w : World) (hl : l.length ≤ 1048576) (h : Own w v l) (hm : Mk l l.length) : Calls Tryd.prog 37 #[.agg #[.int .i64 e, .int .i64 t, v], .int .i64 1] w fun r w' => r = .returned (.int .i64 ((l.length : Int) + 1)) ∧ Below w.heap.size w w' := by
  have HB : Hid (Below w.heap.size w (w.alloc (.cells #[.int .i64 e, .int .i64 t, v] 33))) := (Below.refl _ _).alloc (Nat.le_refl _) _
  go_enter Tryd.func37, Tryd.ntmps37
  go_wp2_with (go_at_call 55; fail)
  refine calls_w (fun u => Below w.heap.size w u) HB.out ?_
  clear HB
  intro u hu
  refine (heldInts_any v l u hl (h.up hu) hm).mono ?_
  rintro r w1 ⟨rfl, hb⟩
  have HP : Hid (Below w.heap.size w w1) := hu.trans (hb.mono hu.size)
  clear hu hb h hm
  go_wp2
  go_ret
  exact ⟨rfl, HP.out⟩
set_option maxHeartbeats 8000000 in
theorem heldOut_any (e t : Int) (v : Value) (c : Int) (l : List Int) (w : World) (hl : l.length ≤ 1048576) (h : Own w v l) (hm : Mk l l.length) : Calls Tryd.prog 16 #[.agg #[.int .i64 e, .int .i64 t, v, .int .i64 c], .int .i64 1] w fun r w' => r = .returned (.int .i64 ((l.length : Int) + 1)) ∧ Below w.heap.size w w' := by
  obtain ⟨p, cap, rfl⟩ := own_shape h
  have HB : Hid (Below w.heap.size w (w.alloc (.cells #[.int .i64 e, .int .i64 t, .slice p l.length cap, .int .i64 c] 35))) := (Below.refl _ _).alloc (Nat.le_refl _) _
  go_enter Tryd.func16, Tryd.ntmps16
  go_wp2_with (go_at_call 37; fail)
  refine calls_w (fun u => Below w.heap.size w u) HB.out ?_
  clear HB
  intro u hu
  refine (heldWin_any e t _ l u hl (h.up hu) hm).mono ?_
  rintro r w1 ⟨rfl, hb⟩
  have HP : Hid (Below w.heap.size w w1) := hu.trans (hb.mono hu.size)
  clear hu hb h hm
  go_wp2
  go_ret
  exact ⟨rfl, HP.out⟩
set_option maxHeartbeats 8000000 in
theorem eqOut_any (e t : Int) (va vb : Value) (c : Int) (l : List Int) (w : World) (hl : l.length ≤ maxLen) (ha : Own w va l) (hb : Own w vb l) : Calls Tryd.prog 12 #[.agg #[.int .i64 e, .int .i64 t, va, .int .i64 c], .agg #[.int .i64 e, .int .i64 t, vb, .int .i64 c]] w fun r w' => r = .returned (.bool true) ∧ Below w.heap.size w w' := by
  obtain ⟨pa, ca, rfl⟩ := own_shape ha
  obtain ⟨pb, cb, rfl⟩ := own_shape hb
  obtain ⟨n, hn⟩ : ∃ n, n = l.length := ⟨_, rfl⟩
  have HE : Hid (∀ u, Below w.heap.size w u → Calls Tryd.prog 13 #[.agg #[.int .i64 e, .int .i64 t, .slice pa n ca], .agg #[.int .i64 e, .int .i64 t, .slice pb n cb]] u fun r w' => r = .returned (.bool true) ∧ Below u.heap.size u w') := fun u hu => by
    rw [hn]; exact eqWin_any e t _ _ l u hl (ha.up hu).slice (hb.up hu).slice
  rw [← hn]
  clear ha hb hn
  have HB : Hid (Below w.heap.size w ((w.alloc (.cells #[.int .i64 e, .int .i64 t, .slice pa n ca, .int .i64 c] 35)).alloc (.cells #[.int .i64 e, .int .i64 t, .slice pb n cb, .int .i64 c] 35))) := ((Below.refl _ _).alloc (Nat.le_refl _) _).alloc (by simp) _
  go_enter Tryd.func12, Tryd.ntmps12
  go_wp2_with (go_at_call 13; fail)
  refine calls_w (fun u => Below w.heap.size w u ∧ u.heap[w.heap.size]? = some (.cells #[.int .i64 e, .int .i64 t, .slice pa n ca, .int .i64 c] 35 (0, 0)) ∧ u.heap[w.heap.size + 1]? = some (.cells #[.int .i64 e, .int .i64 t, .slice pb n cb, .int .i64 c] 35 (0, 0))) ⟨HB.out, (Below.heap_alloc _ _ _ (by simp)).trans (heap_alloc_new _ _), heap_alloc2_new _ _ _⟩ ?_
  clear HB
  rintro u ⟨hu, ha, hb⟩
  refine (HE.out u hu).mono ?_
  rintro r w1 ⟨rfl, hb1⟩
  obtain ⟨_, _, _, x3⟩ := out_cells ((hb1.block _ (heap_lt ha)).trans ha)
  obtain ⟨_, _, _, y3⟩ := out_cells ((hb1.block _ (heap_lt hb)).trans hb)
  have HP : Hid (Below w.heap.size w w1) := hu.trans (hb1.mono hu.size)
  have hq : (c == c) = true := by simp
  clear hu ha hb hb1 HE
  go_wp2
  go_ret
  exact ⟨rfl, HP.out⟩
end Go.Proofs.YtcgcjikgbbmjiaaDoor.wi
