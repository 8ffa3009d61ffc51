/-
  The program's lastClash: the last two texts that are not the same though the chains behind them are; no old block turns. Condition: the table of the rounds' numbers lies in its variable.
-/
import Derived.Test.YtjnlffdopbfelabDoorLgCl
import Derived.Test.YtjnlffdopbfelabDoorLgGw
import Derived.Test.YtjnlffdopbfelabDoorLogM
namespace Go.Proofs.YtjnlffdopbfelabDoor.li
open Go.ChangeShapes Go.WideShapes Go.ChangeAt Go.RowKit Go.Shelf
open Go.Proofs.YtjnlffdopbfelabDoor.wi (heap_lt calls_w wp_w)
open Go.Proofs.YtjnlffdopbfelabDoor.lg Go.Proofs.YtjnlffdopbfelabDoor.ss
open Go.Proofs.YtjnlffdopbfelabDoor.la
open Go.Proofs.YtjnlffdopbfelabDoor.sh (macB macB_size Tab Tab.up Tab.below Tab.lt)
set_option linter.unusedVariables false
set_option linter.unusedSimpArgs false
attribute [local go_sem] Oper.semAt_some

/-- the cells of records with their chains -/
def rec3 (key : ByteArray) (l : List ByteArray) (k : Nat) : List Value := [.string (l.getD k ⟨#[]⟩), .string (chain macB key (l.take k)), .string (chain macB key (l.take (k + 1)))]
def rowC (key : ByteArray) (l : List ByteArray) (pre : List (Fin l.length)) : List Value := pre.flatMap fun k => rec3 key l k.1
theorem rowC_snoc (key : ByteArray) (l : List ByteArray) (pre : List (Fin l.length)) (k : Fin l.length) : rowC key l (pre ++ [k]) = rowC key l pre ++ rec3 key l k.1 := by
  simp [rowC]
theorem rowC_length (key : ByteArray) (l : List ByteArray) (pre : List (Fin l.length)) : (rowC key l pre).length = pre.length * 3 := by
  unfold rowC
  induction pre with
  | nil => rfl
  | cons a t ih => rw [List.flatMap_cons, List.length_append, ih]; simp [rec3]; omega
theorem rowC_up (key : ByteArray) (l : List ByteArray) (k : Nat) : k ≤ l.length → ∀ j, j < k → ∀ i, i < 3 → (rowC key l (upF l.length k))[j * 3 + i]? = (rec3 key l j)[i]? := by
  induction k with
  | zero => intro _ j hj; omega
  | succ k ih =>
    intro hk j hj i hi
    have hl : (rowC key l (upF l.length k)).length = k * 3 := by rw [rowC_length, upF_length (by omega)]
    rw [upF_succ (by omega), rowC_snoc]
    by_cases h : j < k
    · rw [List.getElem?_append_left (by omega)]
      exact ih (by omega) j h i hi
    · obtain rfl : j = k := by omega
      rw [List.getElem?_append_right (by omega), hl, Nat.add_sub_cancel_left]
theorem rowC_all (key : ByteArray) (l : List ByteArray) {j i : Nat} (hj : j < l.length) (hi : i < 3) : (rowC key l (List.finRange l.length))[j * 3 + i]? = (rec3 key l j)[i]? := by
  rw [← upF_all]
  exact rowC_up key l l.length (Nat.le_refl _) j hj i hi
/-- what has been found, when so many have come -/
def stepC (key : ByteArray) (a b : List ByteArray) (s : ByteArray × ByteArray) (x : Fin a.length × Nat) : ByteArray × ByteArray :=
  if textC macB key a x.1.1 ≠ textC macB key b x.2 ∧ chain macB key (a.take (x.1.1 + 1)) = chain macB key (b.take (x.2 + 1)) then (textC macB key a x.1.1, textC macB key b x.2) else s
def stC (key : ByteArray) (a b : List ByteArray) (pre : List (Fin a.length)) : ByteArray × ByteArray := pre.zipIdx.foldl (stepC key a b) (⟨#[]⟩, ⟨#[]⟩)
theorem stC_snoc (key : ByteArray) (a b : List ByteArray) (pre : List (Fin a.length)) (x : Fin a.length) : stC key a b (pre ++ [x]) = stepC key a b (stC key a b pre) (x, pre.length) := by
  unfold stC
  rw [List.zipIdx_append, List.foldl_append]
  simp
theorem stC_up (key : ByteArray) (a b : List ByteArray) : ∀ k, k ≤ a.length → stC key a b (upF a.length k) = ((clashF macB key a b k).1, (clashF macB key a b k).2.1)
  | 0, _ => rfl
  | k + 1, h => by
    rw [upF_succ (by omega), stC_snoc, stC_up key a b k (by omega), upF_length (by omega)]
    unfold stepC
    by_cases hx : textC macB key a k ≠ textC macB key b k ∧ chain macB key (a.take (k + 1)) = chain macB key (b.take (k + 1))
    · rw [if_pos hx, clashF_yes hx.1 hx.2]
    · rw [if_neg hx, clashF_no hx]
theorem stC_all (key : ByteArray) (a b : List ByteArray) : stC key a b (List.finRange a.length) = ((clashF macB key a b a.length).1, (clashF macB key a b a.length).2.1) := by
  rw [← upF_all, stC_up key a b a.length (Nat.le_refl _)]
theorem three_new (u : World) (x y z : Value) (t : TypeId) : ∀ (j : Nat) (q : Value), [x, y, z][j]? = some q → (u.alloc (.cells #[x, y, z] t)).cell? ((⟨u.heap.size, 0, none⟩ : Addr).add j) = some q := by
  intro j q hj
  match j, hj with
  | 0, hj => simp at hj; subst hj; rw [Addr.add_lit]; simp
  | 1, hj => simp at hj; subst hj; rw [Addr.add_lit]; simp
  | 2, hj => simp at hj; subst hj; rw [Addr.add_lit]; simp
  | (j + 3), hj => simp at hj
theorem infoCh : (Tryd.prog.info? 46).map (fun i => (i.zero, i.size, i.bytes)) = some (some (.agg #[.string ⟨#[]⟩, .string ⟨#[]⟩, .string ⟨#[]⟩]), 3, 48) := by kernel_rfl
/-- what is known in the second loop -/
structure InL (w : World) (n₁ P2 P3 D : Nat) (p1 : Option Addr) (n c1 : Nat) (xs : List Value) (A B : ByteArray) (k : Nat) (U : World) : Prop where
  out : U.heap[P2]? = some (.cells #[.string A, .string B, .int .i64 0] 25 (0, 0))
  place : U.heap[P3]? = some (.cells #[.int .i64 (k : Int)] 3 (0, 0))
  others : U.heap[w.heap.size + 1]? = some (.cells #[.slice p1 n c1] 47 (0, 0))
  row : U.ownsRow n₁ 46 3 (.slice p1 n c1) n xs
  res : U.heap[w.heap.size]? = some (.cells #[.string ⟨#[]⟩, .string ⟨#[]⟩, .int .i64 0] 25 (0, 0))
  mark : U.heap[D]? = some (.deferred (some []))
  below : Below w.heap.size w U
theorem InL.own {w : World} {n₁ P2 P3 D : Nat} {p1 : Option Addr} {n c1 : Nat} {xs : List Value} {B : Nat} {β : Type} (hD : D < B) (h1 : w.heap.size ≤ B) (f : β → ByteArray × ByteArray) (g : β → Nat) : OwnFrom B (fun (x : β) U => InL w n₁ P2 P3 D p1 n c1 xs (f x).1 (f x).2 (g x) U) := by
  intro x X Y row hs hg hr
  have hc : ∀ k cs t m, X.heap[k]? = some (Obj.cells cs t m) → Y.heap[k]? = some (Obj.cells cs t m) := fun k cs t m hk => (hg.block k (heap_lt hk) (fun e => by
    obtain ⟨_, o, ho, hcs⟩ := hr k e.symm
    rw [hk] at ho; cases ho; cases hcs)).trans hk
  exact ⟨hc _ _ _ _ hs.out, hc _ _ _ _ hs.place, hc _ _ _ _ hs.others, own_kept hs.row hg (fun r e => (hr r e).2), hc _ _ _ _ hs.res, (hg.block D (heap_lt hs.mark) (fun e => by have := (hr D e.symm).1; omega)).trans hs.mark, ownFrom_below (β := Unit) (Nat.le_refl _) h1 () X Y row hs.below hg hr⟩
theorem InL.up {w : World} {n₁ P2 P3 D : Nat} {p1 : Option Addr} {n c1 : Nat} {xs : List Value} {A B : ByteArray} {k : Nat} {U U' : World} (h : InL w n₁ P2 P3 D p1 n c1 xs A B k U) (hb : Below U.heap.size U U') : InL w n₁ P2 P3 D p1 n c1 xs A B k U' := by
  have hc : ∀ k o, U.heap[k]? = some o → U'.heap[k]? = some o := fun k o hk => (hb.block k (heap_lt hk)).trans hk
  exact ⟨hc _ _ h.out, hc _ _ h.place, hc _ _ h.others, own_kept h.row (grown_up hb) (fun r e => by cases e), hc _ _ h.res, hc _ _ h.mark, h.below.trans (hb.mono h.below.size)⟩
theorem infoCl : (Tryd.prog.info? 25).map (·.size) = some 3 := by kernel_rfl
theorem row_apart {U : World} {n₁ : Nat} {v : Value} {n : Nat} {xs : List Value} (hr : U.ownsRow n₁ 46 3 v n xs) {P : Nat} {cs : Array Value} {t : TypeId} (ht : t ≠ 46) (hP : U.heap[P]? = some (.cells cs t (0, 0))) (k : Nat) (z : Value) : (U.setCell ⟨P, k, none⟩ z).ownsRow n₁ 46 3 v n xs := by
  refine hr.kept (row := some P) (⟨rfl, rfl, rfl, by simp [World.setCell], fun j hj hne => heap_setCell_other _ _ _ _ (fun hh => hne (by rw [hh]))⟩) ?_
  cases hv : v.ownBlock with
  | none => exact .inl rfl
  | some g =>
    right
    intro e2
    injection e2 with e2
    obtain ⟨_, cur, hc⟩ := own_block hr g hv
    rw [e2, hP] at hc
    cases hc
    exact ht rfl
theorem InL.setPlace {w : World} {n₁ P2 P3 D : Nat} {p1 : Option Addr} {n c1 : Nat} {xs : List Value} {A B : ByteArray} {k : Nat} {U : World} (h : InL w n₁ P2 P3 D p1 n c1 xs A B k U) (h1 : P3 ≠ P2) (h2 : w.heap.size + 1 < P3) (h3 : D ≠ P3) (k' : Nat) : InL w n₁ P2 P3 D p1 n c1 xs A B k' (U.setCell ⟨P3, 0, none⟩ (.int .i64 (k' : Int))) := by
  refine ⟨(heap_setCell_other _ _ _ _ (by show P2 ≠ P3; omega)).trans h.out, heap_setCell_same _ _ _ _ _ _ h.place, (heap_setCell_other _ _ _ _ (by show w.heap.size + 1 ≠ P3; omega)).trans h.others, row_apart h.row (by decide) h.place _ _, (heap_setCell_other _ _ _ _ (by show w.heap.size ≠ P3; omega)).trans h.res, (heap_setCell_other _ _ _ _ (by show D ≠ P3; omega)).trans h.mark, h.below.setCell (p := ⟨P3, 0, none⟩) (by show w.heap.size ≤ P3; omega) _⟩
theorem InL.setOut {w : World} {n₁ P2 P3 D : Nat} {p1 : Option Addr} {n c1 : Nat} {xs : List Value} {A B : ByteArray} {k : Nat} {U : World} (h : InL w n₁ P2 P3 D p1 n c1 xs A B k U) (h1 : P3 ≠ P2) (h2 : w.heap.size + 1 < P2) (h3 : D ≠ P2) (A' B' : ByteArray) : InL w n₁ P2 P3 D p1 n c1 xs A' B' k (((U.setCell ⟨P2, 0, none⟩ (.string A')).setCell ⟨P2, 1, none⟩ (.string B')).setCell ⟨P2, 2, none⟩ (.int .i64 0)) := by
  have o : ∀ (V : World) j q z, j ≠ P2 → (V.setCell ⟨P2, q, none⟩ z).heap[j]? = V.heap[j]? := fun V j q z hj => heap_setCell_other _ _ _ _ hj
  have g0 := heap_setCell_same U P2 0 _ _ (.string A') h.out
  have g1 := heap_setCell_same _ P2 1 _ _ (.string B') g0
  have g2 := heap_setCell_same _ P2 2 _ _ (.int .i64 0) g1
  refine ⟨g2, ?_, ?_, row_apart (row_apart (row_apart h.row (by decide) h.out _ _) (by decide) g0 _ _) (by decide) g1 _ _, ?_, ?_, ((h.below.setCell (p := ⟨P2, 0, none⟩) (by show w.heap.size ≤ P2; omega) _).setCell (p := ⟨P2, 1, none⟩) (by show w.heap.size ≤ P2; omega) _).setCell (p := ⟨P2, 2, none⟩) (by show w.heap.size ≤ P2; omega) _⟩
  · rw [o _ _ _ _ h1, o _ _ _ _ h1, o _ _ _ _ h1]; exact h.place
  · rw [o _ _ _ _ (by omega), o _ _ _ _ (by omega), o _ _ _ _ (by omega)]; exact h.others
  · rw [o _ _ _ _ (by omega), o _ _ _ _ (by omega), o _ _ _ _ (by omega)]; exact h.res
  · rw [o _ _ _ _ h3, o _ _ _ _ h3, o _ _ _ _ h3]; exact h.mark
theorem InL.cells {w : World} {n₁ P2 P3 D : Nat} {p1 : Option Addr} {n c1 : Nat} {xs : List Value} {A B : ByteArray} {k : Nat} {U : World} (h : InL w n₁ P2 P3 D p1 n c1 xs A B k U) : (U.cell? ⟨P2, 0, none⟩ = some (.string A) ∧ U.cell? ⟨P2, 1, none⟩ = some (.string B) ∧ U.cell? ⟨P2, 2, none⟩ = some (.int .i64 0) ∧ U.cell? ⟨P3, 0, none⟩ = some (.int .i64 (k : Int))) ∧ U.frozen? ⟨P2, 0, none⟩ = false ∧ U.frozen? ⟨P2, 1, none⟩ = false ∧ U.frozen? ⟨P2, 2, none⟩ = false ∧ U.frozen? ⟨P3, 0, none⟩ = false := by
  refine ⟨⟨?_, ?_, ?_, ?_⟩, frozen_of_row _ _ _ _ _ h.out, frozen_of_row _ _ _ _ _ h.out, frozen_of_row _ _ _ _ _ h.out, frozen_of_row _ _ _ _ _ h.place⟩ <;> simp [World.cell?, h.out, h.place]
set_option maxHeartbeats 8000000 in
set_option maxRecDepth 100000 in
theorem lastI_any (key : ByteArray) (va vb : Value) (a b : List ByteArray) (w : World) (hra : RecsL key a) (hrb : RecsL key b) (hlen : a.length = b.length) (hT : Tab w) (hva : SliceIs w va a) (hvb : SliceIs w vb b) :
    Calls Tryd.prog 21 #[.string key, va, vb] w fun e w' => e = .returned (.agg #[.string (clashF macB key a b a.length).1, .string (clashF macB key a b a.length).2.1, .int .i64 0]) ∧ Below w.heap.size w w' := by
  have hk := hra.2.1
  obtain ⟨pa, ca, rfl⟩ := hva.shape
  obtain ⟨pb, cb, rfl⟩ := hvb.shape
  refine (callsIn_wide (n := 5)).1 ?_
  refine callsIn_of_wp_marks Tryd.func21 rfl trivial ?_ rfl
  simp only [Tryd.ntmps21, List.size_toArray, List.length_cons, List.length_nil, Nat.reduceAdd, Nat.reduceSub, Array.replicate_succ, Array.replicate_zero, List.push_toArray, List.append_toArray, List.nil_append, List.cons_append]
  gi_wp2_with (refine ⟨trivial, ?_⟩; gi_at_call 27; refine (callsIn_wide.2 (chainedBy_any key pb b.length cb _)).mono ?_; rintro e w2 ⟨rfl, rfl⟩)
  obtain ⟨W0, hW0, bR0, bC, bK, bT, hsz, hB0⟩ : ∃ W0, W0 = ((((w.alloc (.cells #[.string ⟨#[]⟩, .string ⟨#[]⟩, .int .i64 0] 25)).alloc (.cells #[.slice none 0 0] 47)).alloc (boxT key)).alloc (boxL (.slice pb b.length cb))) ∧
      W0.heap[w.heap.size]? = some (.cells #[.string ⟨#[]⟩, .string ⟨#[]⟩, .int .i64 0] 25 (0, 0)) ∧ W0.heap[w.heap.size + 1]? = some (.cells #[.slice none 0 0] 47 (0, 0)) ∧ Boxed W0 (w.heap.size + 1 + 1) 9 (.string key) ∧ Boxed W0 (w.heap.size + 1 + 1 + 1) 22 (.slice pb b.length cb) ∧ W0.heap.size = w.heap.size + 4 ∧ Below w.heap.size w W0 := by
    obtain ⟨w1, hw1⟩ : ∃ w1, w1 = w.alloc (.cells #[.string ⟨#[]⟩, .string ⟨#[]⟩, .int .i64 0] 25) := ⟨_, rfl⟩
    have r1 : w1.heap[w.heap.size]? = some (.cells #[.string ⟨#[]⟩, .string ⟨#[]⟩, .int .i64 0] 25 (0, 0)) := by rw [hw1]; exact heap_alloc_new _ _
    have s1 : w1.heap.size = w.heap.size + 1 := by rw [hw1]; simp
    have b1 : Below w.heap.size w w1 := by rw [hw1]; exact (Below.refl _ _).alloc (Nat.le_refl _) _
    obtain ⟨w2, hw2⟩ : ∃ w2, w2 = w1.alloc (.cells #[.slice none 0 0] 47) := ⟨_, rfl⟩
    have r2 : w2.heap[w.heap.size + 1]? = some (.cells #[.slice none 0 0] 47 (0, 0)) := by rw [hw2, ← s1]; exact heap_alloc_new _ _
    have s2 : w2.heap.size = w.heap.size + 1 + 1 := by rw [hw2]; simp [s1]
    have b2 : Below w1.heap.size w1 w2 := by rw [hw2]; exact (Below.refl _ _).alloc (Nat.le_refl _) _
    have q1 := (b2.block _ (heap_lt r1)).trans r1
    have bK := (Boxed.new w2 9 (.string key)).alloc (boxL (.slice pb b.length cb))
    have bT := Boxed.new (w2.alloc (boxT key)) 22 (.slice pb b.length cb)
    have b3 : Below w2.heap.size w2 ((w2.alloc (boxT key)).alloc (boxL (.slice pb b.length cb))) := ((Below.refl _ _).alloc (Nat.le_refl _) _).alloc (by simp) _
    rw [World.size_alloc] at bT
    rw [s2] at bK bT
    rw [← hw1, ← hw2]
    exact ⟨_, rfl, (b3.block _ (heap_lt q1)).trans q1, (b3.block _ (heap_lt r2)).trans r2, bK, bT, by simp [s2], b1.trans ((b2.trans (b3.mono b2.size)).mono b1.size)⟩
  rw [← hW0]
  clear hW0
  have h60 := hrb.2.2
  refine wpIn_rangeFunc_ownH rfl (by omega) (gf := 32) (lb := #[.pointer (some ⟨w.heap.size + 1 + 1, 0, none⟩), .pointer (some ⟨w.heap.size + 1 + 1 + 1, 0, none⟩)]) rfl trivial (enters_of Tryd.func32 (by kernel_rfl) rfl)
    (chained_any 4 w.heap.size W0.heap.size key b (.slice pb b.length cb) (w.heap.size + 1 + 1) (w.heap.size + 1 + 1 + 1) W0 (by omega) hk hrb.1 hrb.2.2 (hT.up hB0) hT.lt (by omega) (Nat.le_refl _) bK.cell bT.cell ((SlN.of hvb).below hB0)) Kc.trans (fun W l' o o' hl ho hc _ => Kc.put o' (by omega) ho hc) (Below.refl _ _) (fun _ => rfl)
    (fun pre W => (∃ v, Grw w.heap.size W0.heap.size w (w.heap.size + 1) #[v] 47 46 3 pre.length (rowC key b pre) v W) ∧ W.heap[w.heap.size]? = some (.cells #[.string ⟨#[]⟩, .string ⟨#[]⟩, .int .i64 0] 25 (0, 0)))
    (fun _ _ _ => False)
    (OwnFrom.and (Grw.own (Nat.le_refl _) (by omega) (fun pre => pre.length) (fun pre => rowC key b pre) (fun _ v => #[v])) (fun _ X Y row hs hg hr => (hg.block _ (heap_lt hs) (fun e => by
      obtain ⟨_, o, ho, hc⟩ := hr _ e.symm
      rw [hs] at ho; cases ho; cases hc)).trans hs))
    (fun _ _ _ _ _ hs _ _ => hs)
    ⟨⟨_, ⟨bC, ⟨rfl, .inl ⟨rfl, rfl⟩⟩, fun _ => rfl, hB0⟩⟩, bR0⟩
    (fun x a' W => ∃ Bx, w.heap.size + 1 < Bx ∧ W.heap[Bx]? = some (.cells #[.string (b.getD x.1 ⟨#[]⟩), .string (chain macB key (b.take x.1)), .string (chain macB key (b.take (x.1 + 1)))] 46 (0, 0)) ∧ a' = { tmps := #[.string key, .slice pa b.length ca, .slice pb b.length cb, undef, undef, undef, .pointer (some ⟨w.heap.size, 0, none⟩), .pointer (some ⟨w.heap.size + 1, 0, none⟩), .pointer (some ⟨Bx, 0, none⟩), undef, undef, undef, undef, .string key, .slice pb b.length cb, .func (.func 32) #[] #[.pointer (some ⟨w.heap.size + 1 + 1, 0, none⟩), .pointer (some ⟨w.heap.size + 1 + 1 + 1, 0, none⟩)], enc3 (b.getD x.1 ⟨#[]⟩) (chain macB key (b.take x.1)) (chain macB key (b.take (x.1 + 1))), undef, undef, undef, undef, undef, undef, undef, undef, undef, undef, undef, undef, undef, undef, undef, undef, undef, undef, undef, undef, undef, undef, undef, undef, undef, undef, undef, undef, undef, undef, undef, undef], defers := [] })
    (fun x a' _ X Y row hs hg hr => by
      obtain ⟨Bx, h1, h2, h3⟩ := hs
      exact ⟨Bx, h1, (hg.block Bx (heap_lt h2) (fun e => by
        obtain ⟨_, o, ho, hc⟩ := hr Bx e.symm
        rw [h2] at ho; cases ho; cases hc)).trans h2, h3⟩)
    ?assign ?body ?done ?stop
  case assign =>
    rintro l' pre x W K ⟨⟨v1, hI⟩, hR⟩ hK
    dsimp only [encC, enc3] at hK ⊢
    generalize b.getD x.1 ⟨#[]⟩ = r at hK ⊢
    generalize chain macB key (b.take x.1) = c at hK ⊢
    generalize chain macB key (b.take (x.1 + 1)) = d at hK ⊢
    gi_wp2
    exact hK _ _ ((KeepsOthers.alloc _ _).from _) (Kc.up ((Below.refl _ W).alloc (Nat.le_refl _) _) hI.below.size) ⟨⟨_, hI.up hI.below.size ((Below.refl _ W).alloc (Nat.le_refl _) _)⟩, (Below.heap_alloc _ _ _ (heap_lt hR)).trans hR⟩ ⟨W.heap.size, heap_lt hI.box, heap_alloc_new W _, rfl⟩
  case body =>
    rintro l' pre x a' W hl ⟨lr, hlr⟩ ⟨⟨v1, hI⟩, hR⟩ ⟨Bx, hBx, bX, rfl⟩ hlt
    have hWs : W0.heap.size ≤ W.heap.size := Nat.le_of_lt (Nat.lt_of_le_of_lt hl (heap_lt hlr))
    have hsn := rowC_snoc key b pre x
    unfold rec3 at hsn
    unfold enc3
    generalize rowC key b pre = S0 at *
    generalize b.getD x.1 ⟨#[]⟩ = r at *
    generalize chain macB key (b.take x.1) = c at *
    generalize chain macB key (b.take (x.1 + 1)) = d at *
    obtain ⟨p1, c1, hv1⟩ := own_shape hI.row
    subst hv1
    obtain ⟨i0, hi, hz0, hz1, hz2⟩ := info_parts infoCh
    have hba : Below W.heap.size W (W.alloc (.cells #[.string r, .string c, .string d] 46)) := (Below.refl _ _).alloc (Nat.le_refl _) _
    have hIa := hI.up hI.below.size hba
    have HX : Hid (∀ v' w', After (W.alloc (.cells #[.string r, .string c, .string d] 46)) W0.heap.size 46 3 (.slice p1 pre.length c1) (pre.length + 1) (S0 ++ [.string r, .string c, .string d]) v' w' →
        (w'.cell? ⟨w.heap.size + 1, 0, none⟩ = some (.slice p1 pre.length c1) ∧ w'.frozen? ⟨w.heap.size + 1, 0, none⟩ = false) ∧
        (KeepsOthers W (w'.setCell ⟨w.heap.size + 1, 0, none⟩ v') ∧ Kc w.heap.size W0.heap.size W (w'.setCell ⟨w.heap.size + 1, 0, none⟩ v') ∧
        (∃ v, Grw w.heap.size W0.heap.size w (w.heap.size + 1) #[v] 47 46 3 (pre ++ [x]).length (rowC key b (pre ++ [x])) v (w'.setCell ⟨w.heap.size + 1, 0, none⟩ v')) ∧ (w'.setCell ⟨w.heap.size + 1, 0, none⟩ v').heap[w.heap.size]? = some (.cells #[.string ⟨#[]⟩, .string ⟨#[]⟩, .int .i64 0] 25 (0, 0)))) := fun v' w' hA => by
      have hG := hIa.app (by omega) (Nat.le_trans hI.below.size hba.size) (by omega) (by omega) hA
      have hS := hG.set (by omega) (by omega) 0 v'
      have hr2 := After.cell hIa.row hA (t := 25) (by decide) ((hba.block _ (heap_lt hR)).trans hR)
      refine ⟨⟨?_, frozen_of_row _ _ _ _ _ hG.box⟩, ?_, ?_, ⟨v', ?_⟩, ?_⟩
      · simp [World.cell?, hG.box]
      · exact ((others_up hba).trans (After.others hIa.row hA)).trans (KeepsOthers.setCell _ _ _)
      · exact ((Kc.up hba hI.below.size).trans (After.kc hIa.row (by decide) (by omega) (Nat.le_trans hI.below.size hba.size) hA)).trans (Kc.setLow _ (by omega) (by omega))
      · rw [hsn, List.length_append]
        exact hS
      · rw [heap_setCell_other _ _ _ _ (by simp)]
        exact hr2
    have hrow := hIa.row
    have HN : Hid (pre.length = 0 → (Value.slice p1 pre.length c1) = .slice none 0 0) := hI.nil
    have hc0 : W.cell? ⟨w.heap.size + 1, 0, none⟩ = some (.slice p1 pre.length c1) := by simp [World.cell?, hI.box]
    have x0 : W.cell? ⟨Bx, 0, none⟩ = some (.string r) := by simp [World.cell?, bX]
    have x1 : W.cell? ⟨Bx, 1, none⟩ = some (.string c) := by simp [World.cell?, bX]
    have x2 : W.cell? ⟨Bx, 2, none⟩ = some (.string d) := by simp [World.cell?, bX]
    have hb3 : W0.heap.size ≤ (W.alloc (.cells #[.string r, .string c, .string d] 46)).heap.size := Nat.le_trans hWs hba.size
    clear hI hR hIa hba hsn hlr bX
    gi_wp2_with (refine wpListIn_append_first _ rfl (.tmp 17) (.tmp 19) 47 rfl W0.heap.size 46 i0 (.agg #[.string ⟨#[]⟩, .string ⟨#[]⟩, .string ⟨#[]⟩]) 3 48 Tryd.underlying47 hi hz0 hz1 hz2 rfl (by decide) (.slice p1 pre.length c1) pre.length S0 rfl hrow HN.out ⟨W.heap.size, 0, none⟩ 1 1 [.string r, .string c, .string d] rfl rfl (three_new _ _ _ _ _) (by simp [Value.oneCell']) (by unfold maxLen; omega) (by omega) hb3 ?_; intro v' w' hA; obtain ⟨⟨e1, e2⟩, hFin⟩ := HX.out v' w' hA; obtain ⟨pv, cv, hv2⟩ := own_shape hA.own; subst hv2)
    exact ⟨hFin.1.from _, hFin.2.1, hFin.2.2⟩
  case done =>
    rintro D xs W hD rfl ⟨⟨v1, hI⟩, hR⟩ hK
    obtain ⟨p1, c1, hv1⟩ := own_shape hI.row
    subst hv1
    gi_wp2_with (refine ⟨trivial, ?_⟩; gi_at_call 27; refine (callsIn_wide.2 (chainedBy_any key pa b.length ca _)).mono ?_; rintro e w2 ⟨rfl, rfl⟩)
    have hva2 : SliceIs w (.slice pa b.length ca) a := by rw [← hlen]; exact hva
    obtain ⟨W1, hW1, bO, bP, bK2, bT2, hsz2, hB2⟩ : ∃ W1, W1 = ((((W.alloc (.cells #[.string ⟨#[]⟩, .string ⟨#[]⟩, .int .i64 0] 25)).alloc (.cells #[.int .i64 0] 3)).alloc (boxT key)).alloc (boxL (.slice pa b.length ca))) ∧
        W1.heap[W.heap.size]? = some (.cells #[.string ⟨#[]⟩, .string ⟨#[]⟩, .int .i64 0] 25 (0, 0)) ∧ W1.heap[W.heap.size + 1]? = some (.cells #[.int .i64 0] 3 (0, 0)) ∧ Boxed W1 (W.heap.size + 1 + 1) 9 (.string key) ∧ Boxed W1 (W.heap.size + 1 + 1 + 1) 22 (.slice pa b.length ca) ∧ W1.heap.size = W.heap.size + 4 ∧ Below W.heap.size W W1 := by
      obtain ⟨w1, hw1⟩ : ∃ w1, w1 = W.alloc (.cells #[.string ⟨#[]⟩, .string ⟨#[]⟩, .int .i64 0] 25) := ⟨_, rfl⟩
      have r1 : w1.heap[W.heap.size]? = some (.cells #[.string ⟨#[]⟩, .string ⟨#[]⟩, .int .i64 0] 25 (0, 0)) := by rw [hw1]; exact heap_alloc_new _ _
      have s1 : w1.heap.size = W.heap.size + 1 := by rw [hw1]; simp
      have b1 : Below W.heap.size W w1 := by rw [hw1]; exact (Below.refl _ _).alloc (Nat.le_refl _) _
      obtain ⟨w2, hw2⟩ : ∃ w2, w2 = w1.alloc (.cells #[.int .i64 0] 3) := ⟨_, rfl⟩
      have r2 : w2.heap[W.heap.size + 1]? = some (.cells #[.int .i64 0] 3 (0, 0)) := by rw [hw2, ← s1]; exact heap_alloc_new _ _
      have s2 : w2.heap.size = W.heap.size + 1 + 1 := by rw [hw2]; simp [s1]
      have b2 : Below w1.heap.size w1 w2 := by rw [hw2]; exact (Below.refl _ _).alloc (Nat.le_refl _) _
      have q1 := (b2.block _ (heap_lt r1)).trans r1
      have bK := (Boxed.new w2 9 (.string key)).alloc (boxL (.slice pa b.length ca))
      have bT := Boxed.new (w2.alloc (boxT key)) 22 (.slice pa b.length ca)
      have b3 : Below w2.heap.size w2 ((w2.alloc (boxT key)).alloc (boxL (.slice pa b.length ca))) := ((Below.refl _ _).alloc (Nat.le_refl _) _).alloc (by simp) _
      rw [World.size_alloc] at bT
      rw [s2] at bK bT
      rw [← hw1, ← hw2]
      exact ⟨_, rfl, (b3.block _ (heap_lt q1)).trans q1, (b3.block _ (heap_lt r2)).trans r2, bK, bT, by simp [s2], b1.trans ((b2.trans (b3.mono b2.size)).mono b1.size)⟩
    rw [← hW1]
    clear hW1
    have hB3 : Below w.heap.size w W1 := hI.below.trans (hB2.mono hI.below.size)
    have hWs := hI.below.size
    have hDlt := heap_lt hK
    have hxlen : (List.finRange b.length).length = b.length := List.length_finRange
    rw [hxlen] at hI
    have hI1 : InL w W0.heap.size W.heap.size (W.heap.size + 1) D p1 b.length c1 (rowC key b (List.finRange b.length)) (stC key a b []).1 (stC key a b []).2 ([] : List (Fin a.length)).length W1 :=
      ⟨bO, bP, (hI.up hI.below.size hB2).box, (hI.up hI.below.size hB2).row, (hB2.block _ (heap_lt hR)).trans hR, (hB2.block _ hDlt).trans hK, hB3⟩
    have HRow : Hid (∀ (U : World) (j : Nat), j < b.length → U.ownsRow W0.heap.size 46 3 (.slice p1 b.length c1) b.length (rowC key b (List.finRange b.length)) → ∃ g, p1 = some ⟨g, 0, none⟩ ∧ b.length ≤ c1 ∧ c1 ≤ maxLen ∧ U.cell? ⟨g, j * 3, none⟩ = some (.string (b.getD j ⟨#[]⟩)) ∧ U.cell? ⟨g, j * 3 + 1, none⟩ = some (.string (chain macB key (b.take j))) ∧ U.cell? ⟨g, j * 3 + 2, none⟩ = some (.string (chain macB key (b.take (j + 1))))) := fun U j hj hr => by
      have hr0 := hr
      rcases hr.2 with ⟨h1, h2⟩ | ⟨g, cap, cur, h1, _, _, h3, h4, _⟩
      · omega
      · simp only [Value.slice.injEq] at h1
        obtain ⟨rfl, _, rfl⟩ := h1
        refine ⟨g, rfl, h3, h4, ?_, ?_, ?_⟩
        · rw [hr0.cellAt (j * 3) (by omega)]
          exact rowC_all key b (i := 0) hj (by omega)
        · rw [hr0.cellAt (j * 3 + 1) (by omega)]
          exact rowC_all key b (i := 1) hj (by omega)
        · rw [hr0.cellAt (j * 3 + 2) (by omega)]
          exact rowC_all key b (i := 2) hj (by omega)
    have hD1 : D < W1.heap.size := by omega
    clear hR hK hI bR0 bC bK bT
    refine wpIn_rangeFunc_ownH rfl (by omega) (gf := 32) (lb := #[.pointer (some ⟨W.heap.size + 1 + 1, 0, none⟩), .pointer (some ⟨W.heap.size + 1 + 1 + 1, 0, none⟩)]) rfl trivial (enters_of Tryd.func32 (by kernel_rfl) rfl)
      (chained_any 4 w.heap.size W1.heap.size key a (.slice pa b.length ca) (W.heap.size + 1 + 1) (W.heap.size + 1 + 1 + 1) W1 (by omega) hk hra.1 hra.2.2 (hT.up hB3) hT.lt (by omega) (Nat.le_refl _) bK2.cell bT2.cell ((SlN.of hva2).below hB3)) Kc.trans (fun W l' o o' hl ho hc _ => Kc.put o' (by omega) ho hc) (Below.refl _ _) (fun _ => rfl)
      (fun pre U => InL w W0.heap.size W.heap.size (W.heap.size + 1) D p1 b.length c1 (rowC key b (List.finRange b.length)) (stC key a b pre).1 (stC key a b pre).2 pre.length U)
      (fun _ _ _ => False)
      (InL.own hD1 (by omega) (fun pre => stC key a b pre) (fun pre => pre.length))
      (fun _ _ _ _ _ hs _ _ => hs)
      hI1
      (fun x a' U => ∃ Bx, W.heap.size + 1 < Bx ∧ U.heap[Bx]? = some (.cells #[.string (a.getD x.1 ⟨#[]⟩), .string (chain macB key (a.take x.1)), .string (chain macB key (a.take (x.1 + 1)))] 46 (0, 0)) ∧ a' = { tmps := #[.string key, .slice pa b.length ca, .slice pb b.length cb, undef, undef, undef, .pointer (some ⟨w.heap.size, 0, none⟩), .pointer (some ⟨w.heap.size + 1, 0, none⟩), undef, .pointer (some ⟨W.heap.size, 0, none⟩), .pointer (some ⟨W.heap.size + 1, 0, none⟩), .pointer (some ⟨Bx, 0, none⟩), undef, .string key, .slice pb b.length cb, .func (.func 32) #[] #[.pointer (some ⟨w.heap.size + 1 + 1, 0, none⟩), .pointer (some ⟨w.heap.size + 1 + 1 + 1, 0, none⟩)], undef, undef, undef, undef, undef, .string key, .slice pa b.length ca, .func (.func 32) #[] #[.pointer (some ⟨W.heap.size + 1 + 1, 0, none⟩), .pointer (some ⟨W.heap.size + 1 + 1 + 1, 0, none⟩)], enc3 (a.getD x.1 ⟨#[]⟩) (chain macB key (a.take x.1)) (chain macB key (a.take (x.1 + 1))), undef, undef, undef, undef, undef, undef, undef, undef, undef, undef, undef, undef, undef, undef, undef, undef, undef, undef, undef, undef, undef, undef, undef, undef], defers := [] })
      (fun x a' _ X Y row hs hg hr => by
        obtain ⟨Bx, h1, h2, h3⟩ := hs
        exact ⟨Bx, h1, (hg.block Bx (heap_lt h2) (fun e => by
          obtain ⟨_, o, ho, hc⟩ := hr Bx e.symm
          rw [h2] at ho; cases ho; cases hc)).trans h2, h3⟩)
      ?assign2 ?body2 ?done2 ?stop2
    case assign2 =>
      rintro l' pre x U K hI hK
      dsimp only [encC, enc3] at hK ⊢
      generalize a.getD x.1 ⟨#[]⟩ = r at hK ⊢
      generalize chain macB key (a.take x.1) = c at hK ⊢
      generalize chain macB key (a.take (x.1 + 1)) = d at hK ⊢
      gi_wp2
      exact hK _ _ ((KeepsOthers.alloc _ _).from _) (Kc.up ((Below.refl _ U).alloc (Nat.le_refl _) _) hI.below.size) (hI.up ((Below.refl _ U).alloc (Nat.le_refl _) _)) ⟨U.heap.size, heap_lt hI.place, heap_alloc_new U _, rfl⟩
    case body2 =>
      rintro l' pre x a' U hl ⟨lr, hlr⟩ hI ⟨Bx, hBx, bX, rfl⟩ hlt
      have hWs2 : W1.heap.size ≤ U.heap.size := Nat.le_of_lt (Nat.lt_of_le_of_lt hl (heap_lt hlr))
      obtain ⟨g, rfl, hg1, hg2, y0, y1, y2⟩ := HRow.out U pre.length (by omega) hI.row
      have hsn := stC_snoc key a b pre x
      unfold stepC at hsn
      have o0 : U.cell? ⟨w.heap.size + 1, 0, none⟩ = some (.slice (some ⟨g, 0, none⟩) b.length c1) := by simp [World.cell?, hI.others]
      have p0 : U.cell? ⟨W.heap.size + 1, 0, none⟩ = some (.int .i64 (pre.length : Int)) := by simp [World.cell?, hI.place]
      have x0 : U.cell? ⟨Bx, 0, none⟩ = some (.string (a.getD x.1 ⟨#[]⟩)) := by simp [World.cell?, bX]
      have x1 : U.cell? ⟨Bx, 1, none⟩ = some (.string (chain macB key (a.take x.1))) := by simp [World.cell?, bX]
      have x2 : U.cell? ⟨Bx, 2, none⟩ = some (.string (chain macB key (a.take (x.1 + 1)))) := by simp [World.cell?, bX]
      have hb200 : (b.getD pre.length ⟨#[]⟩).size ≤ 200 := hrb.1 _ (lm.at_getD (by omega))
      have ha200 : (a.getD x.1 ⟨#[]⟩).size ≤ 200 := hra.1 _ (lm.at_getD x.2)
      have hca := lm.chain_le key (a.take x.1)
      have hcb := lm.chain_le key (b.take pre.length)
      have hpl : pre.length < b.length := by omega
      have hb60 := hrb.2.2
      unfold enc3
      unfold textC at hsn
      generalize a.getD x.1 ⟨#[]⟩ = ra at *
      generalize chain macB key (a.take x.1) = aa at *
      generalize chain macB key (a.take (x.1 + 1)) = da at *
      generalize b.getD pre.length ⟨#[]⟩ = rb at *
      generalize chain macB key (b.take pre.length) = ab at *
      generalize chain macB key (b.take (pre.length + 1)) = db at *
      have HSN : Hid (stC key a b (pre ++ [x]) = if ¬ aa ++ ra = ab ++ rb ∧ da = db then (aa ++ ra, ab ++ rb) else stC key a b pre) := hsn
      have HLn : Hid ((pre ++ [x]).length = pre.length + 1) := by show _ = _; simp
      clear hsn HRow hlr
      obtain ⟨U1, hU1⟩ : ∃ U1, U1 = U.alloc (.cells #[.string rb, .string ab, .string db] 46) := ⟨_, rfl⟩
      have hbU1 : Below U.heap.size U U1 := by rw [hU1]; exact (Below.refl _ _).alloc (Nat.le_refl _) _
      have bY : U1.heap[U.heap.size]? = some (.cells #[.string rb, .string ab, .string db] 46 (0, 0)) := by rw [hU1]; exact heap_alloc_new _ _
      have bX1 := (hbU1.block _ (heap_lt bX)).trans bX
      obtain ⟨By, hBy⟩ : ∃ By, By = U.heap.size := ⟨_, rfl⟩
      rw [← hBy] at bY
      have hPlt := heap_lt hI.place
      have hIU := hI.up hbU1
      have HU : Hid (∀ u, Below U1.heap.size U1 u → ((u.cell? ⟨Bx, 0, none⟩ = some (.string ra) ∧ u.cell? ⟨Bx, 1, none⟩ = some (.string aa) ∧ u.cell? ⟨Bx, 2, none⟩ = some (.string da)) ∧ (u.cell? ⟨By, 0, none⟩ = some (.string rb) ∧ u.cell? ⟨By, 1, none⟩ = some (.string ab) ∧ u.cell? ⟨By, 2, none⟩ = some (.string db))) ∧ InL w W0.heap.size W.heap.size (W.heap.size + 1) D (some ⟨g, 0, none⟩) b.length c1 (rowC key b (List.finRange b.length)) (stC key a b pre).1 (stC key a b pre).2 pre.length u) := fun u hu => by
        have e1 := (hu.block Bx (heap_lt bX1)).trans bX1
        have e2 := (hu.block By (heap_lt bY)).trans bY
        refine ⟨⟨⟨?_, ?_, ?_⟩, ⟨?_, ?_, ?_⟩⟩, hIU.up hu⟩
        · simp [World.cell?, e1]
        · simp [World.cell?, e1]
        · simp [World.cell?, e1]
        · simp [World.cell?, e2]
        · simp [World.cell?, e2]
        · simp [World.cell?, e2]
      have HF1 : Hid (¬ (¬ aa ++ ra = ab ++ rb ∧ da = db) → ∀ u, Below U1.heap.size U1 u → KeepsFrom W1.heap.size U (u.setCell ⟨W.heap.size + 1, 0, none⟩ (.int .i64 ((pre.length : Int) + 1))) ∧ Kc w.heap.size W1.heap.size U (u.setCell ⟨W.heap.size + 1, 0, none⟩ (.int .i64 ((pre.length : Int) + 1))) ∧ InL w W0.heap.size W.heap.size (W.heap.size + 1) D (some ⟨g, 0, none⟩) b.length c1 (rowC key b (List.finRange b.length)) (stC key a b (pre ++ [x])).1 (stC key a b (pre ++ [x])).2 (pre ++ [x]).length (u.setCell ⟨W.heap.size + 1, 0, none⟩ (.int .i64 ((pre.length : Int) + 1)))) := fun hn u hu => by
        have hu2 := hbU1.trans (hu.mono hbU1.size)
        refine ⟨((others_up hu2).trans (KeepsOthers.setCell _ _ _)).from _, (Kc.up hu2 hI.below.size).trans (Kc.setLow _ (by omega) (by omega)), ?_⟩
        rw [HSN.out, HLn.out, if_neg hn]
        exact (hI.up hu2).setPlace (by omega) (by omega) (by omega) (pre.length + 1)
      have HF2 : Hid (¬ aa ++ ra = ab ++ rb ∧ da = db → ∀ u, Below U1.heap.size U1 u →
          (((((u.setCell ⟨W.heap.size, 0, none⟩ (.string (aa ++ ra))).setCell ⟨W.heap.size, 1, none⟩ (.string (ab ++ rb))).setCell ⟨W.heap.size, 2, none⟩ (.int .i64 0)).cell? ⟨Bx, 0, none⟩ = some (.string ra) ∧ (((u.setCell ⟨W.heap.size, 0, none⟩ (.string (aa ++ ra))).setCell ⟨W.heap.size, 1, none⟩ (.string (ab ++ rb))).setCell ⟨W.heap.size, 2, none⟩ (.int .i64 0)).cell? ⟨Bx, 1, none⟩ = some (.string aa) ∧ (((u.setCell ⟨W.heap.size, 0, none⟩ (.string (aa ++ ra))).setCell ⟨W.heap.size, 1, none⟩ (.string (ab ++ rb))).setCell ⟨W.heap.size, 2, none⟩ (.int .i64 0)).cell? ⟨Bx, 2, none⟩ = some (.string da)) ∧
           ((((u.setCell ⟨W.heap.size, 0, none⟩ (.string (aa ++ ra))).setCell ⟨W.heap.size, 1, none⟩ (.string (ab ++ rb))).setCell ⟨W.heap.size, 2, none⟩ (.int .i64 0)).cell? ⟨By, 0, none⟩ = some (.string rb) ∧ (((u.setCell ⟨W.heap.size, 0, none⟩ (.string (aa ++ ra))).setCell ⟨W.heap.size, 1, none⟩ (.string (ab ++ rb))).setCell ⟨W.heap.size, 2, none⟩ (.int .i64 0)).cell? ⟨By, 1, none⟩ = some (.string ab) ∧ (((u.setCell ⟨W.heap.size, 0, none⟩ (.string (aa ++ ra))).setCell ⟨W.heap.size, 1, none⟩ (.string (ab ++ rb))).setCell ⟨W.heap.size, 2, none⟩ (.int .i64 0)).cell? ⟨By, 2, none⟩ = some (.string db))) ∧
          ((((u.setCell ⟨W.heap.size, 0, none⟩ (.string (aa ++ ra))).setCell ⟨W.heap.size, 1, none⟩ (.string (ab ++ rb))).setCell ⟨W.heap.size, 2, none⟩ (.int .i64 0)).cell? ⟨W.heap.size + 1, 0, none⟩ = some (.int .i64 (pre.length : Int)) ∧ (((u.setCell ⟨W.heap.size, 0, none⟩ (.string (aa ++ ra))).setCell ⟨W.heap.size, 1, none⟩ (.string (ab ++ rb))).setCell ⟨W.heap.size, 2, none⟩ (.int .i64 0)).frozen? ⟨W.heap.size + 1, 0, none⟩ = false) ∧
          (KeepsFrom W1.heap.size U ((((u.setCell ⟨W.heap.size, 0, none⟩ (.string (aa ++ ra))).setCell ⟨W.heap.size, 1, none⟩ (.string (ab ++ rb))).setCell ⟨W.heap.size, 2, none⟩ (.int .i64 0)).setCell ⟨W.heap.size + 1, 0, none⟩ (.int .i64 ((pre.length : Int) + 1))) ∧ Kc w.heap.size W1.heap.size U ((((u.setCell ⟨W.heap.size, 0, none⟩ (.string (aa ++ ra))).setCell ⟨W.heap.size, 1, none⟩ (.string (ab ++ rb))).setCell ⟨W.heap.size, 2, none⟩ (.int .i64 0)).setCell ⟨W.heap.size + 1, 0, none⟩ (.int .i64 ((pre.length : Int) + 1))) ∧ InL w W0.heap.size W.heap.size (W.heap.size + 1) D (some ⟨g, 0, none⟩) b.length c1 (rowC key b (List.finRange b.length)) (stC key a b (pre ++ [x])).1 (stC key a b (pre ++ [x])).2 (pre ++ [x]).length ((((u.setCell ⟨W.heap.size, 0, none⟩ (.string (aa ++ ra))).setCell ⟨W.heap.size, 1, none⟩ (.string (ab ++ rb))).setCell ⟨W.heap.size, 2, none⟩ (.int .i64 0)).setCell ⟨W.heap.size + 1, 0, none⟩ (.int .i64 ((pre.length : Int) + 1))))) := fun hy u hu => by
        have hu2 := hbU1.trans (hu.mono hbU1.size)
        have hO := (hI.up hu2).setOut (by omega) (by omega) (by omega) (aa ++ ra) (ab ++ rb)
        have oo : ∀ (V : World) j q z, j ≠ W.heap.size → (V.setCell ⟨W.heap.size, q, none⟩ z).heap[j]? = V.heap[j]? := fun V j q z hj => heap_setCell_other _ _ _ _ hj
        have e1 : (((u.setCell ⟨W.heap.size, 0, none⟩ (.string (aa ++ ra))).setCell ⟨W.heap.size, 1, none⟩ (.string (ab ++ rb))).setCell ⟨W.heap.size, 2, none⟩ (.int .i64 0)).heap[Bx]? = some (.cells #[.string ra, .string aa, .string da] 46 (0, 0)) := by
          rw [oo _ _ _ _ (by omega), oo _ _ _ _ (by omega), oo _ _ _ _ (by omega)]
          exact (hu.block Bx (heap_lt bX1)).trans bX1
        have e2 : (((u.setCell ⟨W.heap.size, 0, none⟩ (.string (aa ++ ra))).setCell ⟨W.heap.size, 1, none⟩ (.string (ab ++ rb))).setCell ⟨W.heap.size, 2, none⟩ (.int .i64 0)).heap[By]? = some (.cells #[.string rb, .string ab, .string db] 46 (0, 0)) := by
          rw [oo _ _ _ _ (by omega), oo _ _ _ _ (by omega), oo _ _ _ _ (by omega)]
          exact (hu.block By (heap_lt bY)).trans bY
        refine ⟨⟨⟨?_, ?_, ?_⟩, ⟨?_, ?_, ?_⟩⟩, ⟨hO.cells.1.2.2.2, hO.cells.2.2.2.2⟩, ?_, ?_, ?_⟩
        · simp [World.cell?, e1]
        · simp [World.cell?, e1]
        · simp [World.cell?, e1]
        · simp [World.cell?, e2]
        · simp [World.cell?, e2]
        · simp [World.cell?, e2]
        · exact (((((others_up hu2).trans (KeepsOthers.setCell _ _ _)).trans (KeepsOthers.setCell _ _ _)).trans (KeepsOthers.setCell _ _ _)).trans (KeepsOthers.setCell _ _ _)).from _
        · exact ((((Kc.up hu2 hI.below.size).trans (Kc.setLow _ (by omega) (by omega))).trans (Kc.setLow _ (by omega) (by omega))).trans (Kc.setLow _ (by omega) (by omega))).trans (Kc.setLow _ (by omega) (by omega))
        · rw [HSN.out, HLn.out, if_pos hy]
          exact hO.setPlace (by omega) (by omega) (by omega) (pre.length + 1)
      have HMa : Hid (∀ u, Calls Tryd.prog 28 #[.agg #[.string ra, .string aa, .string da]] u fun e w' => e = .returned (.string (aa ++ ra)) ∧ Below u.heap.size u w') := fun u => macText_any ra aa da u (by omega)
      have HMb : Hid (∀ u, Calls Tryd.prog 28 #[.agg #[.string rb, .string ab, .string db]] u fun e w' => e = .returned (.string (ab ++ rb)) ∧ Below u.heap.size u w') := fun u => macText_any rb ab db u (by omega)
      clear hI hIU bX bX1 bY HSN HLn
      generalize aa ++ ra = ta at *
      generalize ab ++ rb = tb at *
      gi_wp2_with fail
      rw [← hU1, ← hBy]
      clear hU1 hBy x0 x1 x2 y0 y1 y2 o0 p0
      have hd1 : Below U1.heap.size U1 U1.drew := (Below.refl _ _).drew
      by_cases hd : da = db
      · have qd := beqT hd
        by_cases ht : ta = tb
        · have hnc : ¬ (¬ ta = tb ∧ da = db) := fun h => h.1 ht
          have qt := beqT ht
          have HNc : Hid (¬ (¬ ta = tb ∧ da = db)) := hnc
          clear hd ht hnc
          refine region_round (S := fun u => (u.cell? ⟨Bx, 0, none⟩ = some (.string ra) ∧ u.cell? ⟨Bx, 1, none⟩ = some (.string aa) ∧ u.cell? ⟨Bx, 2, none⟩ = some (.string da)) ∧ (u.cell? ⟨By, 0, none⟩ = some (.string rb) ∧ u.cell? ⟨By, 1, none⟩ = some (.string ab) ∧ u.cell? ⟨By, 2, none⟩ = some (.string db))) (by kernel_rfl) (by kernel_rfl) (HU.out _ hd1).1 (fun hHeld => ?_)
          refine wpAnyH_take (i := 0) (oi := { dst := some 29, op := Op.fieldAddr 46 (Operand.tmp 11) 2, type := 0, pos := "l05_log.go:240", after := #[], guard := none }) (v := ?_) rfl (by kernel_rfl) (by kernel_rfl) (by kernel_rfl) onlyN_up (Or.inl ⟨by rfl, ?_⟩) hHeld ?_
          rotate_left
          · rintro w ⟨⟨z0, z1, z2⟩, ⟨y0, y1, y2⟩⟩; go_simp; (try with_reducible rfl)
          try simp only [Act.put, List.setIfInBounds_toArray, List.set_cons_zero, List.set_cons_succ]
          refine wpAnyH_take (i := 1) (oi := { dst := some 30, op := Op.load 9 (Operand.tmp 29), type := 9, pos := "l05_log.go:240", after := #[{ on := 0, ground := Ground.data }], guard := none }) (v := ?_) rfl (by kernel_rfl) (by kernel_rfl) (by kernel_rfl) onlyN_up (Or.inl ⟨by rfl, ?_⟩) hHeld ?_
          rotate_left
          · rintro w ⟨⟨z0, z1, z2⟩, ⟨y0, y1, y2⟩⟩; go_simp; (try with_reducible rfl)
          try simp only [Act.put, List.setIfInBounds_toArray, List.set_cons_zero, List.set_cons_succ]
          refine wpAnyH_take (i := 2) (oi := { dst := some 31, op := Op.fieldAddr 46 (Operand.tmp 12) 2, type := 0, pos := "l05_log.go:240", after := #[], guard := none }) (v := ?_) rfl (by kernel_rfl) (by kernel_rfl) (by kernel_rfl) onlyN_up (Or.inl ⟨by rfl, ?_⟩) hHeld ?_
          rotate_left
          · rintro w ⟨⟨z0, z1, z2⟩, ⟨y0, y1, y2⟩⟩; go_simp; (try with_reducible rfl)
          try simp only [Act.put, List.setIfInBounds_toArray, List.set_cons_zero, List.set_cons_succ]
          refine wpAnyH_take (i := 3) (oi := { dst := some 32, op := Op.load 9 (Operand.tmp 31), type := 9, pos := "l05_log.go:240", after := #[{ on := 2, ground := Ground.data }], guard := none }) (v := ?_) rfl (by kernel_rfl) (by kernel_rfl) (by kernel_rfl) onlyN_up (Or.inl ⟨by rfl, ?_⟩) hHeld ?_
          rotate_left
          · rintro w ⟨⟨z0, z1, z2⟩, ⟨y0, y1, y2⟩⟩; go_simp; (try with_reducible rfl)
          try simp only [Act.put, List.setIfInBounds_toArray, List.set_cons_zero, List.set_cons_succ]
          refine wpAnyH_take (i := 4) (oi := { dst := some 33, op := Op.binOp BinOp.eql 9 (Operand.tmp 30) (Operand.tmp 32) 9, type := 4, pos := "l05_log.go:240", after := #[{ on := 1, ground := Ground.data }, { on := 3, ground := Ground.data }], guard := none }) (v := .bool true) rfl (by kernel_rfl) (by kernel_rfl) (by kernel_rfl) onlyN_up (Or.inl ⟨by rfl, ?_⟩) hHeld ?_
          · rintro w ⟨⟨z0, z1, z2⟩, ⟨y0, y1, y2⟩⟩; go_simp; (try with_reducible rfl)
          try simp only [Act.put, List.setIfInBounds_toArray, List.set_cons_zero, List.set_cons_succ]
          refine wpAnyH_take (i := 5) (oi := { dst := some 34, op := Op.move (Operand.tmp 33), type := 4, pos := "l05_log.go:240", after := #[{ on := 4, ground := Ground.data }], guard := none }) (v := .bool true) rfl (by kernel_rfl) (by kernel_rfl) (by kernel_rfl) onlyN_up (Or.inl ⟨by rfl, ?_⟩) hHeld ?_
          · rintro w ⟨⟨z0, z1, z2⟩, ⟨y0, y1, y2⟩⟩; go_simp; (try with_reducible rfl)
          try simp only [Act.put, List.setIfInBounds_toArray, List.set_cons_zero, List.set_cons_succ]
          refine wpAnyH_take (i := 6) (oi := { dst := some 35, op := Op.load 46 (Operand.tmp 11), type := 46, pos := "l05_log.go:240", after := #[{ on := 5, ground := Ground.guard }], guard := some (5, true) }) (v := ?_) rfl (by kernel_rfl) (by kernel_rfl) (by kernel_rfl) onlyN_up (Or.inl ⟨by rfl, ?_⟩) hHeld ?_
          rotate_left
          · rintro w ⟨⟨z0, z1, z2⟩, ⟨y0, y1, y2⟩⟩; go_simp; (try with_reducible rfl)
          try simp only [Act.put, List.setIfInBounds_toArray, List.set_cons_zero, List.set_cons_succ]
          refine wpAnyH_take (i := 8) (oi := { dst := some 37, op := Op.load 46 (Operand.tmp 12), type := 46, pos := "l05_log.go:240", after := #[{ on := 5, ground := Ground.guard }], guard := some (5, true) }) (v := ?_) rfl (by kernel_rfl) (by kernel_rfl) (by kernel_rfl) onlyN_up (Or.inl ⟨by rfl, ?_⟩) hHeld ?_
          rotate_left
          · rintro w ⟨⟨z0, z1, z2⟩, ⟨y0, y1, y2⟩⟩; go_simp; (try with_reducible rfl)
          try simp only [Act.put, List.setIfInBounds_toArray, List.set_cons_zero, List.set_cons_succ]
          refine wpAnyH_ready (rs := [7]) (by kernel_rfl) (by simp) ?_
          refine AllReadyH.cons rfl (fun K hK => ?_) AllReadyH.nil
          go_simp
          go_at_call 28
          refine (HMa.out _).mono ?_
          rintro ek1 uk1 ⟨rfl, hbk1'⟩
          have hbk1 : Below U1.heap.size U1 uk1 := (hd1).trans (hbk1'.mono (hd1).size)
          go_wp2_with fail
          refine hK.out _ _ (HU.out _ hbk1).1 (fun hHeld => ?_)
          clear hbk1'
          clear hK K
          try simp only [Act.put, List.setIfInBounds_toArray, List.set_cons_zero, List.set_cons_succ]
          refine wpAnyH_ready (rs := [9]) (by kernel_rfl) (by simp) ?_
          refine AllReadyH.cons rfl (fun K hK => ?_) AllReadyH.nil
          go_simp
          go_at_call 28
          refine (HMb.out _).mono ?_
          rintro ek2 uk2 ⟨rfl, hbk2'⟩
          have hbk2 : Below U1.heap.size U1 uk2 := (hbk1).trans (hbk2'.mono (hbk1).size)
          go_wp2_with fail
          refine hK.out _ _ (HU.out _ hbk2).1 (fun hHeld => ?_)
          clear hbk2'
          clear hK K
          try simp only [Act.put, List.setIfInBounds_toArray, List.set_cons_zero, List.set_cons_succ]
          refine wpAnyH_take (i := 10) (oi := { dst := some 39, op := Op.binOp BinOp.neq 9 (Operand.tmp 36) (Operand.tmp 38) 9, type := 4, pos := "l05_log.go:240", after := #[{ on := 7, ground := Ground.data }, { on := 9, ground := Ground.data }, { on := 5, ground := Ground.guard }], guard := some (5, true) }) (v := .bool false) rfl (by kernel_rfl) (by kernel_rfl) (by kernel_rfl) onlyN_up (Or.inl ⟨by rfl, ?_⟩) hHeld ?_
          · rintro w ⟨⟨z0, z1, z2⟩, ⟨y0, y1, y2⟩⟩; go_simp; (try with_reducible rfl)
          try simp only [Act.put, List.setIfInBounds_toArray, List.set_cons_zero, List.set_cons_succ]
          refine wpAnyH_take (i := 11) (oi := { dst := some 40, op := Op.pick (Operand.tmp 34) (Operand.tmp 39) (Operand.const (Value.bool false)), type := 4, pos := "l05_log.go:240", after := #[{ on := 5, ground := Ground.data }, { on := 10, ground := Ground.data }], guard := none }) (v := .bool false) rfl (by kernel_rfl) (by kernel_rfl) (by kernel_rfl) onlyN_up (Or.inl ⟨by rfl, ?_⟩) hHeld ?_
          · rintro w ⟨⟨z0, z1, z2⟩, ⟨y0, y1, y2⟩⟩; go_simp; (try with_reducible rfl)
          try simp only [Act.put, List.setIfInBounds_toArray, List.set_cons_zero, List.set_cons_succ]
          refine wpAnyH_done (by kernel_rfl) ?_ _
          refine ⟨rfl, ?_⟩
          obtain ⟨⟨_, _, _, q3⟩, _, _, _, q7⟩ := (HU.out _ hbk2).2.cells
          gi_wp2
          exact HF1.out HNc.out _ hbk2
        · have hcl : ¬ ta = tb ∧ da = db := ⟨ht, hd⟩
          have qt := beqF ht
          have HCl : Hid (¬ ta = tb ∧ da = db) := hcl
          clear hd ht hcl
          refine region_round (S := fun u => (u.cell? ⟨Bx, 0, none⟩ = some (.string ra) ∧ u.cell? ⟨Bx, 1, none⟩ = some (.string aa) ∧ u.cell? ⟨Bx, 2, none⟩ = some (.string da)) ∧ (u.cell? ⟨By, 0, none⟩ = some (.string rb) ∧ u.cell? ⟨By, 1, none⟩ = some (.string ab) ∧ u.cell? ⟨By, 2, none⟩ = some (.string db))) (by kernel_rfl) (by kernel_rfl) (HU.out _ hd1).1 (fun hHeld => ?_)
          refine wpAnyH_take (i := 0) (oi := { dst := some 29, op := Op.fieldAddr 46 (Operand.tmp 11) 2, type := 0, pos := "l05_log.go:240", after := #[], guard := none }) (v := ?_) rfl (by kernel_rfl) (by kernel_rfl) (by kernel_rfl) onlyN_up (Or.inl ⟨by rfl, ?_⟩) hHeld ?_
          rotate_left
          · rintro w ⟨⟨z0, z1, z2⟩, ⟨y0, y1, y2⟩⟩; go_simp; (try with_reducible rfl)
          try simp only [Act.put, List.setIfInBounds_toArray, List.set_cons_zero, List.set_cons_succ]
          refine wpAnyH_take (i := 1) (oi := { dst := some 30, op := Op.load 9 (Operand.tmp 29), type := 9, pos := "l05_log.go:240", after := #[{ on := 0, ground := Ground.data }], guard := none }) (v := ?_) rfl (by kernel_rfl) (by kernel_rfl) (by kernel_rfl) onlyN_up (Or.inl ⟨by rfl, ?_⟩) hHeld ?_
          rotate_left
          · rintro w ⟨⟨z0, z1, z2⟩, ⟨y0, y1, y2⟩⟩; go_simp; (try with_reducible rfl)
          try simp only [Act.put, List.setIfInBounds_toArray, List.set_cons_zero, List.set_cons_succ]
          refine wpAnyH_take (i := 2) (oi := { dst := some 31, op := Op.fieldAddr 46 (Operand.tmp 12) 2, type := 0, pos := "l05_log.go:240", after := #[], guard := none }) (v := ?_) rfl (by kernel_rfl) (by kernel_rfl) (by kernel_rfl) onlyN_up (Or.inl ⟨by rfl, ?_⟩) hHeld ?_
          rotate_left
          · rintro w ⟨⟨z0, z1, z2⟩, ⟨y0, y1, y2⟩⟩; go_simp; (try with_reducible rfl)
          try simp only [Act.put, List.setIfInBounds_toArray, List.set_cons_zero, List.set_cons_succ]
          refine wpAnyH_take (i := 3) (oi := { dst := some 32, op := Op.load 9 (Operand.tmp 31), type := 9, pos := "l05_log.go:240", after := #[{ on := 2, ground := Ground.data }], guard := none }) (v := ?_) rfl (by kernel_rfl) (by kernel_rfl) (by kernel_rfl) onlyN_up (Or.inl ⟨by rfl, ?_⟩) hHeld ?_
          rotate_left
          · rintro w ⟨⟨z0, z1, z2⟩, ⟨y0, y1, y2⟩⟩; go_simp; (try with_reducible rfl)
          try simp only [Act.put, List.setIfInBounds_toArray, List.set_cons_zero, List.set_cons_succ]
          refine wpAnyH_take (i := 4) (oi := { dst := some 33, op := Op.binOp BinOp.eql 9 (Operand.tmp 30) (Operand.tmp 32) 9, type := 4, pos := "l05_log.go:240", after := #[{ on := 1, ground := Ground.data }, { on := 3, ground := Ground.data }], guard := none }) (v := .bool true) rfl (by kernel_rfl) (by kernel_rfl) (by kernel_rfl) onlyN_up (Or.inl ⟨by rfl, ?_⟩) hHeld ?_
          · rintro w ⟨⟨z0, z1, z2⟩, ⟨y0, y1, y2⟩⟩; go_simp; (try with_reducible rfl)
          try simp only [Act.put, List.setIfInBounds_toArray, List.set_cons_zero, List.set_cons_succ]
          refine wpAnyH_take (i := 5) (oi := { dst := some 34, op := Op.move (Operand.tmp 33), type := 4, pos := "l05_log.go:240", after := #[{ on := 4, ground := Ground.data }], guard := none }) (v := .bool true) rfl (by kernel_rfl) (by kernel_rfl) (by kernel_rfl) onlyN_up (Or.inl ⟨by rfl, ?_⟩) hHeld ?_
          · rintro w ⟨⟨z0, z1, z2⟩, ⟨y0, y1, y2⟩⟩; go_simp; (try with_reducible rfl)
          try simp only [Act.put, List.setIfInBounds_toArray, List.set_cons_zero, List.set_cons_succ]
          refine wpAnyH_take (i := 6) (oi := { dst := some 35, op := Op.load 46 (Operand.tmp 11), type := 46, pos := "l05_log.go:240", after := #[{ on := 5, ground := Ground.guard }], guard := some (5, true) }) (v := ?_) rfl (by kernel_rfl) (by kernel_rfl) (by kernel_rfl) onlyN_up (Or.inl ⟨by rfl, ?_⟩) hHeld ?_
          rotate_left
          · rintro w ⟨⟨z0, z1, z2⟩, ⟨y0, y1, y2⟩⟩; go_simp; (try with_reducible rfl)
          try simp only [Act.put, List.setIfInBounds_toArray, List.set_cons_zero, List.set_cons_succ]
          refine wpAnyH_take (i := 8) (oi := { dst := some 37, op := Op.load 46 (Operand.tmp 12), type := 46, pos := "l05_log.go:240", after := #[{ on := 5, ground := Ground.guard }], guard := some (5, true) }) (v := ?_) rfl (by kernel_rfl) (by kernel_rfl) (by kernel_rfl) onlyN_up (Or.inl ⟨by rfl, ?_⟩) hHeld ?_
          rotate_left
          · rintro w ⟨⟨z0, z1, z2⟩, ⟨y0, y1, y2⟩⟩; go_simp; (try with_reducible rfl)
          try simp only [Act.put, List.setIfInBounds_toArray, List.set_cons_zero, List.set_cons_succ]
          refine wpAnyH_ready (rs := [7]) (by kernel_rfl) (by simp) ?_
          refine AllReadyH.cons rfl (fun K hK => ?_) AllReadyH.nil
          go_simp
          go_at_call 28
          refine (HMa.out _).mono ?_
          rintro ek1 uk1 ⟨rfl, hbk1'⟩
          have hbk1 : Below U1.heap.size U1 uk1 := (hd1).trans (hbk1'.mono (hd1).size)
          go_wp2_with fail
          refine hK.out _ _ (HU.out _ hbk1).1 (fun hHeld => ?_)
          clear hbk1'
          clear hK K
          try simp only [Act.put, List.setIfInBounds_toArray, List.set_cons_zero, List.set_cons_succ]
          refine wpAnyH_ready (rs := [9]) (by kernel_rfl) (by simp) ?_
          refine AllReadyH.cons rfl (fun K hK => ?_) AllReadyH.nil
          go_simp
          go_at_call 28
          refine (HMb.out _).mono ?_
          rintro ek2 uk2 ⟨rfl, hbk2'⟩
          have hbk2 : Below U1.heap.size U1 uk2 := (hbk1).trans (hbk2'.mono (hbk1).size)
          go_wp2_with fail
          refine hK.out _ _ (HU.out _ hbk2).1 (fun hHeld => ?_)
          clear hbk2'
          clear hK K
          try simp only [Act.put, List.setIfInBounds_toArray, List.set_cons_zero, List.set_cons_succ]
          refine wpAnyH_take (i := 10) (oi := { dst := some 39, op := Op.binOp BinOp.neq 9 (Operand.tmp 36) (Operand.tmp 38) 9, type := 4, pos := "l05_log.go:240", after := #[{ on := 7, ground := Ground.data }, { on := 9, ground := Ground.data }, { on := 5, ground := Ground.guard }], guard := some (5, true) }) (v := .bool true) rfl (by kernel_rfl) (by kernel_rfl) (by kernel_rfl) onlyN_up (Or.inl ⟨by rfl, ?_⟩) hHeld ?_
          · rintro w ⟨⟨z0, z1, z2⟩, ⟨y0, y1, y2⟩⟩; go_simp; (try with_reducible rfl)
          try simp only [Act.put, List.setIfInBounds_toArray, List.set_cons_zero, List.set_cons_succ]
          refine wpAnyH_take (i := 11) (oi := { dst := some 40, op := Op.pick (Operand.tmp 34) (Operand.tmp 39) (Operand.const (Value.bool false)), type := 4, pos := "l05_log.go:240", after := #[{ on := 5, ground := Ground.data }, { on := 10, ground := Ground.data }], guard := none }) (v := .bool true) rfl (by kernel_rfl) (by kernel_rfl) (by kernel_rfl) onlyN_up (Or.inl ⟨by rfl, ?_⟩) hHeld ?_
          · rintro w ⟨⟨z0, z1, z2⟩, ⟨y0, y1, y2⟩⟩; go_simp; (try with_reducible rfl)
          try simp only [Act.put, List.setIfInBounds_toArray, List.set_cons_zero, List.set_cons_succ]
          refine wpAnyH_done (by kernel_rfl) ?_ _
          refine ⟨rfl, ?_⟩
          gi_wp2_with fail
          have hd2 : Below U1.heap.size U1 uk2.drew := (hbk2).drew
          refine region_round (S := fun u => (u.cell? ⟨Bx, 0, none⟩ = some (.string ra) ∧ u.cell? ⟨Bx, 1, none⟩ = some (.string aa) ∧ u.cell? ⟨Bx, 2, none⟩ = some (.string da)) ∧ (u.cell? ⟨By, 0, none⟩ = some (.string rb) ∧ u.cell? ⟨By, 1, none⟩ = some (.string ab) ∧ u.cell? ⟨By, 2, none⟩ = some (.string db))) (by kernel_rfl) (by kernel_rfl) (HU.out _ hd2).1 (fun hHeld => ?_)
          refine wpAnyH_take (i := 0) (oi := { dst := some 41, op := Op.load 46 (Operand.tmp 11), type := 46, pos := "l05_log.go:241", after := #[], guard := none }) (v := ?_) rfl (by kernel_rfl) (by kernel_rfl) (by kernel_rfl) onlyN_up (Or.inl ⟨by rfl, ?_⟩) hHeld ?_
          rotate_left
          · rintro w ⟨⟨z0, z1, z2⟩, ⟨y0, y1, y2⟩⟩; go_simp; (try with_reducible rfl)
          try simp only [Act.put, List.setIfInBounds_toArray, List.set_cons_zero, List.set_cons_succ]
          refine wpAnyH_take (i := 2) (oi := { dst := some 43, op := Op.load 46 (Operand.tmp 12), type := 46, pos := "l05_log.go:241", after := #[], guard := none }) (v := ?_) rfl (by kernel_rfl) (by kernel_rfl) (by kernel_rfl) onlyN_up (Or.inl ⟨by rfl, ?_⟩) hHeld ?_
          rotate_left
          · rintro w ⟨⟨z0, z1, z2⟩, ⟨y0, y1, y2⟩⟩; go_simp; (try with_reducible rfl)
          try simp only [Act.put, List.setIfInBounds_toArray, List.set_cons_zero, List.set_cons_succ]
          refine wpAnyH_ready (rs := [1]) (by kernel_rfl) (by simp) ?_
          refine AllReadyH.cons rfl (fun K hK => ?_) AllReadyH.nil
          go_simp
          go_at_call 28
          refine (HMa.out _).mono ?_
          rintro em1 um1 ⟨rfl, hbm1'⟩
          have hbm1 : Below U1.heap.size U1 um1 := (hd2).trans (hbm1'.mono (hd2).size)
          go_wp2_with fail
          refine hK.out _ _ (HU.out _ hbm1).1 (fun hHeld => ?_)
          clear hbm1'
          clear hK K
          try simp only [Act.put, List.setIfInBounds_toArray, List.set_cons_zero, List.set_cons_succ]
          refine wpAnyH_ready (rs := [3]) (by kernel_rfl) (by simp) ?_
          refine AllReadyH.cons rfl (fun K hK => ?_) AllReadyH.nil
          go_simp
          go_at_call 28
          refine (HMb.out _).mono ?_
          rintro em2 um2 ⟨rfl, hbm2'⟩
          have hbm2 : Below U1.heap.size U1 um2 := (hbm1).trans (hbm2'.mono (hbm1).size)
          go_wp2_with fail
          refine hK.out _ _ (HU.out _ hbm2).1 (fun hHeld => ?_)
          clear hbm2'
          clear hK K
          try simp only [Act.put, List.setIfInBounds_toArray, List.set_cons_zero, List.set_cons_succ]
          refine wpAnyH_take (i := 4) (oi := { dst := some 45, op := Op.build 25 #[(0, Operand.tmp 42), (1, Operand.tmp 44)], type := 25, pos := "l05_log.go:241", after := #[{ on := 1, ground := Ground.data }, { on := 3, ground := Ground.data }], guard := none }) (v := ?_) rfl (by kernel_rfl) (by kernel_rfl) (by kernel_rfl) onlyN_up (Or.inl ⟨by rfl, ?_⟩) hHeld ?_
          rotate_left
          · rintro w ⟨⟨z0, z1, z2⟩, ⟨y0, y1, y2⟩⟩; go_simp; (try with_reducible rfl)
          try simp only [Act.put, List.setIfInBounds_toArray, List.set_cons_zero, List.set_cons_succ]
          refine wpAnyH_ready (rs := [5]) (by kernel_rfl) (by simp) ?_
          refine AllReadyH.cons rfl (fun K hK => ?_) AllReadyH.nil
          obtain ⟨⟨q0, q1, q2, q3⟩, q4, q5, q6, q7⟩ := (HU.out _ hbm2).2.cells
          clear q3 q7
          go_simp
          refine hK.out _ _ (HF2.out HCl.out _ hbm2).1 (fun hHeld => ?_)
          clear q0 q1 q2 q4 q5 q6
          clear hK K
          try simp only [Act.put, List.setIfInBounds_toArray, List.set_cons_zero, List.set_cons_succ]
          refine wpAnyH_done (by kernel_rfl) ?_ _
          refine ⟨rfl, ?_⟩
          obtain ⟨q3, q7⟩ := (HF2.out HCl.out _ hbm2).2.1
          gi_wp2
          exact (HF2.out HCl.out _ hbm2).2.2
      · have hnc : ¬ (¬ ta = tb ∧ da = db) := fun h => hd h.2
        have qd := beqF hd
        have HNc : Hid (¬ (¬ ta = tb ∧ da = db)) := hnc
        clear hd hnc
        refine region_round (S := fun u => (u.cell? ⟨Bx, 0, none⟩ = some (.string ra) ∧ u.cell? ⟨Bx, 1, none⟩ = some (.string aa) ∧ u.cell? ⟨Bx, 2, none⟩ = some (.string da)) ∧ (u.cell? ⟨By, 0, none⟩ = some (.string rb) ∧ u.cell? ⟨By, 1, none⟩ = some (.string ab) ∧ u.cell? ⟨By, 2, none⟩ = some (.string db))) (by kernel_rfl) (by kernel_rfl) (HU.out _ hd1).1 (fun hHeld => ?_)
        refine wpAnyH_take (i := 0) (oi := { dst := some 29, op := Op.fieldAddr 46 (Operand.tmp 11) 2, type := 0, pos := "l05_log.go:240", after := #[], guard := none }) (v := ?_) rfl (by kernel_rfl) (by kernel_rfl) (by kernel_rfl) onlyN_up (Or.inl ⟨by rfl, ?_⟩) hHeld ?_
        rotate_left
        · rintro w ⟨⟨z0, z1, z2⟩, ⟨y0, y1, y2⟩⟩; go_simp; (try with_reducible rfl)
        try simp only [Act.put, List.setIfInBounds_toArray, List.set_cons_zero, List.set_cons_succ]
        refine wpAnyH_take (i := 1) (oi := { dst := some 30, op := Op.load 9 (Operand.tmp 29), type := 9, pos := "l05_log.go:240", after := #[{ on := 0, ground := Ground.data }], guard := none }) (v := ?_) rfl (by kernel_rfl) (by kernel_rfl) (by kernel_rfl) onlyN_up (Or.inl ⟨by rfl, ?_⟩) hHeld ?_
        rotate_left
        · rintro w ⟨⟨z0, z1, z2⟩, ⟨y0, y1, y2⟩⟩; go_simp; (try with_reducible rfl)
        try simp only [Act.put, List.setIfInBounds_toArray, List.set_cons_zero, List.set_cons_succ]
        refine wpAnyH_take (i := 2) (oi := { dst := some 31, op := Op.fieldAddr 46 (Operand.tmp 12) 2, type := 0, pos := "l05_log.go:240", after := #[], guard := none }) (v := ?_) rfl (by kernel_rfl) (by kernel_rfl) (by kernel_rfl) onlyN_up (Or.inl ⟨by rfl, ?_⟩) hHeld ?_
        rotate_left
        · rintro w ⟨⟨z0, z1, z2⟩, ⟨y0, y1, y2⟩⟩; go_simp; (try with_reducible rfl)
        try simp only [Act.put, List.setIfInBounds_toArray, List.set_cons_zero, List.set_cons_succ]
        refine wpAnyH_take (i := 3) (oi := { dst := some 32, op := Op.load 9 (Operand.tmp 31), type := 9, pos := "l05_log.go:240", after := #[{ on := 2, ground := Ground.data }], guard := none }) (v := ?_) rfl (by kernel_rfl) (by kernel_rfl) (by kernel_rfl) onlyN_up (Or.inl ⟨by rfl, ?_⟩) hHeld ?_
        rotate_left
        · rintro w ⟨⟨z0, z1, z2⟩, ⟨y0, y1, y2⟩⟩; go_simp; (try with_reducible rfl)
        try simp only [Act.put, List.setIfInBounds_toArray, List.set_cons_zero, List.set_cons_succ]
        refine wpAnyH_take (i := 4) (oi := { dst := some 33, op := Op.binOp BinOp.eql 9 (Operand.tmp 30) (Operand.tmp 32) 9, type := 4, pos := "l05_log.go:240", after := #[{ on := 1, ground := Ground.data }, { on := 3, ground := Ground.data }], guard := none }) (v := .bool false) rfl (by kernel_rfl) (by kernel_rfl) (by kernel_rfl) onlyN_up (Or.inl ⟨by rfl, ?_⟩) hHeld ?_
        · rintro w ⟨⟨z0, z1, z2⟩, ⟨y0, y1, y2⟩⟩; go_simp; (try with_reducible rfl)
        try simp only [Act.put, List.setIfInBounds_toArray, List.set_cons_zero, List.set_cons_succ]
        refine wpAnyH_take (i := 5) (oi := { dst := some 34, op := Op.move (Operand.tmp 33), type := 4, pos := "l05_log.go:240", after := #[{ on := 4, ground := Ground.data }], guard := none }) (v := .bool false) rfl (by kernel_rfl) (by kernel_rfl) (by kernel_rfl) onlyN_up (Or.inl ⟨by rfl, ?_⟩) hHeld ?_
        · rintro w ⟨⟨z0, z1, z2⟩, ⟨y0, y1, y2⟩⟩; go_simp; (try with_reducible rfl)
        try simp only [Act.put, List.setIfInBounds_toArray, List.set_cons_zero, List.set_cons_succ]
        refine wpAnyH_take (i := 6) (oi := { dst := some 35, op := Op.load 46 (Operand.tmp 11), type := 46, pos := "l05_log.go:240", after := #[{ on := 5, ground := Ground.guard }], guard := some (5, true) }) (v := undef) rfl (by kernel_rfl) (by kernel_rfl) (by kernel_rfl) onlyN_up (Or.inr ⟨by rfl, rfl⟩) hHeld ?_
        try simp only [Act.put, List.setIfInBounds_toArray, List.set_cons_zero, List.set_cons_succ]
        refine wpAnyH_take (i := 7) (oi := { dst := some 36, op := Op.call { callee := Callee.value (Operand.func 28), args := #[Operand.tmp 35], argTypes := #[46] }, type := 9, pos := "l05_log.go:240", after := #[{ on := 6, ground := Ground.data }, { on := 5, ground := Ground.chain }, { on := 5, ground := Ground.guard }], guard := some (5, true) }) (v := undef) rfl (by kernel_rfl) (by kernel_rfl) (by kernel_rfl) onlyN_up (Or.inr ⟨by rfl, rfl⟩) hHeld ?_
        try simp only [Act.put, List.setIfInBounds_toArray, List.set_cons_zero, List.set_cons_succ]
        refine wpAnyH_take (i := 8) (oi := { dst := some 37, op := Op.load 46 (Operand.tmp 12), type := 46, pos := "l05_log.go:240", after := #[{ on := 5, ground := Ground.guard }], guard := some (5, true) }) (v := undef) rfl (by kernel_rfl) (by kernel_rfl) (by kernel_rfl) onlyN_up (Or.inr ⟨by rfl, rfl⟩) hHeld ?_
        try simp only [Act.put, List.setIfInBounds_toArray, List.set_cons_zero, List.set_cons_succ]
        refine wpAnyH_take (i := 9) (oi := { dst := some 38, op := Op.call { callee := Callee.value (Operand.func 28), args := #[Operand.tmp 37], argTypes := #[46] }, type := 9, pos := "l05_log.go:240", after := #[{ on := 8, ground := Ground.data }, { on := 7, ground := Ground.chain }, { on := 5, ground := Ground.guard }], guard := some (5, true) }) (v := undef) rfl (by kernel_rfl) (by kernel_rfl) (by kernel_rfl) onlyN_up (Or.inr ⟨by rfl, rfl⟩) hHeld ?_
        try simp only [Act.put, List.setIfInBounds_toArray, List.set_cons_zero, List.set_cons_succ]
        refine wpAnyH_take (i := 10) (oi := { dst := some 39, op := Op.binOp BinOp.neq 9 (Operand.tmp 36) (Operand.tmp 38) 9, type := 4, pos := "l05_log.go:240", after := #[{ on := 7, ground := Ground.data }, { on := 9, ground := Ground.data }, { on := 5, ground := Ground.guard }], guard := some (5, true) }) (v := undef) rfl (by kernel_rfl) (by kernel_rfl) (by kernel_rfl) onlyN_up (Or.inr ⟨by rfl, rfl⟩) hHeld ?_
        try simp only [Act.put, List.setIfInBounds_toArray, List.set_cons_zero, List.set_cons_succ]
        refine wpAnyH_take (i := 11) (oi := { dst := some 40, op := Op.pick (Operand.tmp 34) (Operand.tmp 39) (Operand.const (Value.bool false)), type := 4, pos := "l05_log.go:240", after := #[{ on := 5, ground := Ground.data }, { on := 10, ground := Ground.data }], guard := none }) (v := .bool false) rfl (by kernel_rfl) (by kernel_rfl) (by kernel_rfl) onlyN_up (Or.inl ⟨by rfl, ?_⟩) hHeld ?_
        · rintro w ⟨⟨z0, z1, z2⟩, ⟨y0, y1, y2⟩⟩; go_simp; (try with_reducible rfl)
        try simp only [Act.put, List.setIfInBounds_toArray, List.set_cons_zero, List.set_cons_succ]
        refine wpAnyH_done (by kernel_rfl) ?_ _
        refine ⟨rfl, ?_⟩
        obtain ⟨⟨_, _, _, q3⟩, _, _, _, q7⟩ := (HU.out _ hd1).2.cells
        gi_wp2
        exact HF1.out HNc.out _ hd1
    case done2 =>
      rintro D2 xs U hD2 rfl hI hK
      rw [stC_all] at hI
      obtain ⟨A, HA⟩ : ∃ A, Hid (A = (clashF macB key a b a.length).1) := ⟨_, rfl⟩
      obtain ⟨B, HB⟩ : ∃ B, Hid (B = (clashF macB key a b a.length).2.1) := ⟨_, rfl⟩
      dsimp only at hI
      rw [← HA.out, ← HB.out] at hI
      have e0 : U.cell? ⟨W.heap.size, 0, none⟩ = some (.string A) := by simp [World.cell?, hI.out]
      have e1 : U.cell? ⟨W.heap.size, 1, none⟩ = some (.string B) := by simp [World.cell?, hI.out]
      have e2 : U.cell? ⟨W.heap.size, 2, none⟩ = some (.int .i64 0) := by simp [World.cell?, hI.out]
      have r0 : U.cell? ⟨w.heap.size, 0, none⟩ = some (.string ⟨#[]⟩) := by simp [World.cell?, hI.res]
      have r1 : U.cell? ⟨w.heap.size, 1, none⟩ = some (.string ⟨#[]⟩) := by simp [World.cell?, hI.res]
      have r2 : U.cell? ⟨w.heap.size, 2, none⟩ = some (.int .i64 0) := by simp [World.cell?, hI.res]
      have f0 : U.frozen? ⟨w.heap.size, 0, none⟩ = false := frozen_of_row _ _ _ _ _ hI.res
      have f1 : U.frozen? ⟨w.heap.size, 1, none⟩ = false := frozen_of_row _ _ _ _ _ hI.res
      have f2 : U.frozen? ⟨w.heap.size, 2, none⟩ = false := frozen_of_row _ _ _ _ _ hI.res
      have hq : ∀ j, W0.heap.size ≤ j → j ≠ w.heap.size := fun j hj e => by omega
      have hq2 : ∀ j, W1.heap.size ≤ j → j ≠ w.heap.size := fun j hj e => by omega
      have g0 := heap_setCell_same U w.heap.size 0 _ _ (.string A) hI.res
      have g1 := heap_setCell_same _ w.heap.size 1 _ _ (.string B) g0
      have g2 := heap_setCell_same _ w.heap.size 2 _ _ (.int .i64 0) g1
      have hK2 : (((U.setCell ⟨w.heap.size, 0, none⟩ (.string A)).setCell ⟨w.heap.size, 1, none⟩ (.string B)).setCell ⟨w.heap.size, 2, none⟩ (.int .i64 0)).heap[D2]? = some (.deferred (some [])) := by
        rw [heap_setCell_other _ _ _ _ (hq2 D2 hD2), heap_setCell_other _ _ _ _ (hq2 D2 hD2), heap_setCell_other _ _ _ _ (hq2 D2 hD2)]
        exact hK
      have hK1 : (((U.setCell ⟨w.heap.size, 0, none⟩ (.string A)).setCell ⟨w.heap.size, 1, none⟩ (.string B)).setCell ⟨w.heap.size, 2, none⟩ (.int .i64 0)).heap[D]? = some (.deferred (some [])) := by
        rw [heap_setCell_other _ _ _ _ (hq D hD), heap_setCell_other _ _ _ _ (hq D hD), heap_setCell_other _ _ _ _ (hq D hD)]
        exact hI.mark
      have hb : Below w.heap.size w (((U.setCell ⟨w.heap.size, 0, none⟩ (.string A)).setCell ⟨w.heap.size, 1, none⟩ (.string B)).setCell ⟨w.heap.size, 2, none⟩ (.int .i64 0)) := ((hI.below.setCell (p := ⟨w.heap.size, 0, none⟩) (Nat.le_refl _) _).setCell (p := ⟨w.heap.size, 1, none⟩) (Nat.le_refl _) _).setCell (p := ⟨w.heap.size, 2, none⟩) (Nat.le_refl _) _
      have hK1b := ((grownBy_putObj' (((U.setCell ⟨w.heap.size, 0, none⟩ (.string A)).setCell ⟨w.heap.size, 1, none⟩ (.string B)).setCell ⟨w.heap.size, 2, none⟩ (.int .i64 0)) D2 (.deferred none)).block D (heap_lt hK1) (by simp; omega)).trans hK1
      have g3 := ((grownBy_putObj' (((U.setCell ⟨w.heap.size, 0, none⟩ (.string A)).setCell ⟨w.heap.size, 1, none⟩ (.string B)).setCell ⟨w.heap.size, 2, none⟩ (.int .i64 0)) D2 (.deferred none)).block _ (heap_lt g2) (by simp; omega)).trans g2
      have hb2 : Below w.heap.size w ((((U.setCell ⟨w.heap.size, 0, none⟩ (.string A)).setCell ⟨w.heap.size, 1, none⟩ (.string B)).setCell ⟨w.heap.size, 2, none⟩ (.int .i64 0)).putObj D2 (.deferred none)) := hb.grown (grownBy_putObj' _ D2 _) hb.size (fun k e => by cases e; omega)
      clear hI bO bP bK2 bT2 HRow
      gi_wp2
      refine ⟨by simp, .inl ⟨_, _, rfl, run_takeDeferred hK2, ?_⟩⟩
      refine ⟨by simp, .inl ⟨_, _, rfl, run_takeDeferred hK1b, ?_⟩⟩
      have g4 := ((grownBy_putObj' ((((U.setCell ⟨w.heap.size, 0, none⟩ (.string A)).setCell ⟨w.heap.size, 1, none⟩ (.string B)).setCell ⟨w.heap.size, 2, none⟩ (.int .i64 0)).putObj D2 (.deferred none)) D (.deferred none)).block _ (heap_lt g3) (by simp; omega)).trans g3
      exact ⟨_, results_cell_row Tryd.results21 _ _ w.heap.size _ _ _ _ rfl g4 Tryd.underlying25 rfl infoCl, by rw [← HA.out, ← HB.out]; rfl, hb2.grown (grownBy_putObj' _ D _) hb2.size (fun k e => by cases e; omega)⟩
    case stop2 =>
      rintro D c pre U _ _ h _
      exact h.elim
  case stop =>
    rintro D c pre W _ _ h _
    exact h.elim
end Go.Proofs.YtjnlffdopbfelabDoor.li
