/-
  The program's chainOf: the chain of all the records of a right log; no old block turns. Condition: the table of the rounds' numbers lies in its variable.
  The program's within; slices cut off; no old block turns. Condition: the table of the rounds' numbers lies in its variable.
-/
import Derived.Test.YtcfekhahibklfaaDoorLgIt
import Derived.Test.YtcfekhahibklfaaDoorMg13
namespace Go.Proofs.YtcfekhahibklfaaDoor.li
open Go.ChangeShapes Go.WideShapes Go.ChangeAt Go.RowKit Go.Shelf
open Go.Proofs.YtcfekhahibklfaaDoor.wi (heap_lt calls_w wp_w)
open Go.Proofs.YtcfekhahibklfaaDoor.lg Go.Proofs.YtcfekhahibklfaaDoor.ss
open Go.Proofs.YtcfekhahibklfaaDoor.sh (macB macB_size Tab Tab.up Tab.below Tab.lt)
set_option linter.unusedVariables false
attribute [local go_sem] Oper.semAt_some

/-- the chain behind what has come -/
def lastC (key : ByteArray) (l : List ByteArray) (pre : List (Fin l.length)) : ByteArray := match pre.getLast? with
  | none => chainS macB key
  | some k => chain macB key (l.take (k.1 + 1))
theorem lastC_nil (key : ByteArray) (l : List ByteArray) : lastC key l [] = chainS macB key := rfl
theorem lastC_snoc (key : ByteArray) (l : List ByteArray) (pre : List (Fin l.length)) (k : Fin l.length) : lastC key l (pre ++ [k]) = chain macB key (l.take (k.1 + 1)) := by
  unfold lastC; rw [List.getLast?_append]; rfl
theorem lastC_all (key : ByteArray) (l : List ByteArray) : lastC key l (List.finRange l.length) = chain macB key l := by
  rcases Nat.eq_zero_or_pos l.length with h | h
  · have : l = [] := List.eq_nil_of_length_eq_zero h
    subst this; rfl
  · have e := upF_succ (n := l.length) (k := l.length - 1) (by omega)
    have e1 : l.length - 1 + 1 = l.length := by omega
    rw [e1, upF_all] at e
    rw [e, lastC_snoc]
    show chain macB key (l.take (l.length - 1 + 1)) = _
    rw [e1, List.take_length]
/-- a variable, and the two of an iterator behind it -/
theorem three_boxes (w1 : World) (t : TypeId) (v : Value) (key : ByteArray) (lv : Value) : ∃ W0, W0 = ((w1.alloc (.cells #[v] t)).alloc (boxT key)).alloc (boxL lv) ∧ Boxed W0 w1.heap.size t v ∧ Boxed W0 (w1.heap.size + 1) 9 (.string key) ∧ Boxed W0 (w1.heap.size + 1 + 1) 23 lv ∧ W0.heap.size = w1.heap.size + 3 ∧ Below w1.heap.size w1 W0 := by
  have bK := (Boxed.new (w1.alloc (.cells #[v] t)) 9 (.string key)).alloc (boxL lv)
  have bR := Boxed.new ((w1.alloc (.cells #[v] t)).alloc (boxT key)) 23 lv
  simp only [World.size_alloc] at bK bR
  exact ⟨_, rfl, ((Boxed.new w1 t v).alloc (boxT key)).alloc (boxL lv), bK, bR, by simp, (((Below.refl _ w1).alloc (Nat.le_refl _) _).alloc (by simp) _).alloc (by simp; omega) _⟩
theorem Kc.setLow {n₀ B : Nat} {W : World} {b o : Nat} (v : Value) (h1 : n₀ ≤ b) (h2 : b < B) : Kc n₀ B W (W.setCell ⟨b, o, none⟩ v) :=
  ⟨(Below.refl _ _).setCell (p := ⟨b, o, none⟩) h1 v, fun k u hk hu => (World.cell?_of_block (w := W) (a := ⟨k, 0, none⟩) (Below.heap_setCell W ⟨b, o, none⟩ v k (fun e => by have : k = b := e; omega))).trans hu, fun k c m hk hu => (Below.heap_setCell W ⟨b, o, none⟩ v k (fun e => by have : k = b := e; omega)).trans hu⟩
set_option maxHeartbeats 8000000 in
set_option maxRecDepth 100000 in
theorem chainOf_any (key : ByteArray) (v : Value) (l : List ByteArray) (w : World) (hk : KeyL key) (h1 : ∀ r ∈ l, r.size ≤ 200) (h60 : l.length ≤ 60) (hT : Tab w) (hv : SliceIs w v l) :
    Calls Tryd.prog 54 #[.string key, v] w fun e w' => e = .returned (.string (chain macB key l)) ∧ Below w.heap.size w w' := by
  obtain ⟨p, cap, rfl⟩ := hv.shape
  have HS : Hid (Calls Tryd.prog 18 #[.string key] w fun r w' => r = .returned (.string (chainS macB key)) ∧ Below w.heap.size w w') := startI_any key w (by have := hk.2; unfold maxLen; omega) hT
  refine (callsIn_wide (n := 5)).1 ?_
  refine callsIn_of_wp_marks Tryd.func54 rfl trivial ?_ rfl
  simp only [Tryd.ntmps54, List.size_toArray, List.length_cons, List.length_nil, Nat.reduceAdd, Nat.reduceSub, Array.replicate_succ, Array.replicate_zero, List.push_toArray, List.append_toArray, List.nil_append, List.cons_append]
  gi_wp2_with (first | (refine ⟨trivial, ?_⟩; gi_at_call 18; refine (callsIn_wide.2 HS.out).mono ?_; rintro e w1 ⟨rfl, hb1⟩) | (refine ⟨trivial, ?_⟩; gi_at_call 36; refine (callsIn_wide.2 (chainedBy_any key p l.length cap _)).mono ?_; rintro e w2 ⟨rfl, rfl⟩))
  obtain ⟨W0, hW0, bC, bK, bR, hsz, hB0'⟩ := three_boxes w1 9 (.string (chainS macB key)) key (.slice p l.length cap)
  have hB0 : Below w.heap.size w W0 := hb1.trans (hB0'.mono hb1.size)
  have hw1 := hb1.size
  rw [← hW0]
  clear hW0 HS hB0'
  refine wpIn_rangeFunc_ownH rfl (by omega) (gf := 64) (lb := #[.pointer (some ⟨w1.heap.size + 1, 0, none⟩), .pointer (some ⟨w1.heap.size + 1 + 1, 0, none⟩)]) rfl trivial (enters_of Tryd.func64 (by kernel_rfl) rfl)
    (chained_any 4 w.heap.size W0.heap.size key l (.slice p l.length cap) (w1.heap.size + 1) (w1.heap.size + 1 + 1) W0 (by omega) hk h1 h60 (hT.up hB0) hT.lt (by omega) (Nat.le_refl _) bK.cell bR.cell ((SlN.of hv).below hB0)) Kc.trans (fun W l' o o' hl ho hc _ => Kc.put o' (by omega) ho hc) (Below.refl _ _) (fun _ => rfl)
    (fun pre W => Boxed W w1.heap.size 9 (.string (lastC key l pre)) ∧ Below w.heap.size w W)
    (fun _ _ _ => False)
    (OwnFrom.and (Own.from (boxed_own _ _ _) _) (ownFrom_below (Nat.le_refl _) (by omega)))
    (fun _ _ _ _ _ hs _ _ => hs)
    ⟨bC, hB0⟩
    (fun x a' W => ∃ Bx, w1.heap.size < Bx ∧ W.heap[Bx]? = some (.cells #[.string (l.getD x.1 ⟨#[]⟩), .string (chain macB key (l.take x.1)), .string (chain macB key (l.take (x.1 + 1)))] 65 (0, 0)) ∧ a' = { tmps := #[.string key, .slice p l.length cap, undef, undef, .string ⟨#[]⟩, .pointer (some ⟨w1.heap.size, 0, none⟩), .pointer (some ⟨Bx, 0, none⟩), .string key, .string (chainS macB key), .string key, .slice p l.length cap, .func (.func 64) #[] #[.pointer (some ⟨w1.heap.size + 1, 0, none⟩), .pointer (some ⟨w1.heap.size + 1 + 1, 0, none⟩)], enc3 (l.getD x.1 ⟨#[]⟩) (chain macB key (l.take x.1)) (chain macB key (l.take (x.1 + 1))), undef, undef, undef], defers := [] })
    (fun x a' _ X Y row hs hg hr => by
      obtain ⟨Bx, h1, h2, h3⟩ := hs
      exact ⟨Bx, h1, (hg.block Bx (heap_lt h2) (fun e => by
        obtain ⟨_, o, ho, hc⟩ := hr Bx e.symm
        rw [h2] at ho; cases ho; cases hc)).trans h2, h3⟩)
    ?assign ?body ?done ?stop
  case assign =>
    rintro l' pre x W K ⟨bC1, hB1⟩ hK
    dsimp only [encC, enc3] at hK ⊢
    generalize l.getD x.1 ⟨#[]⟩ = r at hK ⊢
    generalize chain macB key (l.take x.1) = c at hK ⊢
    generalize chain macB key (l.take (x.1 + 1)) = d at hK ⊢
    gi_wp2
    exact hK _ _ ((KeepsOthers.alloc _ _).from _) (Kc.up ((Below.refl _ W).alloc (Nat.le_refl _) _) hB1.size) ⟨bC1.alloc _, hB1.alloc hB1.size _⟩ ⟨W.heap.size, bC1.lt, heap_alloc_new W _, rfl⟩
  case body =>
    rintro l' pre x a' W hl ⟨lr, hlr⟩ ⟨bC1, hB1⟩ ⟨Bx, hBx, bX, rfl⟩ hlt
    unfold enc3
    have cX : W.cell? ⟨Bx, 2, none⟩ = some (.string (chain macB key (l.take (x.1 + 1)))) := by simp [World.cell?, bX]
    have HL : Hid (lastC key l (pre ++ [x]) = chain macB key (l.take (x.1 + 1))) := lastC_snoc key l pre x
    generalize l.getD x.1 ⟨#[]⟩ = r at *
    generalize chain macB key (l.take x.1) = c at *
    generalize chain macB key (l.take (x.1 + 1)) = d at *
    have cC := bC1.cell
    have fC := bC1.frozen
    gi_wp2
    exact ⟨(KeepsOthers.setCell _ _ _).from _, Kc.setLow _ (by omega) (by omega), by rw [HL.out]; exact bC1.set _, hB1.setCell (p := ⟨w1.heap.size, 0, none⟩) hw1 _⟩
  case done =>
    rintro D xs W hD rfl ⟨bC1, hB1⟩ hK
    rw [lastC_all] at bC1
    have cC := bC1.cell
    gi_wp2
    refine ⟨by simp, .inl ⟨_, _, rfl, run_takeDeferred hK, ?_⟩⟩
    exact ⟨_, results_tmp rfl _ _ _, rfl, hB1.grown (grownBy_putObj' W D _) hB1.size (fun k e => by cases e; omega)⟩
  case stop =>
    rintro D c pre W _ _ h _
    exact h.elim
end Go.Proofs.YtcfekhahibklfaaDoor.li

namespace Go.Proofs.YtcfekhahibklfaaDoor.li
open Go.ChangeShapes Go.WideShapes Go.ChangeAt Go.RowKit
open Go.Proofs.YtcfekhahibklfaaDoor.wi (heap_lt calls_w wp_w)
open Go.Proofs.YtcfekhahibklfaaDoor.lg Go.Proofs.YtcfekhahibklfaaDoor.ss
open Go.Proofs.YtcfekhahibklfaaDoor.sh (macB macB_size Tab Tab.up Tab.below Tab.lt)
set_option linter.unusedVariables false

theorem withinI_any (n lo hi : Int) (w : World) : Calls Tryd.prog 53 #[.int .i64 n, .int .i64 lo, .int .i64 hi] w fun e w' => e = .returned (.bool (decide (lo ≤ n ∧ n ≤ hi))) ∧ w' = w := by
  by_cases h1 : lo ≤ n
  · by_cases h2 : n ≤ hi
    · rw [decide_eq_true ⟨h1, h2⟩]
      go_enter Tryd.func53, Tryd.ntmps53
      go_wp2
      go_ret
      exact ⟨rfl, rfl⟩
    · rw [decide_eq_false (fun h => h2 h.2)]
      go_enter Tryd.func53, Tryd.ntmps53
      go_wp2
      go_ret
      exact ⟨rfl, rfl⟩
  · rw [decide_eq_false (fun h => h1 h.1)]
    go_enter Tryd.func53, Tryd.ntmps53
    go_wp2
    go_ret
    exact ⟨rfl, rfl⟩
theorem slice_take {w : World} {p : Option Addr} {m cap : Nat} {l : List ByteArray} (h : SliceIs w (.slice p m cap) l) {n : Nat} (hn : n ≤ l.length) : SliceIs w (.slice p n n) (l.take n) := by
  rcases h with ⟨p2, c2, rfl, he⟩ | ⟨b, off, c2, hb, he, hR⟩
  · obtain rfl : n = 0 := by simpa using hn
    exact .inl ⟨p, 0, by simp, rfl⟩
  · simp only [Value.slice.injEq] at he
    obtain ⟨rfl, rfl, rfl⟩ := he
    refine .inr ⟨b, off, n, hb, ?_, ?_⟩
    · rw [List.length_take, Nat.min_eq_left hn]
    · intro j hj
      rw [List.length_take, Nat.min_eq_left hn] at hj
      rw [hR j (by omega), getD_at (by omega), getD_at (by rw [List.length_take]; omega), List.getElem_take]
/-- the room behind a slice -/
def Capd (v : Value) : Prop := ∀ p m cap, v = .slice p m cap → m ≤ cap ∧ cap ≤ maxLen
end Go.Proofs.YtcfekhahibklfaaDoor.li
