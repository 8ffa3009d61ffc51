/-
  The law on OpenBox for every key, number and box, where the two tables lie in their variables: it answers true; no old block turns.
-/
import Derived.Test.YtkfiigmfhfhkgahDoorBoxOut
namespace Go.Proofs.YtkfiigmfhfhkgahDoor.cc
open Go.ChangeShapes Go.WideShapes Go.ChangeAt Go.RowKit
set_option linter.unusedVariables false

set_option maxHeartbeats 2000000 in
theorem eqTextOut_any (T : ByteArray) (c : Int) (w : World) :
    Calls Tryd.prog 9 #[.agg #[.string T, .int .i64 0, .int .i64 c], .agg #[.string T, .int .i64 0, .int .i64 c]] w fun e w' => e = .returned (.bool true) ∧ Below w.heap.size w w' := by
  have HB : Hid (Below w.heap.size w ((w.alloc (.cells #[.string T, .int .i64 0, .int .i64 c] 23)).alloc (.cells #[.string T, .int .i64 0, .int .i64 c] 23))) := ((Below.refl _ _).alloc (Nat.le_refl _) _).alloc (((Below.refl _ _).alloc (Nat.le_refl _) _).size) _
  have hq : (T.toList == T.toList) = true := by simp
  go_enter Tryd.func9, Tryd.ntmps9
  go_wp2
  go_ret
  exact ⟨rfl, HB.out⟩

set_option maxHeartbeats 4000000 in
theorem openWalk (a0 : ByteArray) (a1 : Int) (a2 : ByteArray) (w : World) (w0 : a0.size ≤ maxLen) (w2 : a2.size ≤ maxLen) (hg : Both w) :
    Calls Tryd.prog 3 #[.string a0, .int .i64 a1, .string a2] w fun e w' => e = .returned (.bool true) ∧ Below w.heap.size w w' := by
  have w0' := w0
  have w2' := w2
  unfold maxLen at w0' w2'
  by_cases hb : 1048576 < a0.size
  · go_enter Tryd.func3, Tryd.ntmps3
    go_wp2
    go_ret
    exact ⟨rfl, Below.refl _ _⟩
  · by_cases hb2 : 1048576 < a2.size
    · go_enter Tryd.func3, Tryd.ntmps3
      go_wp2
      go_ret
      exact ⟨rfl, Below.refl _ _⟩
    · obtain ⟨T, c, hO⟩ : ∃ T c, openA a0 a1 a2 = (T, c) := ⟨_, _, rfl⟩
      have HS := specOpen_out a0 a1 a2 T c hO w w0 w2
      have HI : Hid (∀ u, Below w.heap.size w u → Calls Tryd.prog 8 #[.string a0, .int .i64 a1, .string a2] u fun e w' => e = .returned (.agg #[.string T, .int .i64 0, .int .i64 c]) ∧ Below u.heap.size u w') := fun u hu => implOpen_out a0 a1 a2 T c hO u w0 w2 (hg.up hu)
      clear hO hg
      go_enter Tryd.func3, Tryd.ntmps3
      go_wp2_with (go_at_call 7; fail)
      refine HS.mono ?_
      rintro e w1 ⟨rfl, hb1⟩
      clear HS
      have hB1 := hb1.alloc hb1.size (.cells #[.string T, .int .i64 0, .int .i64 c] 23)
      have hn1 : (w1.alloc (.cells #[.string T, .int .i64 0, .int .i64 c] 23)).heap[w1.heap.size]? = some (.cells #[.string T, .int .i64 0, .int .i64 c] 23 (0, 0)) := heap_alloc_new _ _
      go_wp2_with (go_at_call 8; fail)
      obtain ⟨p, hp⟩ : ∃ p, p = w1.heap.size := ⟨_, rfl⟩
      rw [← hp] at hn1 ⊢
      clear hp hb1
      refine calls_w (fun u => Below w.heap.size w u ∧ u.heap[p]? = some (.cells #[.string T, .int .i64 0, .int .i64 c] 23 (0, 0))) ⟨hB1, hn1⟩ ?_
      clear hB1 hn1
      rintro u ⟨hBu, hpu⟩
      refine (HI.out u hBu).mono ?_
      rintro e w3 ⟨rfl, hb3⟩
      have hB3 := hBu.trans (hb3.mono hBu.size)
      have h3 := (hb3.block _ (heap_lt hpu)).trans hpu
      clear hBu hpu hb3 HI
      have h3' : (w3.alloc (.cells #[.string T, .int .i64 0, .int .i64 c] 23)).heap[p]? = some (.cells #[.string T, .int .i64 0, .int .i64 c] 23 (0, 0)) := (Below.heap_alloc _ _ _ (heap_lt h3)).trans h3
      have HB4 : Hid (Below w.heap.size w (w3.alloc (.cells #[.string T, .int .i64 0, .int .i64 c] 23))) := hB3.alloc hB3.size _
      clear h3 hB3
      go_wp2_with (first | (refine wpList_load_row rfl 23 _ rfl w3.heap.size rfl _ _ _ _ (heap_alloc_new _ _) Tryd.underlying23 rfl infoO ?_) | (refine wpList_load_row rfl 23 _ rfl p rfl _ _ _ _ h3' Tryd.underlying23 rfl infoO ?_) | (go_at_call 9; refine (eqTextOut_any T c _).mono ?_; rintro e w6 ⟨rfl, hb6⟩; have HB6 : Hid (Below w.heap.size w w6) := HB4.out.trans (hb6.mono HB4.out.size)))
      go_ret
      exact ⟨rfl, HB6.out⟩
end Go.Proofs.YtkfiigmfhfhkgahDoor.cc
