/-
  The walk of the law that holds the program's PatchBytes against the model's: true at every patch. No condition.
-/
import Derived.Test.YtikkohecanmefabPbJ
import Derived.Test.YtikkohecanmefabPaT
namespace Go.Proofs.Ytikkohecanmefab.ls
open Go.ChangeShapes Go.WideShapes Go.ChangeAt Go.RowKit
open Go.Proofs.Ytikkohecanmefab.pn (i64P)
open Go.Proofs.Ytikkohecanmefab.wi (heap_lt calls_w wp_w)
open Classical
set_option linter.unusedVariables false

/-- what is known inside a law: the argument's block -/
def InL (w : World) (v : Value) (row col : Int) (e : ByteArray) (u : World) : Prop := Below w.heap.size w u ∧ u.heap[w.heap.size]? = some (.cells #[v, .int .i64 row, .int .i64 col, .string e] 27 (0, 0))
theorem InL.new {w : World} {v : Value} {row col : Int} {e : ByteArray} : InL w v row col e (w.alloc (.cells #[v, .int .i64 row, .int .i64 col, .string e] 27)) := ⟨(Below.refl _ _).alloc (Nat.le_refl _) _, heap_alloc_new _ _⟩
theorem InL.up {w u u' : World} {v : Value} {row col : Int} {e : ByteArray} (h : InL w v row col e u) (hb : Below u.heap.size u u') : InL w v row col e u' := ⟨h.1.trans (hb.mono h.1.size), (hb.block _ (heap_lt h.2)).trans h.2⟩
theorem InL.below {w u : World} {v : Value} {row col : Int} {e : ByteArray} (h : InL w v row col e u) : Below w.heap.size w u := h.1
theorem InL.drewN {w u : World} {v : Value} {row col : Int} {e : ByteArray} (h : InL w v row col e u) (m : Nat) : InL w v row col e (u.drewN m) := ⟨below_drewN h.1 m, h.2⟩
theorem InL.cells {w u : World} {v : Value} {row col : Int} {e : ByteArray} (h : InL w v row col e u) : u.cell? ⟨w.heap.size, 0, none⟩ = some v ∧ u.cell? ⟨w.heap.size, 1, none⟩ = some (.int .i64 row) ∧ u.cell? ⟨w.heap.size, 2, none⟩ = some (.int .i64 col) ∧ u.cell? ⟨w.heap.size, 3, none⟩ = some (.string e) := by
  refine ⟨?_, ?_, ?_, ?_⟩ <;> simp [World.cell?, h.2]
/-- what is known where the argument's copy is held against the argument -/
def InE (w : World) (v : Value) (row col : Int) (e : ByteArray) (q g : Nat) (l : List Ln) (u : World) : Prop := InL w v row col e u ∧ u.heap[q]? = some (.cells #[.slice (some ⟨g, 0, none⟩) l.length l.length, .int .i64 row, .int .i64 col, .string e] 37 (0, 0)) ∧ Blk u g l
theorem InE.up {w u u' : World} {v : Value} {row col : Int} {e : ByteArray} {q g : Nat} {l : List Ln} (h : InE w v row col e q g l u) (hb : Below u.heap.size u u') : InE w v row col e q g l u' := ⟨h.1.up hb, (hb.block _ (heap_lt h.2.1)).trans h.2.1, h.2.2.up hb⟩
theorem InE.drew {w u : World} {v : Value} {row col : Int} {e : ByteArray} {q g : Nat} {l : List Ln} (h : InE w v row col e q g l u) : InE w v row col e q g l u.drew := ⟨⟨h.1.1.drew, h.1.2⟩, h.2.1, h.2.2⟩
theorem InE.below {w u : World} {v : Value} {row col : Int} {e : ByteArray} {q g : Nat} {l : List Ln} (h : InE w v row col e q g l u) : Below w.heap.size w u := h.1.1
theorem InE.slice {w u : World} {v : Value} {row col : Int} {e : ByteArray} {q g : Nat} {l : List Ln} (h : InE w v row col e q g l u) : SliceIs u (.slice (some ⟨g, 0, none⟩) l.length l.length) l := h.2.2.slice
theorem InE.cells {w u : World} {v : Value} {row col : Int} {e : ByteArray} {q g : Nat} {l : List Ln} (h : InE w v row col e q g l u) :
    (u.cell? ⟨q, 0, none⟩ = some (.slice (some ⟨g, 0, none⟩) l.length l.length) ∧ u.cell? ⟨q, 1, none⟩ = some (.int .i64 row) ∧ u.cell? ⟨q, 2, none⟩ = some (.int .i64 col) ∧ u.cell? ⟨q, 3, none⟩ = some (.string e)) ∧
    u.cell? ⟨w.heap.size, 0, none⟩ = some v ∧ u.cell? ⟨w.heap.size, 1, none⟩ = some (.int .i64 row) ∧ u.cell? ⟨w.heap.size, 2, none⟩ = some (.int .i64 col) ∧ u.cell? ⟨w.heap.size, 3, none⟩ = some (.string e) := by
  refine ⟨⟨?_, ?_, ?_, ?_⟩, h.1.cells⟩ <;> simp [World.cell?, h.2.1]
theorem szS_ok {left : Int} {l : List Ln} {e : ByteArray} (h : ¬ szS left l e < 0) (hl : left ≤ 1048576) : l.length ≤ 1048576 ∧ szS left l e = left - ((l.length : Int) + (tot l : Int) + (e.size : Int)) := by
  unfold szS at h ⊢
  split at h
  · exact absurd (by decide) h
  · rename_i h2
    rw [if_neg h2]
    exact ⟨by omega, rfl⟩

set_option maxHeartbeats 8000000 in
theorem lawBytes (w : World) (x : Value) (l : List Ln) (row col : Int) (e : ByteArray) (hl : l.length ≤ maxLen) (hz : ∀ r ∈ l, r.2.size ≤ maxLen) (hv : SliceIs w x l) (he : e.size ≤ maxLen) (hr : i64P row) (hc : i64P col) (hi : AllI l) :
    Calls Try.prog 4 #[.agg #[x, .int .i64 row, .int .i64 col, .string e]] w fun r w' => r = .returned (.bool true) ∧ Below w.heap.size w w' := by
  have HI0 : Hid (InL w x row col e (w.alloc (.cells #[x, .int .i64 row, .int .i64 col, .string e] 27))) := InL.new
  have HV : Hid (∀ u, Below w.heap.size w u → SliceIs u x l) := fun u hu => hv.up hu
  clear hv
  go_enter Try.func4, Try.ntmps4
  go_wp2_with (go_at_call 7; fail)
  refine calls_w (InL w x row col e) HI0.out ?_
  clear HI0
  intro u0 h0
  refine (szPat_any x l row col e 1048576 u0 (by decide) (Int.le_refl _) hl hz he (HV.out _ h0.1)).mono ?_
  rintro r w1 ⟨rfl, hb1⟩
  have h1 := h0.up hb1
  clear h0 hb1
  by_cases hneg : szS 1048576 l e < 0
  · have d : decide (szS 1048576 l e < 0) = true := decide_eq_true hneg
    have HB : Hid (Below w.heap.size w w1) := h1.1
    generalize szS 1048576 l e = z at *
    clear h1 hz
    go_wp2
    go_ret
    exact ⟨rfl, HB.out⟩
  · obtain ⟨hs2, _⟩ := szS_ok hneg (Int.le_refl _)
    have d : decide (szS 1048576 l e < 0) = false := decide_eq_false hneg
    generalize szS 1048576 l e = z at *
    obtain ⟨x0, x1, x2, x3⟩ := h1.cells
    go_wp2_with (go_at_call 10; fail)
    refine (toPat_any x l row col e w1 hs2 (HV.out _ h1.1)).mono ?_
    rintro r w2 ⟨g1, rfl, hb2, hk1, hg1⟩
    have h2 := h1.up hb2
    clear h1 hb2 x0 x1 x2 x3 hneg d
    go_wp2_with (go_at_call 19; fail)
    refine (bytesM_any _ l row col e w2 hl hz he hr hc hi hk1.slice).mono ?_
    rintro r w3 ⟨A, rfl, hA, hb3⟩
    have h3 := h2.up hb3
    clear h2 hb3 hk1 hg1
    obtain ⟨x0, x1, x2, x3⟩ := h3.cells
    go_wp2_with (go_at_call 10; fail)
    refine (toPat_any x l row col e w3 hs2 (HV.out _ h3.1)).mono ?_
    rintro r w4 ⟨g2, rfl, hb4, hk2, hg2⟩
    have h4 := h3.up hb4
    clear h3 hb4 x0 x1 x2 x3 hg2
    go_wp2_with (go_at_call 20; fail)
    obtain ⟨q, hq⟩ : ∃ q, q = w4.heap.size := ⟨_, rfl⟩
    have hJ5 : Hid (InE w x row col e q g2 l (w4.alloc (.cells #[.slice (some ⟨g2, 0, none⟩) l.length l.length, .int .i64 row, .int .i64 col, .string e] 37))) := by
      rw [hq]
      exact ⟨h4.up ((Below.refl _ _).alloc (Nat.le_refl _) _), heap_alloc_new _ _, hk2.up ((Below.refl _ _).alloc (Nat.le_refl _) _)⟩
    rw [← hq]
    refine calls_w (InE w x row col e q g2 l) hJ5.out ?_
    clear hJ5 h4 hk2 hq
    intro u5 h5
    refine (bytesI_any _ l row col e u5 hl hz he hr hc hi h5.slice).mono ?_
    rintro r w6 ⟨B, rfl, hB, hb6⟩
    obtain rfl : A = B := hA.one hB
    clear hA hB
    have h6 := h5.up hb6
    clear h5 hb6
    have hzz : (A.toList == A.toList) = true := by simp
    have hzn : (A.toList != A.toList) = false := by simp
    · go_wp2_with fail
      have hJ := h6
      clear h6
      obtain ⟨⟨x0, x1, x2, x3⟩, y0, y1, y2, y3⟩ := hJ.cells
      replace hJ := hJ.drew
      go_region_with (first | (go_at_call 10; (with_reducible refine (toPat_any _ _ _ _ _ _ hs2 (HV.out _ hJ.below)).mono ?_); rintro r w7 ⟨g3, rfl, hb7, hk7, hg7⟩; replace hJ := hJ.up hb7; clear hb7 x0 x1 x2 x3 y0 y1 y2 y3; obtain ⟨⟨x0, x1, x2, x3⟩, y0, y1, y2, y3⟩ := hJ.cells) | (go_at_call 14; (with_reducible refine (eqPat_any _ _ _ _ _ _ _ hl hJ.slice hk7.slice).mono ?_); rintro r w8 ⟨rfl, hb8⟩; replace hJ := hJ.up hb8; clear hb8 x0 x1 x2 x3 y0 y1 y2 y3; obtain ⟨⟨x0, x1, x2, x3⟩, y0, y1, y2, y3⟩ := hJ.cells))
      all_goals
        have HB : Hid (Below w.heap.size w w8) := hJ.below
        clear hJ x0 x1 x2 x3 y0 y1 y2 y3 hk7
        go_wp2
        go_ret
        exact ⟨rfl, HB.out⟩
end Go.Proofs.Ytikkohecanmefab.ls
