/-
  The law's own helpers on patches: a patch measured, copied, held against another: what they tell; no old block turns. No condition.
-/
import Derived.Test.YtikkohecanmefabLnT
namespace Go.Proofs.Ytikkohecanmefab.ls
open Go.ChangeShapes Go.WideShapes Go.ChangeAt Go.RowKit
open Go.Proofs.Ytikkohecanmefab.wi (heap_lt calls_w wp_w)
open Go.Proofs.Ytikkohecanmefab.ss (beqT)
set_option linter.unusedVariables false
set_option linter.unusedSimpArgs false

theorem infoP : (Try.prog.info? 37).map (·.size) = some 4 := by kernel_rfl
theorem infoL : (Try.prog.info? 27).map (·.size) = some 4 := by kernel_rfl
theorem ret_i {a b : Int} (h : a = b) : Ending.returned (.int .i64 a) = .returned (.int .i64 b) := by rw [h]
/-- what is left when a pateen is taken off -/
def szS (left : Int) (l : List Ln) (e : ByteArray) : Int := if left - ((l.length : Int) + (tot l : Int) + (e.size : Int)) < 0 then -1 else left - ((l.length : Int) + (tot l : Int) + (e.size : Int))
set_option maxHeartbeats 4000000 in
theorem szPat_any (v : Value) (l : List Ln) (row col : Int) (e : ByteArray) (left : Int) (w : World) (h0 : 0 ≤ left) (h1 : left ≤ 1048576) (hl : l.length ≤ maxLen) (hz : ∀ r ∈ l, r.2.size ≤ maxLen) (he : e.size ≤ maxLen) (hv : SliceIs w v l) :
    Calls Try.prog 7 #[.agg #[v, .int .i64 row, .int .i64 col, .string e], .int .i64 left] w fun r w' => r = .returned (.int .i64 (szS left l e)) ∧ Below w.heap.size w w' := by
  have HI0 : Hid ((fun u => Below w.heap.size w u ∧ u.heap[w.heap.size]? = some (.cells #[v, .int .i64 row, .int .i64 col, .string e] 27 (0, 0))) (w.alloc (.cells #[v, .int .i64 row, .int .i64 col, .string e] 27))) := ⟨(Below.refl _ _).alloc (Nat.le_refl _) _, heap_alloc_new _ _⟩
  have he9 := he
  unfold maxLen at he9
  obtain ⟨A, hA⟩ : ∃ A, A = szS left l e := ⟨_, rfl⟩
  rw [← hA]
  have HA : Hid (A = szS left l e) := hA
  clear hA
  go_enter Try.func7, Try.ntmps7
  go_wp2_with (go_at_call 27; fail)
  refine calls_w (fun u => Below w.heap.size w u ∧ u.heap[w.heap.size]? = some (.cells #[v, .int .i64 row, .int .i64 col, .string e] 27 (0, 0))) HI0.out ?_
  clear HI0
  rintro u ⟨hu, hblk⟩
  refine (szLines_any v l left u h0 h1 hl hz (hv.up hu)).mono ?_
  rintro r w1 ⟨rfl, hb1⟩
  have HB : Hid (Below w.heap.size w w1) := hu.trans (hb1.mono hu.size)
  have hblk1 := (hb1.block _ (heap_lt hblk)).trans hblk
  have hc : w1.cell? ⟨w.heap.size, 3, none⟩ = some (.string e) := by simp [World.cell?, hblk1]
  have hc0 : (l.length : Int) ≤ 9223372036854775807 := by unfold maxLen at hl; omega
  clear hu hblk hb1 hblk1 hv
  by_cases hn : left - ((l.length : Int) + (tot l : Int)) < 0
  · have e1 : szV left l = -1 := if_pos hn
    have e2 : szS left l e = -1 := if_pos (by omega)
    rw [e1]
    have HR : Hid (-1 = A) := by show -1 = A; rw [HA.out, e2]
    clear e1 e2 hn hz HA
    go_wp2
    go_ret
    exact ⟨ret_i HR.out, HB.out⟩
  · have e1 : szV left l = left - ((l.length : Int) + (tot l : Int)) := if_neg hn
    obtain ⟨y, hy⟩ : ∃ y, y = left - ((l.length : Int) + (tot l : Int)) := ⟨_, rfl⟩
    rw [e1, ← hy]
    have hy0 : 0 ≤ y := by omega
    have hy1 : y ≤ 1048576 := by omega
    by_cases hm : y - (e.size : Int) < 0
    · have d : decide (y - (e.size : Int) < 0) = true := decide_eq_true hm
      have e2 : szS left l e = -1 := if_pos (by omega)
      have HR : Hid (-1 = A) := by show -1 = A; rw [HA.out, e2]
      clear e1 e2 hn hy hz HA
      go_wp2
      go_ret
      exact ⟨ret_i HR.out, HB.out⟩
    · have d : decide (y - (e.size : Int) < 0) = false := decide_eq_false hm
      have e2 : szS left l e = y - (e.size : Int) := by unfold szS; rw [if_neg (by omega)]; omega
      have HR : Hid (y - (e.size : Int) = A) := by show _ = A; rw [HA.out, e2]
      clear e1 e2 hn hy hz HA
      go_wp2
      go_ret
      exact ⟨ret_i HR.out, HB.out⟩

/-- what is known while a pateen is copied -/
def InTo (w : World) (z : Value) (u : World) : Prop := Below w.heap.size w u ∧ u.heap[w.heap.size + 1]? = some (.cells #[.slice none 0 0, .int .i64 0, .int .i64 0, .string ⟨#[]⟩] 37 (0, 0)) ∧ u.heap[w.heap.size + 1 + 1]? = some (.cells #[z, .int .i64 0, .int .i64 0, .string ⟨#[]⟩] 37 (0, 0))
theorem InTo.up {w u u' : World} {z : Value} (h : InTo w z u) (hb : Below u.heap.size u u') : InTo w z u' := ⟨h.1.trans (hb.mono h.1.size), (hb.block _ (heap_lt h.2.1)).trans h.2.1, (hb.block _ (heap_lt h.2.2)).trans h.2.2⟩
/-- a row behind a store into its place -/
theorem put_row {u : World} {q k : Nat} {a a' : Array Value} {T : TypeId} {x : Value} (h : u.heap[q]? = some (.cells a T (0, 0))) (ha : a.setIfInBounds k x = a') : (u.setCell ⟨q, k, none⟩ x).heap[q]? = some (.cells a' T (0, 0)) := by
  rw [heap_setCell_same u _ _ _ _ _ h, ha]

set_option maxHeartbeats 8000000 in
theorem toPat_any (v : Value) (l : List Ln) (row col : Int) (e : ByteArray) (w : World) (hl : l.length ≤ 1048576) (hv : SliceIs w v l) :
    Calls Try.prog 10 #[.agg #[v, .int .i64 row, .int .i64 col, .string e]] w fun r w' => ∃ g, r = .returned (.agg #[.slice (some ⟨g, 0, none⟩) l.length l.length, .int .i64 row, .int .i64 col, .string e]) ∧ Below w.heap.size w w' ∧ Blk w' g l ∧ w.heap.size ≤ g := by
  have HI0 : Hid (InTo w (.slice none 0 0) (((w.alloc (.cells #[v, .int .i64 row, .int .i64 col, .string e] 27)).alloc (.cells #[.slice none 0 0, .int .i64 0, .int .i64 0, .string ⟨#[]⟩] 37)).alloc (.cells #[.slice none 0 0, .int .i64 0, .int .i64 0, .string ⟨#[]⟩] 37))) := by
    refine ⟨(((Below.refl _ _).alloc (Nat.le_refl _) _).alloc (by simp) _).alloc (by simp; omega) _, ?_, ?_⟩
    · exact (Below.heap_alloc _ _ _ (by simp)).trans (by simpa using heap_alloc_new (w.alloc (.cells #[v, .int .i64 row, .int .i64 col, .string e] 27)) (.cells #[.slice none 0 0, .int .i64 0, .int .i64 0, .string ⟨#[]⟩] 37))
    · simpa using heap_alloc_new ((w.alloc (.cells #[v, .int .i64 row, .int .i64 col, .string e] 27)).alloc (.cells #[.slice none 0 0, .int .i64 0, .int .i64 0, .string ⟨#[]⟩] 37)) (.cells #[.slice none 0 0, .int .i64 0, .int .i64 0, .string ⟨#[]⟩] 37)
  have HA0 : Hid ((((w.alloc (.cells #[v, .int .i64 row, .int .i64 col, .string e] 27)).alloc (.cells #[.slice none 0 0, .int .i64 0, .int .i64 0, .string ⟨#[]⟩] 37)).alloc (.cells #[.slice none 0 0, .int .i64 0, .int .i64 0, .string ⟨#[]⟩] 37)).heap[w.heap.size]? = some (.cells #[v, .int .i64 row, .int .i64 col, .string e] 27 (0, 0))) :=
    (Below.heap_alloc _ _ _ (by simp; omega)).trans ((Below.heap_alloc _ _ _ (by simp)).trans (heap_alloc_new _ _))
  go_enter Try.func10, Try.ntmps10
  go_wp2_with (go_at_call 33; fail)
  refine calls_w (fun u => InTo w (.slice none 0 0) u ∧ u.heap[w.heap.size]? = some (.cells #[v, .int .i64 row, .int .i64 col, .string e] 27 (0, 0))) ⟨HI0.out, HA0.out⟩ ?_
  clear HI0 HA0
  rintro u ⟨hI, hP⟩
  refine (toLines_any v l u hl (hv.up hI.1)).mono ?_
  rintro r w1 ⟨rfl, hb1, hk1⟩
  have hI1 := hI.up hb1
  have hP1 := (hb1.block _ (heap_lt hP)).trans hP
  have hg : w.heap.size + 1 + 1 < u.heap.size := heap_lt hI.2.2
  obtain ⟨g, hge⟩ : ∃ g, g = u.heap.size := ⟨_, rfl⟩
  rw [← hge] at hk1 hg ⊢
  clear hI hb1 hge hP
  obtain ⟨hB1, hR1, hO1⟩ := hI1
  have p1 : w1.cell? ⟨w.heap.size, 1, none⟩ = some (.int .i64 row) := by simp [World.cell?, hP1]
  have p2 : w1.cell? ⟨w.heap.size, 2, none⟩ = some (.int .i64 col) := by simp [World.cell?, hP1]
  have p3 : w1.cell? ⟨w.heap.size, 3, none⟩ = some (.string e) := by simp [World.cell?, hP1]
  have o0 : w1.cell? ⟨w.heap.size + 1 + 1, 0, none⟩ = some (.slice none 0 0) := by simp [World.cell?, hO1]
  have o1 : w1.cell? ⟨w.heap.size + 1 + 1, 1, none⟩ = some (.int .i64 0) := by simp [World.cell?, hO1]
  have o2 : w1.cell? ⟨w.heap.size + 1 + 1, 2, none⟩ = some (.int .i64 0) := by simp [World.cell?, hO1]
  have o3 : w1.cell? ⟨w.heap.size + 1 + 1, 3, none⟩ = some (.string ⟨#[]⟩) := by simp [World.cell?, hO1]
  have f0 : ∀ k, w1.frozen? ⟨w.heap.size + 1 + 1, k, none⟩ = false := fun k => frozen_of_row _ _ _ _ _ hO1
  have HO1 : Hid (w1.heap[w.heap.size + 1 + 1]? = some (.cells #[.slice none 0 0, .int .i64 0, .int .i64 0, .string ⟨#[]⟩] 37 (0, 0))) := hO1
  have HR1 : Hid (w1.heap[w.heap.size + 1]? = some (.cells #[.slice none 0 0, .int .i64 0, .int .i64 0, .string ⟨#[]⟩] 37 (0, 0))) := hR1
  have HK1 : Hid (Blk w1 g l) := hk1
  have HB1 : Hid (Below w.heap.size w w1) := hB1
  have r0 : w1.cell? ⟨w.heap.size + 1, 0, none⟩ = some (.slice none 0 0) := by simp [World.cell?, hR1]
  have r1 : w1.cell? ⟨w.heap.size + 1, 1, none⟩ = some (.int .i64 0) := by simp [World.cell?, hR1]
  have r2 : w1.cell? ⟨w.heap.size + 1, 2, none⟩ = some (.int .i64 0) := by simp [World.cell?, hR1]
  have r3 : w1.cell? ⟨w.heap.size + 1, 3, none⟩ = some (.string ⟨#[]⟩) := by simp [World.cell?, hR1]
  have g0 : ∀ k, w1.frozen? ⟨w.heap.size + 1, k, none⟩ = false := fun k => frozen_of_row _ _ _ _ _ hR1
  have HRes : Hid (((((((((w1.setCell ⟨w.heap.size + 1 + 1, 0, none⟩ (.slice (some ⟨g, 0, none⟩) l.length l.length)).setCell ⟨w.heap.size + 1 + 1, 1, none⟩ (.int .i64 row)).setCell ⟨w.heap.size + 1 + 1, 2, none⟩ (.int .i64 col)).setCell ⟨w.heap.size + 1 + 1, 3, none⟩ (.string e)).setCell ⟨w.heap.size + 1, 0, none⟩ (.slice (some ⟨g, 0, none⟩) l.length l.length)).setCell ⟨w.heap.size + 1, 1, none⟩ (.int .i64 row)).setCell ⟨w.heap.size + 1, 2, none⟩ (.int .i64 col)).setCell ⟨w.heap.size + 1, 3, none⟩ (.string e)).heap[w.heap.size + 1]? = some (.cells #[.slice (some ⟨g, 0, none⟩) l.length l.length, .int .i64 row, .int .i64 col, .string e] 37 (0, 0))) := by
    refine put_row (put_row (put_row (put_row (a := #[.slice none 0 0, .int .i64 0, .int .i64 0, .string ⟨#[]⟩]) ?_ rfl) rfl) rfl) rfl
    rw [heap_setCell_other _ _ _ _ (by simp), heap_setCell_other _ _ _ _ (by simp), heap_setCell_other _ _ _ _ (by simp), heap_setCell_other _ _ _ _ (by simp)]; exact hR1
  have HB2 : Hid (Below w.heap.size w ((((((((w1.setCell ⟨w.heap.size + 1 + 1, 0, none⟩ (.slice (some ⟨g, 0, none⟩) l.length l.length)).setCell ⟨w.heap.size + 1 + 1, 1, none⟩ (.int .i64 row)).setCell ⟨w.heap.size + 1 + 1, 2, none⟩ (.int .i64 col)).setCell ⟨w.heap.size + 1 + 1, 3, none⟩ (.string e)).setCell ⟨w.heap.size + 1, 0, none⟩ (.slice (some ⟨g, 0, none⟩) l.length l.length)).setCell ⟨w.heap.size + 1, 1, none⟩ (.int .i64 row)).setCell ⟨w.heap.size + 1, 2, none⟩ (.int .i64 col)).setCell ⟨w.heap.size + 1, 3, none⟩ (.string e))) := (((((((hB1.setCell (by simp; omega) _).setCell (by simp; omega) _).setCell (by simp; omega) _).setCell (by simp; omega) _).setCell (by simp) _).setCell (by simp) _).setCell (by simp) _).setCell (by simp) _
  have HK2 : Hid (Blk ((((((((w1.setCell ⟨w.heap.size + 1 + 1, 0, none⟩ (.slice (some ⟨g, 0, none⟩) l.length l.length)).setCell ⟨w.heap.size + 1 + 1, 1, none⟩ (.int .i64 row)).setCell ⟨w.heap.size + 1 + 1, 2, none⟩ (.int .i64 col)).setCell ⟨w.heap.size + 1 + 1, 3, none⟩ (.string e)).setCell ⟨w.heap.size + 1, 0, none⟩ (.slice (some ⟨g, 0, none⟩) l.length l.length)).setCell ⟨w.heap.size + 1, 1, none⟩ (.int .i64 row)).setCell ⟨w.heap.size + 1, 2, none⟩ (.int .i64 col)).setCell ⟨w.heap.size + 1, 3, none⟩ (.string e)) g l) := by
    show _ = _
    rw [heap_setCell_other _ _ _ _ (by simp; omega), heap_setCell_other _ _ _ _ (by simp; omega), heap_setCell_other _ _ _ _ (by simp; omega), heap_setCell_other _ _ _ _ (by simp; omega), heap_setCell_other _ _ _ _ (by simp; omega), heap_setCell_other _ _ _ _ (by simp; omega), heap_setCell_other _ _ _ _ (by simp; omega), heap_setCell_other _ _ _ _ (by simp; omega)]; exact hk1
  clear hO1 hR1 hk1 hB1 hP1 hv HO1 HR1 HK1 HB1
  go_wp2
  refine bodyPost_ret (results_cell_row Try.results10 _ _ (w.heap.size + 1) _ #[.slice (some ⟨g, 0, none⟩) l.length l.length, .int .i64 row, .int .i64 col, .string e] _ _ rfl HRes.out Try.underlying37 rfl infoP) rfl ⟨g, rfl, HB2.out, HK2.out, by omega⟩
set_option maxHeartbeats 8000000 in
theorem eqPat_any (row col : Int) (e : ByteArray) (va vb : Value) (l : List Ln) (w : World) (hl : l.length ≤ maxLen) (ha : SliceIs w va l) (hb : SliceIs w vb l) :
    Calls Try.prog 14 #[.agg #[va, .int .i64 row, .int .i64 col, .string e], .agg #[vb, .int .i64 row, .int .i64 col, .string e]] w fun r w' => r = .returned (.bool true) ∧ Below w.heap.size w w' := by
  have HI : Hid ((fun u => Below w.heap.size w u ∧ (∃ h : u.heap[w.heap.size]? = some (.cells #[va, .int .i64 row, .int .i64 col, .string e] 37 (0, 0)), True) ∧ u.heap[w.heap.size + 1]? = some (.cells #[vb, .int .i64 row, .int .i64 col, .string e] 37 (0, 0))) ((w.alloc (.cells #[va, .int .i64 row, .int .i64 col, .string e] 37)).alloc (.cells #[vb, .int .i64 row, .int .i64 col, .string e] 37))) := by
    refine ⟨((Below.refl _ _).alloc (Nat.le_refl _) _).alloc (by simp) _, ⟨(Below.heap_alloc _ _ _ (by simp)).trans (heap_alloc_new _ _), trivial⟩, ?_⟩
    simpa using heap_alloc_new (w.alloc (.cells #[va, .int .i64 row, .int .i64 col, .string e] 37)) (.cells #[vb, .int .i64 row, .int .i64 col, .string e] 37)
  have b1 : (e.toList == e.toList) = true := beqT rfl
  go_enter Try.func14, Try.ntmps14
  go_wp2_with (go_at_call 40; fail)
  refine calls_w (fun u => Below w.heap.size w u ∧ (∃ h : u.heap[w.heap.size]? = some (.cells #[va, .int .i64 row, .int .i64 col, .string e] 37 (0, 0)), True) ∧ u.heap[w.heap.size + 1]? = some (.cells #[vb, .int .i64 row, .int .i64 col, .string e] 37 (0, 0))) HI.out ?_
  clear HI
  rintro u ⟨hu, ⟨hA, _⟩, hC⟩
  refine (eqLines_any va vb l u hl (ha.up hu) (hb.up hu)).mono ?_
  rintro r w1 ⟨rfl, hb1⟩
  have HB : Hid (Below w.heap.size w w1) := hu.trans (hb1.mono hu.size)
  have hA1 := (hb1.block _ (heap_lt hA)).trans hA
  have hC1 := (hb1.block _ (heap_lt hC)).trans hC
  have a1 : w1.cell? ⟨w.heap.size, 1, none⟩ = some (.int .i64 row) := by simp [World.cell?, hA1]
  have a2 : w1.cell? ⟨w.heap.size, 2, none⟩ = some (.int .i64 col) := by simp [World.cell?, hA1]
  have a3 : w1.cell? ⟨w.heap.size, 3, none⟩ = some (.string e) := by simp [World.cell?, hA1]
  have c1 : w1.cell? ⟨w.heap.size + 1, 1, none⟩ = some (.int .i64 row) := by simp [World.cell?, hC1]
  have c2 : w1.cell? ⟨w.heap.size + 1, 2, none⟩ = some (.int .i64 col) := by simp [World.cell?, hC1]
  have c3 : w1.cell? ⟨w.heap.size + 1, 3, none⟩ = some (.string e) := by simp [World.cell?, hC1]
  clear hu hb1 ha hb hA hC hA1 hC1
  go_wp2_with fail
  go_ret
  exact ⟨rfl, HB.out⟩
end Go.Proofs.Ytikkohecanmefab.ls
