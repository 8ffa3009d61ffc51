/-
  The program's windowWith at every window and gram of an epoch and a count: which error, or which window. Condition: the four errors lie in their variables.
-/
import Derived.Test.YtodcjhckkbmikaaDoorTake3
import Derived.Test.YtodcjhckkbmikaaDoorWhy
import Derived.Laws.ResultCell
namespace Go.Proofs.YtodcjhckkbmikaaDoor.wi
open Go.ChangeShapes Go.WideShapes Go.ChangeAt Go.RowKit
open Classical
set_option linter.unusedVariables false

abbrev zeroW : Value := .agg #[.int .i64 0, .int .i64 0, .slice none 0 0]
/-- what is known inside: the two arguments' blocks and the result's -/
structure InWw (w : World) (e t : Int) (v : Value) (ep c : Int) (u : World) : Prop where
  below : Below w.heap.size w u
  win : u.heap[w.heap.size]? = some (.cells #[.int .i64 e, .int .i64 t, v] 25 (0, 0))
  gram : u.heap[w.heap.size + 1]? = some (.cells (gramC ep c) 45 (0, 0))
  res : u.heap[w.heap.size + 1 + 1]? = some (.cells #[.int .i64 0, .int .i64 0, .slice none 0 0] 25 (0, 0))
theorem InWw.up {w u u' : World} {e t : Int} {v : Value} {ep c : Int} (h : InWw w e t v ep c u) (hb : Below u.heap.size u u') : InWw w e t v ep c u' :=
  ⟨h.below.trans (hb.mono h.below.size), (hb.block _ (heap_lt h.win)).trans h.win, (hb.block _ (heap_lt h.gram)).trans h.gram, (hb.block _ (heap_lt h.res)).trans h.res⟩
theorem InWw.kept {w u u' : World} {e t : Int} {v : Value} {ep c : Int} {r : Nat} (h : InWw w e t v ep c u) (hg : u.grownBy u' (some r)) (hr : w.heap.size + 1 + 1 < r) : InWw w e t v ep c u' :=
  ⟨h.below.grown hg h.below.size (fun k hk => by cases hk; omega), (hg.block _ (heap_lt h.win) (by simp; omega)).trans h.win, (hg.block _ (heap_lt h.gram) (by simp; omega)).trans h.gram, (hg.block _ (heap_lt h.res) (by simp; omega)).trans h.res⟩
theorem win_cells {u : World} {q : Nat} {e t : Int} {v : Value} (h : u.heap[q]? = some (.cells #[.int .i64 e, .int .i64 t, v] 25 (0, 0))) : u.cell? ⟨q, 0, none⟩ = some (.int .i64 e) ∧ u.cell? ⟨q, 1, none⟩ = some (.int .i64 t) ∧ u.cell? ⟨q, 2, none⟩ = some v ∧ (∀ k, u.frozen? ⟨q, k, none⟩ = false) := by
  refine ⟨?_, ?_, ?_, fun k => frozen_of_row _ _ _ _ _ h⟩ <;> simp [World.cell?, h]
theorem set3 {u : World} {q : Nat} {a b c x y z : Value} {T : TypeId} (h : u.heap[q]? = some (.cells #[a, b, c] T (0, 0))) : (((u.setCell ⟨q, 0, none⟩ x).setCell ⟨q, 1, none⟩ y).setCell ⟨q, 2, none⟩ z).heap[q]? = some (.cells #[x, y, z] T (0, 0)) := by
  have h1 := heap_setCell_same u q 0 _ _ x h
  have h2 := heap_setCell_same _ q 1 _ _ y h1
  have h3 := heap_setCell_same _ q 2 _ _ z h2
  exact h3
theorem below_set3 {w u : World} {q : Nat} {x y z : Value} (h : Below w.heap.size w u) (hq : w.heap.size ≤ q) : Below w.heap.size w (((u.setCell ⟨q, 0, none⟩ x).setCell ⟨q, 1, none⟩ y).setCell ⟨q, 2, none⟩ z) := ((h.setCell hq _).setCell hq _).setCell hq _
theorem res_two {fn : Func} {p k : Tmp} (h : fn.results = #[.cell p 25, .tmp k]) (tmps : Array Value) (u : World) (q : Nat) (cs : Array Value) (x : Value) (hp : tmps.getD p undef = .pointer (some ⟨q, 0, none⟩)) (hk : tmps.getD k undef = x) (hg : u.heap[q]? = some (.cells cs 25 (0, 0))) (hcs : cs.size = 3) :
    (results fn tmps).run Tryd.prog u = .ok (.tuple #[.agg cs, x]) u := by
  rw [results_cell_tmp h, hp, hk]
  simp [asAddr, Result.andThen, run_loadVar_row u q _ 25 cs (0, 0) _ hg Tryd.underlying25 rfl (by rw [infoW, hcs])]
theorem inWw_start (w : World) (e t : Int) (v : Value) (ep c : Int) : InWw w e t v ep c (((w.alloc (.cells #[.int .i64 e, .int .i64 t, v] 25)).alloc (.cells (gramC ep c) 45)).alloc (.cells #[.int .i64 0, .int .i64 0, .slice none 0 0] 25)) where
  below := below_alloc3 _ _ _ _
  win := (Below.heap_alloc _ _ _ (by simp; omega)).trans ((Below.heap_alloc _ _ _ (by simp)).trans (heap_alloc_new _ _))
  gram := (Below.heap_alloc _ _ _ (by simp)).trans (heap_alloc2_new _ _ _)
  res := heap_alloc3_new _ _ _ _

set_option maxRecDepth 20000 in
set_option maxHeartbeats 8000000 in
theorem with_form (e t : Int) (v : Value) (s : List Int) (ep c : Int) (w : World) (hs : s.length ≤ maxLen) (hv : SliceIs w v s) {a1 a2 a3 a4 : Addr} (hE : ei.Errs w a1 a2 a3 a4) (hn : ¬ (RightW e t s ∧ RightG 0 ep c 0)) :
    Calls Tryd.prog 16 #[.agg #[.int .i64 e, .int .i64 t, v], gramV ep c] w fun r w' => r = .returned (.tuple #[zeroW, .iface 124 (.pointer (some a1))]) ∧ Below w.heap.size w w' := by
  have HI0 : Hid (InWw w e t v ep c _) := inWw_start w e t v ep c
  have HV : Hid (∀ u, Below w.heap.size w u → SliceIs u v s) := fun u hu => hv.up hu
  have HE : Hid (∀ u, Below w.heap.size w u → ei.Errs u a1 a2 a3 a4) := fun u hu => hE.up hu
  clear hv hE
  go_enter Tryd.func16, Tryd.ntmps16
  go_wp2_with (go_at_call 8; fail)
  refine calls_w (InWw w e t v ep c) HI0.out ?_
  clear HI0
  intro u0 i0
  refine (windowI_any e t v s u0 hs (HV.out _ i0.below)).mono ?_
  rintro r w1 ⟨rfl, hb1⟩
  have i1 := i0.up hb1
  clear i0 hb1
  by_cases h1 : RightW e t s
  · rw [decide_eq_true h1]
    have h2 : ¬ RightG 0 ep c 0 := fun h => hn ⟨h1, h⟩
    obtain ⟨g0, g1, g2, g3⟩ := top_cells i1.gram
    go_wp2_with (go_at_call 23; fail)
    clear g0 g1 g2 g3
    refine (gramI_any 0 ep c ⟨#[]⟩ w1 (Nat.zero_le _)).mono ?_
    rw [decide_eq_false (show ¬ RightG 0 ep c (⟨#[]⟩ : ByteArray).size from h2)]
    rintro r w2 ⟨rfl, hb2⟩
    have i2 := i1.up hb2
    clear i1 hb2
    have va := (HE.out _ i2.below).va
    have hres := i2.res
    have HB : Hid (Below w.heap.size w w2) := i2.below
    clear i2
    obtain ⟨r0, r1, r2, hf⟩ := win_cells hres
    have f0 := hf 0
    have f1 := hf 1
    have f2 := hf 2
    clear hf
    go_wp2
    go_region
    go_wp2
    exact bodyPost_ret (res_two Tryd.results16 _ _ (w.heap.size + 1 + 1) _ _ rfl rfl (set3 hres) rfl) rfl ⟨rfl, below_set3 HB.out.drew (by omega)⟩
  · rw [decide_eq_false h1]
    have va := (HE.out _ i1.below).va
    have hres := i1.res
    have HB : Hid (Below w.heap.size w w1) := i1.below
    clear i1
    obtain ⟨r0, r1, r2, hf⟩ := win_cells hres
    have f0 := hf 0
    have f1 := hf 1
    have f2 := hf 2
    clear hf
    go_wp2
    go_region
    go_wp2
    exact bodyPost_ret (res_two Tryd.results16 _ _ (w.heap.size + 1 + 1) _ _ rfl rfl (set3 hres) rfl) rfl ⟨rfl, below_set3 HB.out.drew (by omega)⟩
end Go.Proofs.YtodcjhckkbmikaaDoor.wi
