/-
  The program's WindowTake at every window, epoch and count: what the plain function tells, in a slice of its own. Condition: the four errors lie in their variables, errors.errorType holds its handle.
-/
import Derived.Test.YtodcjhckkbmikaaDoorTakeP
namespace Go.Proofs.YtodcjhckkbmikaaDoor.wi
open Go.ChangeShapes Go.WideShapes Go.ChangeAt Go.RowKit
open Classical
set_option linter.unusedVariables false

theorem infoWO : (Tryd.prog.info? 29).map (·.size) = some 4 := by kernel_rfl
/-- an answer, in a slice of its own -/
def OutIs (base : Nat) (A : (Int × Int × List Int) × Int) (r : Ending) (w' : World) : Prop := ∃ v', r = .returned (.agg #[.int .i64 A.1.1, .int .i64 A.1.2.1, v', .int .i64 A.2]) ∧ w'.ownsRow base 2 1 v' A.1.2.2.length (A.1.2.2.map (Value.int .i64))

/-- what is known where the answer is put together -/
structure InNx (w u0 : World) (q : Nat) (ae att : Int) (sl : Value) (al : List Int) (u : World) : Prop where
  below : Below w.heap.size w u
  res : u.heap[w.heap.size + 1]? = some (.cells #[.int .i64 0, .int .i64 0, .slice none 0 0, .int .i64 0] 29 (0, 0))
  next : u.heap[q]? = some (.cells #[.int .i64 ae, .int .i64 att, sl] 25 (0, 0))
  row : u.ownsRow u0.heap.size 2 1 sl al.length (al.map (Value.int .i64))
  up0 : Below u0.heap.size u0 u
theorem InNx.up {w u0 u u' : World} {q : Nat} {ae att : Int} {sl : Value} {al : List Int} (h : InNx w u0 q ae att sl al u) (hb : Below u.heap.size u u') : InNx w u0 q ae att sl al u' :=
  ⟨h.below.trans (hb.mono h.below.size), (hb.block _ (heap_lt h.res)).trans h.res, (hb.block _ (heap_lt h.next)).trans h.next, h.row.kept (grown_of_below hb) (by cases hv : sl.ownBlock <;> simp), h.up0.trans (hb.mono h.up0.size)⟩
theorem InNx.drew {w u0 u : World} {q : Nat} {ae att : Int} {sl : Value} {al : List Int} (h : InNx w u0 q ae att sl al u) : InNx w u0 q ae att sl al u.drew := ⟨h.below.drew, h.res, h.next, h.row, h.up0.drew⟩
theorem InNx.cells {w u0 u : World} {q : Nat} {ae att : Int} {sl : Value} {al : List Int} (h : InNx w u0 q ae att sl al u) :
    (u.cell? ⟨q, 0, none⟩ = some (.int .i64 ae) ∧ u.cell? ⟨q, 1, none⟩ = some (.int .i64 att) ∧ u.cell? ⟨q, 2, none⟩ = some sl) ∧
    (u.cell? ⟨w.heap.size + 1, 0, none⟩ = some (.int .i64 0) ∧ u.cell? ⟨w.heap.size + 1, 1, none⟩ = some (.int .i64 0) ∧ u.cell? ⟨w.heap.size + 1, 2, none⟩ = some (.slice none 0 0) ∧ u.cell? ⟨w.heap.size + 1, 3, none⟩ = some (.int .i64 0)) ∧
    (u.frozen? ⟨w.heap.size + 1, 0, none⟩ = false ∧ u.frozen? ⟨w.heap.size + 1, 1, none⟩ = false ∧ u.frozen? ⟨w.heap.size + 1, 2, none⟩ = false ∧ u.frozen? ⟨w.heap.size + 1, 3, none⟩ = false) := by
  refine ⟨⟨?_, ?_, ?_⟩, ⟨?_, ?_, ?_, ?_⟩, frozen_of_row _ _ _ _ _ h.res, frozen_of_row _ _ _ _ _ h.res, frozen_of_row _ _ _ _ _ h.res, frozen_of_row _ _ _ _ _ h.res⟩ <;> simp [World.cell?, h.next, h.res]
theorem set4 {u : World} {q : Nat} {a b c d x y z k : Value} {T : TypeId} (h : u.heap[q]? = some (.cells #[a, b, c, d] T (0, 0))) : ((((u.setCell ⟨q, 0, none⟩ x).setCell ⟨q, 1, none⟩ y).setCell ⟨q, 2, none⟩ z).setCell ⟨q, 3, none⟩ k).heap[q]? = some (.cells #[x, y, z, k] T (0, 0)) := by
  have h1 := heap_setCell_same u q 0 _ _ x h
  have h2 := heap_setCell_same _ q 1 _ _ y h1
  have h3 := heap_setCell_same _ q 2 _ _ z h2
  have h4 := heap_setCell_same _ q 3 _ _ k h3
  exact h4
theorem grown_set4 {u : World} {q : Nat} {x y z k : Value} : u.grownBy ((((u.setCell ⟨q, 0, none⟩ x).setCell ⟨q, 1, none⟩ y).setCell ⟨q, 2, none⟩ z).setCell ⟨q, 3, none⟩ k) (some q) := by
  refine ⟨rfl, rfl, rfl, by simp [World.setCell], fun j _ hne => ?_⟩
  have hk : j ≠ q := fun h => hne (by rw [h])
  rw [heap_setCell_other _ _ _ _ hk, heap_setCell_other _ _ _ _ hk, heap_setCell_other _ _ _ _ hk, heap_setCell_other _ _ _ _ hk]

/-- what windowWith answers, and its code -/
theorem with_any (e t : Int) (v : Value) (s : List Int) (ep c : Int) (w : World) (hs : s.length ≤ maxLen) (hv : SliceIs w v s) {a1 a2 a3 a4 : Addr} (hE : ei.Errs w a1 a2 a3 a4) :
    Calls Tryd.prog 16 #[.agg #[.int .i64 e, .int .i64 t, v], gramV ep c] w fun r w' => Below w.heap.size w w' ∧ ∃ p k cap x, r = .returned (.tuple #[.agg #[.int .i64 (takeA e t s ep c).1.1, .int .i64 (takeA e t s ep c).1.2.1, .slice p k cap], x]) ∧ w'.ownsRow w.heap.size 2 1 (.slice p k cap) (takeA e t s ep c).1.2.2.length ((takeA e t s ep c).1.2.2.map (Value.int .i64)) ∧
      ∀ u, Below w.heap.size w u → Calls Tryd.prog 17 #[x] u fun e' w' => e' = .returned (.int .i64 (takeA e t s ep c).2) ∧ Below u.heap.size u w' := by
  by_cases h : RightW e t s ∧ RightG 0 ep c 0
  · refine (with_right e t v s ep c w hv hE h.1 h.2).mono ?_
    rintro r w' ⟨hb, h1⟩
    refine ⟨hb, ?_⟩
    rcases h1 with ⟨ho, rfl⟩ | ⟨ho, ht, rfl⟩ | ⟨ho, ht, v', ss, rfl, hown, hr, hm, hl⟩
    · rw [takeA_old h ho]
      exact ⟨_, _, _, _, rfl, ⟨rfl, .inl ⟨rfl, rfl⟩⟩, fun u hu => (ei.why_c (hE.up hu)).mono fun e' w' ⟨h1, h2⟩ => ⟨h1, by rw [h2]; exact Below.refl _ _⟩⟩
    · rw [takeA_there h ho ht]
      exact ⟨_, _, _, _, rfl, ⟨rfl, .inl ⟨rfl, rfl⟩⟩, fun u hu => (ei.why_d (hE.up hu)).mono fun e' w' ⟨h1, h2⟩ => ⟨h1, by rw [h2]; exact Below.refl _ _⟩⟩
    · rw [with_takeA h ho ht hr hm]
      obtain ⟨p, k, cap, rfl⟩ := row_shape hown
      exact ⟨_, _, _, _, rfl, hown, fun u hu => ei.why_nil (hE.up hu)⟩
  · refine (with_form e t v s ep c w hs hv hE h).mono ?_
    rintro r w' ⟨rfl, hb⟩
    refine ⟨hb, ?_⟩
    rw [takeA_form h]
    exact ⟨_, _, _, _, rfl, ⟨rfl, .inl ⟨rfl, rfl⟩⟩, fun u hu => (ei.why_a (hE.up hu)).mono fun e' w' ⟨h1, h2⟩ => ⟨h1, by rw [h2]; exact Below.refl _ _⟩⟩

set_option maxRecDepth 20000 in
set_option maxHeartbeats 8000000 in
theorem takeI_any (e t : Int) (v : Value) (s : List Int) (ep c : Int) (w : World) (hs : s.length ≤ maxLen) (hv : SliceIs w v s) {a1 a2 a3 a4 : Addr} (hE : ei.Errs w a1 a2 a3 a4) :
    Calls Tryd.prog 5 #[.agg #[.int .i64 e, .int .i64 t, v], .int .i64 ep, .int .i64 c] w fun r w' => Below w.heap.size w w' ∧ OutIs w.heap.size (takeA e t s ep c) r w' := by
  have HV : Hid (∀ u, Below w.heap.size w u → SliceIs u v s) := fun u hu => hv.up hu
  have HE : Hid (∀ u, Below w.heap.size w u → ei.Errs u a1 a2 a3 a4) := fun u hu => hE.up hu
  clear hv hE
  obtain ⟨ae, att, al, ac, hA⟩ : ∃ ae att al ac, takeA e t s ep c = ((ae, att, al), ac) := ⟨_, _, _, _, rfl⟩
  have HA : Hid (takeA e t s ep c = ((ae, att, al), ac)) := hA
  rw [hA]
  clear hA
  go_enter Tryd.func5, Tryd.ntmps5
  go_wp2_with (go_at_call 16; fail)
  refine calls_w (fun u => Below w.heap.size w u ∧ u.heap[w.heap.size + 1]? = some (.cells #[.int .i64 0, .int .i64 0, .slice none 0 0, .int .i64 0] 29 (0, 0))) ⟨((Below.refl _ _).alloc (Nat.le_refl _) _).alloc (by simp) _, heap_alloc2_new _ _ _⟩ ?_
  rintro u ⟨hB, hres⟩
  refine (with_any e t v s ep c u hs (HV.out _ hB) (HE.out _ hB)).mono ?_
  rintro r w1 ⟨hb1, p, k, cap, x, rfl, hown, hwhy⟩
  rw [HA.out] at hown hwhy ⊢
  have hB1 := hB.trans (hb1.mono hB.size)
  have hres1 := (hb1.block _ (heap_lt hres)).trans hres
  have HOW : Hid (w1.ownsRow u.heap.size 2 1 (.slice p k cap) al.length (al.map (Value.int .i64))) := hown
  have HW : Hid (∀ u', Below u.heap.size u u' → Calls Tryd.prog 17 #[x] u' fun e' w' => e' = .returned (.int .i64 ac) ∧ Below u'.heap.size u' w') := hwhy
  have HUN : Hid (w.heap.size + 1 < u.heap.size) := heap_lt hres
  have HB1 : Hid (Below w.heap.size w w1) := hB1
  have HU1 : Hid (Below u.heap.size u w1) := hb1
  clear hown hwhy hB hb1 hres hB1 HE HV HA
  go_wp2_with fail
  obtain ⟨q, hq⟩ : ∃ q, q = w1.heap.size := ⟨_, rfl⟩
  rw [← hq]
  refine wp_w (InNx w u q ae att (.slice p k cap) al) ⟨HB1.out.alloc HB1.out.size _, (Below.heap_alloc _ _ _ (heap_lt hres1)).trans hres1, by rw [hq]; exact heap_alloc_new _ _, HOW.out.alloc _, HU1.out.alloc HU1.out.size _⟩ ?_
  clear HB1 HU1 HOW hres1 hq
  intro u2 i2
  obtain ⟨⟨x0, x1, x2⟩, ⟨y0, y1, y2, y3⟩, ⟨f0, f1, f2, f3⟩⟩ := i2.cells
  have i2 := i2.drew
  have HX : Hid (∀ u', InNx w u q ae att (.slice p k cap) al u' → Calls Tryd.prog 17 #[x] u' fun e' w' => e' = .returned (.int .i64 ac) ∧ Below u'.heap.size u' w') := fun u' h => HW.out u' h.up0
  clear HW
  go_region_with (go_at_call 17; (with_reducible refine (HX.out _ i2).mono ?_); rintro r w3 ⟨rfl, hb3⟩; replace i2 := i2.up hb3; clear hb3 x0 x1 x2 y0 y1 y2 y3 f0 f1 f2 f3; obtain ⟨⟨x0, x1, x2⟩, ⟨y0, y1, y2, y3⟩, ⟨f0, f1, f2, f3⟩⟩ := i2.cells)
  all_goals
    have HI : Hid (InNx w u q ae att (.slice p k cap) al w3) := i2
    clear i2 x0 x1 x2 y0 y1 y2 y3 f0 f1 f2 f3 HX
    go_wp2
    refine bodyPost_ret (results_cell_row Tryd.results5 _ _ (w.heap.size + 1) _ #[.int .i64 ae, .int .i64 att, .slice p k cap, .int .i64 ac] _ _ rfl (set4 HI.out.res) Tryd.underlying29 rfl infoWO) rfl ⟨HI.out.below.grown grown_set4 HI.out.below.size (fun j hj => by cases hj; omega), .slice p k cap, rfl, ?_⟩
    have hN := HUN.out
    exact row_mono (HI.out.row.kept grown_set4 (.inr (row_block HI.out.row hN).symm)) (by omega)
end Go.Proofs.YtodcjhckkbmikaaDoor.wi
