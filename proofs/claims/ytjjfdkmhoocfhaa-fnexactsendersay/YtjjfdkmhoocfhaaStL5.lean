/-
  The walk of the law that holds the program's SenderSay against the model's: true at every sender. No condition.
-/
import Derived.Test.YtjjfdkmhoocfhaaStLs
import Derived.Test.YtjjfdkmhoocfhaaStY2
import Derived.Test.YtjjfdkmhoocfhaaStOU
namespace Go.Proofs.Ytjjfdkmhoocfhaa.st
open Go.ChangeShapes Go.WideShapes Go.ChangeAt Go.RowKit
open Go.Proofs.Ytjjfdkmhoocfhaa.wi (heap_lt calls_w wp_w)
open Classical
set_option linter.unusedVariables false

theorem say_both (l : List Ln) (hl : l.length ≤ maxLen) (hz : ∀ r ∈ l, r.2.size ≤ maxLen) : ∃ X Y Z T, (∀ u v, SliceIs u v l → Calls Try.prog 33 #[.agg #[v]] u fun e w' => e = .returned (.agg #[.int .i64 X, .int .i64 Y, .int .i64 Z, .string T]) ∧ Below u.heap.size u w') ∧
    ∀ u v, SliceIs u v l → Calls Try.prog 34 #[.agg #[v]] u fun e w' => e = .returned (.agg #[.int .i64 X, .int .i64 Y, .int .i64 Z, .string T]) ∧ Below u.heap.size u w' := by
  by_cases s : SndR l
  · exact ⟨_, _, _, _, fun u v hv => (sayM_any v l u hl hz hv).mono fun e w' ⟨r, he, hr, hb⟩ => ⟨by rw [he, hr.1 s], hb⟩, fun u v hv => (sayI_any v l u hl hz hv).mono fun e w' ⟨r, he, hr, hb⟩ => ⟨by rw [he, hr.1 s], hb⟩⟩
  · exact ⟨_, _, _, _, fun u v hv => (sayM_any v l u hl hz hv).mono fun e w' ⟨r, he, hr, hb⟩ => ⟨by rw [he, hr.2 s], hb⟩, fun u v hv => (sayI_any v l u hl hz hv).mono fun e w' ⟨r, he, hr, hb⟩ => ⟨by rw [he, hr.2 s], hb⟩⟩
/-- the argument's block and the model's answer -/
structure InW (w : World) (v : Value) (q : Nat) (X Y Z : Int) (T : ByteArray) (u : World) : Prop where
  a : InA w v u
  x : rw.At u q #[.int .i64 X, .int .i64 Y, .int .i64 Z, .string T] 26
theorem InW.up {w u u' : World} {v : Value} {q : Nat} {X Y Z : Int} {T : ByteArray} (h : InW w v q X Y Z T u) (hb : Below u.heap.size u u') : InW w v q X Y Z T u' := ⟨h.a.up hb, h.x.up hb⟩
theorem InW.cells {w u : World} {v : Value} {q : Nat} {X Y Z : Int} {T : ByteArray} (h : InW w v q X Y Z T u) : u.cell? ⟨w.heap.size, 0, none⟩ = some v ∧ u.cell? ⟨q, 0, none⟩ = some (.int .i64 X) ∧ u.cell? ⟨q, 1, none⟩ = some (.int .i64 Y) ∧ u.cell? ⟨q, 2, none⟩ = some (.int .i64 Z) ∧ u.cell? ⟨q, 3, none⟩ = some (.string T) := ⟨h.a.cell, h.x.cell 0, h.x.cell 1, h.x.cell 2, h.x.cell 3⟩
set_option maxHeartbeats 8000000 in
theorem lawSenderSay (w : World) (v : Value) (l : List Ln) (hl : l.length ≤ maxLen) (hz : ∀ r ∈ l, r.2.size ≤ maxLen) (hv : SliceIs w v l) :
    Calls Try.prog 8 #[.agg #[v]] w fun r w' => r = .returned (.bool true) ∧ Below w.heap.size w w' := by
  have HI : Hid (InA w v (w.alloc (.cells #[v] 44))) := InA.new
  have HV : Hid (∀ u, Below w.heap.size w u → SliceIs u v l) := fun u hu => hv.up hu
  obtain ⟨X, Y, Z, T, hM, hX⟩ := say_both l hl hz
  clear hv
  go_enter Try.func8, Try.ntmps8
  go_wp2_with (go_at_call 19; fail)
  refine calls_w (InA w v) HI.out ?_
  clear HI
  intro u i
  refine (szSnd_any v l 1048576 u (by decide) (Int.le_refl _) hl hz (HV.out _ i.1)).mono ?_
  rintro r u1 ⟨rfl, hb⟩
  replace i := i.up hb
  clear hb
  by_cases hneg : szV 1048576 l < 0
  · have d : decide (szV 1048576 l < 0) = true := decide_eq_true hneg
    have HB : Hid (Below w.heap.size w u1) := i.1
    generalize szV 1048576 l = z at *
    clear i hz
    go_wp2
    go_ret
    exact ⟨rfl, HB.out⟩
  · obtain ⟨hs2, _⟩ := szV_ok hneg (Int.le_refl _)
    have d : decide (szV 1048576 l < 0) = false := decide_eq_false hneg
    generalize szV 1048576 l = z at *
    have x0 := i.cell
    go_wp2_with (go_at_call 21; fail)
    refine calls_w (InA w v) i ?_
    clear i x0 hneg d
    intro u i
    refine (toSnd_any v l u hs2 (HV.out _ i.1)).mono ?_
    rintro r w2 ⟨g1, rfl, hb2, hk1, _⟩
    replace i := i.up hb2
    clear hb2
    go_wp2_with (go_at_call 33; fail)
    refine (hM w2 _ hk1.slice).mono ?_
    rintro r w3 ⟨rfl, hb3⟩
    replace i := i.up hb3
    clear hb3 hk1 hM
    have x0 : ∀ o, (w3.alloc o).cell? ⟨w.heap.size, 0, none⟩ = some v := fun o => (i.up (rw.up_alloc _ o)).cell
    go_wp2_with (go_at_call 21; fail)
    obtain ⟨q, hq⟩ : ∃ q, q = w3.heap.size := ⟨_, rfl⟩
    rw [← hq]
    refine calls_w (InW w v q X Y Z T) ⟨i.up (rw.up_alloc _ _), by rw [hq]; exact rw.At.new _ _ _⟩ ?_
    clear i x0 hq
    intro u i
    refine (toSnd_any v l u hs2 (HV.out _ i.a.1)).mono ?_
    rintro r w4 ⟨g2, rfl, hb4, hk2, _⟩
    replace i := i.up hb4
    clear hb4
    go_wp2_with (go_at_call 34; fail)
    obtain ⟨q2, hq2⟩ : ∃ q2, q2 = w4.heap.size := ⟨_, rfl⟩
    have j0 := InC.new i.a hk2
    have k0 := i.x.up (rw.up_alloc w4 (.cells #[.slice (some ⟨g2, 0, none⟩) l.length l.length] 49))
    rw [← hq2] at j0 ⊢
    refine calls_w (fun u => InC w v q2 g2 l u ∧ rw.At u q #[.int .i64 X, .int .i64 Y, .int .i64 Z, .string T] 26) ⟨j0, k0⟩ ?_
    clear j0 k0 i hk2 hq2
    rintro u ⟨j, k⟩
    refine (hX u _ j.slice).mono ?_
    rintro r w6 ⟨rfl, hb6⟩
    replace j := j.up hb6
    replace k := k.up hb6
    clear hb6 hX
    have j7 := fun o => j.up (rw.up_alloc w6 o)
    have k7 := fun o => k.up (rw.up_alloc w6 o)
    have x0 : ∀ o, (w6.alloc o).cell? ⟨q, 0, none⟩ = some (.int .i64 X) := fun o => (k7 o).cell 0
    have x1 : ∀ o, (w6.alloc o).cell? ⟨q, 1, none⟩ = some (.int .i64 Y) := fun o => (k7 o).cell 1
    have x2 : ∀ o, (w6.alloc o).cell? ⟨q, 2, none⟩ = some (.int .i64 Z) := fun o => (k7 o).cell 2
    have x3 : ∀ o, (w6.alloc o).cell? ⟨q, 3, none⟩ = some (.string T) := fun o => (k7 o).cell 3
    go_wp2_with (go_at_call 13; fail)
    obtain ⟨q3, hq3⟩ : ∃ q3, q3 = w6.heap.size := ⟨_, rfl⟩
    rw [← hq3]
    refine calls_w (InC w v q2 g2 l) (j7 _) ?_
    clear j k j7 k7 x0 x1 x2 x3 hq3
    intro u j
    refine (eqUpdate_any X Y Z T u).mono ?_
    rintro r w8 ⟨rfl, hb8⟩
    replace j := j.up hb8
    clear hb8
    go_wp2_with fail
    obtain ⟨x0, x1⟩ := j.cells
    replace j := j.up (rw.up_drew _)
    go_region_with (first | (go_at_call 21; (with_reducible refine (toSnd_any _ _ _ hs2 (HV.out _ j.bel)).mono ?_); rintro r w7 ⟨g3, rfl, hb7, hk7, hg7⟩; replace j := j.up hb7; clear hb7 x0 x1; obtain ⟨x0, x1⟩ := j.cells) | (go_at_call 23; (with_reducible refine (eqSnd_any _ _ _ _ hl j.slice hk7.slice).mono ?_); rintro r w8 ⟨rfl, hb8⟩; replace j := j.up hb8; clear hb8 x0 x1; obtain ⟨x0, x1⟩ := j.cells))
    all_goals
      have HB : Hid (Below w.heap.size w w8) := j.bel
      clear j x0 x1 hk7
      go_wp2
      go_ret
      exact ⟨rfl, HB.out⟩
end Go.Proofs.Ytjjfdkmhoocfhaa.st
