/-
  What the law itself does with the outcome of reading a policy. No condition.
-/
import Derived.Test.YtndjjhcdnlkekaaDoorCu11
import Derived.Test.YtndjjhcdnlkekaaDoorCu8
import Derived.Test.YtndjjhcdnlkekaaDoorRuT
namespace Go.Proofs.YtndjjhcdnlkekaaDoor.cu
open Go.ChangeShapes Go.WideShapes Go.ChangeAt Go.RowKit
open Go.Proofs.YtndjjhcdnlkekaaDoor.rl
open Go.Proofs.YtndjjhcdnlkekaaDoor.wi (heap_lt calls_w wp_w)
open Classical
set_option linter.unusedVariables false

/-- the rules that this slice held are marked -/
def Mkd (v : Value) (n : Nat) (u : World) : Prop := (v = .slice none 0 0 ∧ n = 0) ∨ ∃ g cap cur, v = .slice (some ⟨g, 0, none⟩) n cap ∧ rw.At u g cur 26 ∧ ∀ i, i < n * 4 → cur[0 + i]? = some (mv i)
theorem Mkd.up {v : Value} {n : Nat} {u u' : World} (h : Mkd v n u) (hb : Below u.heap.size u u') : Mkd v n u' := by
  rcases h with h | ⟨g, cap, cur, h1, h2, h3⟩
  · exact .inl h
  · exact .inr ⟨g, cap, cur, h1, h2.up hb, h3⟩
theorem Mkd.shape {v : Value} {n : Nat} {u : World} (h : Mkd v n u) : ∃ p c, v = .slice p n c := by
  rcases h with ⟨rfl, rfl⟩ | ⟨g, cap, cur, h1, h2, h3⟩
  · exact ⟨_, _, rfl⟩
  · exact ⟨_, _, h1⟩
def MarkPost (w : World) (v : Value) (n : Nat) (r : Ending) (w' : World) : Prop := r = .returned (.int .i64 (4 * (n : Int) + 1)) ∧ w.grownBy w' v.ownBlock ∧ Mkd v n w'
set_option maxHeartbeats 1000000 in
theorem markRules_any {base : Nat} (v : Value) (l : List Ln) (w : World) (hl : l.length ≤ 12) (h : OwR base v l w) : Calls Tryd.prog 44 #[v, .int .i64 1] w (MarkPost w v l.length) := by
  rcases h.2 with ⟨rfl, hl0⟩ | ⟨g, cap, cur, rfl, hb, hg, h1, h2, h3, h4⟩
  · have HP : Hid (w.grownBy w (Value.slice none 0 0).ownBlock ∧ Mkd (.slice none 0 0) 0 w) := ⟨⟨rfl, rfl, rfl, Nat.le_refl _, fun _ _ _ => rfl⟩, .inl ⟨rfl, rfl⟩⟩
    rw [hl0]
    clear hl hl0 h
    go_enter Tryd.func44, Tryd.ntmps44
    go_wp2
    refine wp_loop_rounds 1 ?_
    rw [rounds_succ]
    go_wp2
    go_ret
    exact ⟨rfl, HP.out⟩
  · have hat : rw.At w g cur 26 := hg
    have hc : w.ownsRow base 26 4 (.slice (some ⟨g, 0, none⟩) l.length cap) l.length (l.flatMap flat1) := h
    have hM : Mks w g 0 l.length 0 w := ⟨⟨rfl, rfl, rfl, Nat.le_refl _, fun _ _ _ => rfl⟩, cur, hat, fun i hi => absurd hi (Nat.not_lt_zero i), fun j hj => by
      obtain ⟨e1, e2, e3, e4⟩ := cells_at l j hj
      rw [Nat.zero_add, Nat.zero_add, Nat.zero_add, Nat.zero_add]
      exact ⟨⟨_, ((hat.cell _).symm.trans (hc.cellAt (j * 4) (by omega))).trans e1⟩, ⟨_, ((hat.cell _).symm.trans (hc.cellAt (j * 4 + 1) (by omega))).trans e2⟩, ⟨_, ((hat.cell _).symm.trans (hc.cellAt (j * 4 + 2) (by omega))).trans e3⟩, ⟨_, ((hat.cell _).symm.trans (hc.cellAt (j * 4 + 3) (by omega))).trans e4⟩⟩⟩
    refine (markRows g 0 cap l.length w hl hM).mono ?_
    rintro r w' ⟨rfl, hg', cur', ha', hv', -⟩
    exact ⟨rfl, hg', .inr ⟨g, cap, cur', rfl, ha', hv'⟩⟩
set_option maxHeartbeats 1000000 in
theorem heldRules_any (v : Value) (n : Nat) (w : World) (hl : n ≤ 12) (h : Mkd v n w) : Calls Tryd.prog 45 #[v, .int .i64 1] w fun r w' => r = .returned (.int .i64 (4 * (n : Int) + 1)) ∧ Below w.heap.size w w' := by
  rcases h with ⟨rfl, rfl⟩ | ⟨g, cap, cur, rfl, ha, hv⟩
  · have HB : Hid (Below w.heap.size w w) := Below.refl _ _
    go_enter Tryd.func45, Tryd.ntmps45
    go_wp2
    refine wp_loop_rounds 1 ?_
    rw [rounds_succ]
    go_wp2
    go_ret
    exact ⟨rfl, HB.out⟩
  · exact heldRows g 0 cap n w hl fun u hu i hi => ((ha.up hu).cell (0 + i)).trans (hv i hi)
theorem grown_after {w u w1 : World} {row : Option Nat} (hu : Below w.heap.size w u) (hg : u.grownBy w1 row) : w.grownBy w1 row :=
  ⟨hg.os.trans hu.os, hg.tape.trans hu.tape, hg.output.trans hu.output, Nat.le_trans hu.size hg.size, fun j hj hne => (hg.block j (Nat.lt_of_lt_of_le hj hu.size) hne).trans (hu.block j hj)⟩
set_option maxRecDepth 20000 in
set_option maxHeartbeats 4000000 in
theorem markOut_any {base : Nat} (v : Value) (a b : Int) (l : List Ln) (w : World) (hl : l.length ≤ 12) (h : OwR base v l w) : Calls Tryd.prog 23 #[.agg #[v, .int .i64 a, .int .i64 b], .int .i64 1] w (MarkPost w v l.length) := by
  obtain ⟨p, cap, rfl⟩ := h.shape
  have HB : Hid (Below w.heap.size w (w.alloc (.cells #[.slice p l.length cap, .int .i64 a, .int .i64 b] 38))) := (Below.refl _ _).alloc (Nat.le_refl _) _
  go_enter Tryd.func23, Tryd.ntmps23
  go_wp2_with (go_at_call 44; fail)
  refine calls_w (fun u => Below w.heap.size w u) HB.out ?_
  intro u hu
  refine (markRules_any _ l u hl (h.up hu)).mono ?_
  rintro r w1 ⟨rfl, hg, h3⟩
  have HP : Hid (MarkPost w (.slice p l.length cap) l.length (.returned (.int .i64 (4 * (l.length : Int) + 1))) w1) := ⟨rfl, grown_after hu hg, h3⟩
  clear hu hg h3
  go_wp2
  go_ret
  exact HP.out
set_option maxRecDepth 20000 in
set_option maxHeartbeats 4000000 in
theorem heldOut_any (v : Value) (a b : Int) (n : Nat) (w : World) (hl : n ≤ 12) (h : Mkd v n w) : Calls Tryd.prog 24 #[.agg #[v, .int .i64 a, .int .i64 b], .int .i64 1] w fun r w' => r = .returned (.int .i64 (4 * (n : Int) + 1)) ∧ Below w.heap.size w w' := by
  obtain ⟨p, cap, rfl⟩ := h.shape
  have HB : Hid (Below w.heap.size w (w.alloc (.cells #[.slice p n cap, .int .i64 a, .int .i64 b] 38))) := (Below.refl _ _).alloc (Nat.le_refl _) _
  have hn1 : decide (4 * (n : Int) + 1 < 0) = false := decide_eq_false (by omega)
  go_enter Tryd.func24, Tryd.ntmps24
  go_wp2_with (go_at_call 45; fail)
  refine calls_w (fun u => Below w.heap.size w u) HB.out ?_
  intro u hu
  refine (heldRules_any _ n u hl (h.up hu)).mono ?_
  rintro r w1 ⟨rfl, hb1⟩
  have HP : Hid (Below w.heap.size w w1) := hu.trans (hb1.mono hu.size)
  clear hu hb1 h
  go_wp2
  go_ret
  exact ⟨rfl, HP.out⟩
set_option maxRecDepth 20000 in
set_option maxHeartbeats 4000000 in
theorem eqOut_any (va vb : Value) (a b : Int) (l : List Ln) (w : World) (hl : l.length ≤ maxLen) (ha : SliceIs w va l) (hb : SliceIs w vb l) : Calls Tryd.prog 22 #[.agg #[va, .int .i64 a, .int .i64 b], .agg #[vb, .int .i64 a, .int .i64 b]] w fun r w' => r = .returned (.bool true) ∧ Below w.heap.size w w' := by
  obtain ⟨pa, ca, rfl⟩ := ha.shape
  obtain ⟨pb, cb, rfl⟩ := hb.shape
  have HE : Hid (∀ u, Below w.heap.size w u → Calls Tryd.prog 17 #[.slice pa l.length ca, .slice pb l.length cb] u fun r w' => r = .returned (.bool true) ∧ Below u.heap.size u w') := fun u hu => eqRules_any _ _ l u hl (ha.up hu) (hb.up hu)
  have HI : Hid ((fun u => Below w.heap.size w u ∧ rw.At u w.heap.size #[.slice pa l.length ca, .int .i64 a, .int .i64 b] 38 ∧ rw.At u (w.heap.size + 1) #[.slice pb l.length cb, .int .i64 a, .int .i64 b] 38) ((w.alloc (.cells #[.slice pa l.length ca, .int .i64 a, .int .i64 b] 38)).alloc (.cells #[.slice pb l.length cb, .int .i64 a, .int .i64 b] 38))) :=
    ⟨((Below.refl _ _).alloc (Nat.le_refl _) _).alloc (by simp) _, (Below.heap_alloc _ _ _ (by simp)).trans (heap_alloc_new _ _), by have := rw.At.new (w.alloc (.cells #[.slice pa l.length ca, .int .i64 a, .int .i64 b] 38)) #[.slice pb l.length cb, .int .i64 a, .int .i64 b] 38; rwa [World.size_alloc] at this⟩
  have hq1 : (a == a) = true := by simp
  have hq2 : (b == b) = true := by simp
  clear ha hb
  go_enter Tryd.func22, Tryd.ntmps22
  go_wp2_with (go_at_call 17; fail)
  refine calls_w (fun u => Below w.heap.size w u ∧ rw.At u w.heap.size #[.slice pa l.length ca, .int .i64 a, .int .i64 b] 38 ∧ rw.At u (w.heap.size + 1) #[.slice pb l.length cb, .int .i64 a, .int .i64 b] 38) HI.out ?_
  clear HI
  rintro u ⟨hu, h1, h2⟩
  refine (HE.out u hu).mono ?_
  rintro r w1 ⟨rfl, hb1⟩
  have c1 : w1.cell? ⟨w.heap.size, 1, none⟩ = some (.int .i64 a) := (h1.up hb1).cell 1
  have c2 : w1.cell? ⟨w.heap.size + 1, 1, none⟩ = some (.int .i64 a) := (h2.up hb1).cell 1
  have c3 : w1.cell? ⟨w.heap.size, 2, none⟩ = some (.int .i64 b) := (h1.up hb1).cell 2
  have c4 : w1.cell? ⟨w.heap.size + 1, 2, none⟩ = some (.int .i64 b) := (h2.up hb1).cell 2
  have HP : Hid (Below w.heap.size w w1) := hu.trans (hb1.mono hu.size)
  clear hu h1 h2 hb1 HE
  go_wp2
  go_ret
  exact ⟨rfl, HP.out⟩
end Go.Proofs.YtndjjhcdnlkekaaDoor.cu
