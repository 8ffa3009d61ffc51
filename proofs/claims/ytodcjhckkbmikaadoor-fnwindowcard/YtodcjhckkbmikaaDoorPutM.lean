/-
  The model's l04Put on a slice of its own: what the plain function tells, in a slice of its own; no old block turns. No condition but that the slice is short.
-/
import Derived.Test.YtodcjhckkbmikaaDoorWinT0
import Derived.Laws.AppendOwnNone
import Derived.Maps.AppendAt
import Derived.OwnWalk
namespace Go.Proofs.YtodcjhckkbmikaaDoor.wi
open Go.ChangeShapes Go.WideShapes Go.ChangeAt Go.RowKit
set_option linter.unusedVariables false

theorem grown_of_below' {u u' : World} (hb : Below u.heap.size u u') : u.grownBy u' none := ⟨hb.os, hb.tape, hb.output, hb.size, fun i hi _ => hb.block i hi⟩
theorem row_up {u u' : World} {base : Nat} {e : TypeId} {v : Value} {n : Nat} {xs : List Value} (h : u.ownsRow base e 1 v n xs) (hb : Below u.heap.size u u') : u'.ownsRow base e 1 v n xs := h.kept (grown_of_below' hb) (by cases hv : v.ownBlock <;> simp)
theorem row_le {u : World} {base base' : Nat} {e : TypeId} {v : Value} {n : Nat} {xs : List Value} (h : u.ownsRow base e 1 v n xs) (hb : base' ≤ base) : u.ownsRow base' e 1 v n xs := by
  refine ⟨h.1, ?_⟩
  rcases h.2 with h' | ⟨g, cap, cur, h1, h2, h3⟩
  · exact .inl h'
  · exact .inr ⟨g, cap, cur, h1, Nat.le_trans hb h2, h3⟩
theorem row_block' {u : World} {base : Nat} {e : TypeId} {v : Value} {n : Nat} {xs : List Value} (h : u.ownsRow base e 1 v n xs) : ∀ k, v.ownBlock = some k → base ≤ k := by
  intro k hk
  rcases h.2 with ⟨rfl, _⟩ | ⟨g, cap, cur, rfl, hb, _⟩
  · simp [Value.ownBlock] at hk
  · simp [Value.ownBlock] at hk; omega

theorem cell_one_new2 (w : World) (o : Obj) (x : Value) (t : TypeId) : ∀ (j : Nat) (u : Value), [x][j]? = some u → ((w.alloc o).alloc (.cells #[x] t)).cell? ((⟨w.heap.size + 1, 0, none⟩ : Addr).add j) = some u := by
  intro j u h
  have hc := cell_one_new (w.alloc o) x t j u h
  rwa [show (w.alloc o).heap.size = w.heap.size + 1 by simp] at hc

set_option maxRecDepth 20000 in
set_option maxHeartbeats 8000000 in
theorem put_any (base : Nat) (v : Value) (l : List Int) (n T : Int) (w : World) (hown : w.ownsRow base 2 1 v l.length (l.map (Value.int .i64))) (hl : l.length ≤ 1000) (hT : -1000000 ≤ T) (hT2 : T ≤ 1000000) (hbase : base ≤ w.heap.size) :
    Calls Tryd.prog 21 #[v, .int .i64 n, .int .i64 T] w fun r w' => ∃ v', r = .returned v' ∧ Below w.heap.size w w' ∧ w'.ownsRow base 2 1 v' (putL l n T).length ((putL l n T).map (Value.int .i64)) := by
  obtain ⟨i0, hi, hz0, hz1, hz2⟩ := info_parts info64
  by_cases h : n < T - 16
  · have e1 : putL l n T = l := if_pos h
    rw [e1]
    have HO : Hid (w.ownsRow base 2 1 v l.length (l.map (Value.int .i64))) := hown
    clear hown e1
    go_enter Tryd.func21, Tryd.ntmps21
    go_wp2
    go_ret
    exact ⟨v, rfl, Below.refl _ _, HO.out⟩
  · have e1 : putL l n T = l ++ [n] := if_neg h
    rw [e1]
    clear e1
    have hnew : (w.alloc (.cells #[] 2)).ownsRow w.heap.size 2 1 (.slice (some ⟨w.heap.size, 0, none⟩) 0 0) 0 [] := ⟨rfl, .inr ⟨w.heap.size, 0, #[], rfl, Nat.le_refl _, heap_alloc_new _ _, Nat.le_refl _, Nat.zero_le _, rfl, rfl⟩⟩
    rcases hown.2 with ⟨rfl, hnil⟩ | ⟨g, cap, cur, rfl, hbg, hcb, h1, h2, h3, h4⟩
    · have hl0 : l = [] := by
        cases l with
        | nil => rfl
        | cons x r => simp at hnil
      subst hl0
      clear hown hnil
      have HN2 : Hid (∀ o, ((w.alloc (.cells #[] 2)).alloc o).ownsRow w.heap.size 2 1 (.slice (some ⟨w.heap.size, 0, none⟩) 0 0) 0 []) := fun o => hnew.alloc o
      go_enter Tryd.func21, Tryd.ntmps21
      go_wp2_with (first | (at_builtin; refine wpList_append_own_none rfl _ _ 23 rfl w.heap.size 2 i0 1 Tryd.underlying23 hi _ _ _ rfl hnew rfl ?_) | (at_builtin; refine wpList_append_own _ rfl _ _ 23 rfl w.heap.size 2 i0 (.int .i64 0) 1 8 Tryd.underlying23 hi hz0 hz1 hz2 rfl (by decide) _ _ _ rfl (HN2.out _) ⟨w.heap.size + 1, 0, none⟩ 1 1 [_] rfl rfl (cell_one_new2 _ _ _ _) (fun x hx => by simp at hx; subst hx; rfl) (by unfold maxLen; omega) (by omega) (by simp; omega) ?_; intro v3 w3 hown3 hgr3 hnil3; clear hnil3; have HO3 : Hid (w3.ownsRow w.heap.size 2 1 v3 (0 + 1) ([] ++ [.int .i64 n])) := hown3; have HG3 : Hid (∃ o o', ((w.alloc o).alloc o').grownBy w3 (some w.heap.size)) := ⟨_, _, hgr3⟩; clear hown3 hgr3))
      go_ret
      refine ⟨v3, rfl, ?_, row_le (by simpa using HO3.out) hbase⟩
      obtain ⟨o, o', hg⟩ := HG3.out
      exact (((Below.refl _ _).alloc (Nat.le_refl _) _).alloc (by simp) _).grown hg (by simp; omega) (fun k hk => by cases hk; omega)
    · have hcells : ∀ j u, (l.map (Value.int .i64))[j]? = some u → (w.alloc (.cells #[] 2)).cell? ((⟨g, 0, none⟩ : Addr).add j) = some u := by
        intro j u hj
        have hjl : j < l.length := by
          have := (List.getElem?_eq_some_iff.1 hj).1
          simpa using this
        have e : (⟨g, 0, none⟩ : Addr).add j = ⟨g, j, none⟩ := by unfold Addr.add; split <;> simp_all
        rw [e, World.cell?_alloc_lt _ _ ⟨g, j, none⟩ (heap_lt hcb)]
        have hc := hown.cellAt j (by simpa using hjl)
        rw [hc, hj]
      have HG2 : Hid (g < w.heap.size) := heap_lt hcb
      clear hown hcb h1 h2 h3 h4
      go_enter Tryd.func21, Tryd.ntmps21
      go_wp2_with (first | (at_builtin; refine wpList_append_own _ rfl _ _ 23 rfl w.heap.size 2 i0 (.int .i64 0) 1 8 Tryd.underlying23 hi hz0 hz1 hz2 rfl (by decide) _ _ _ rfl (HO1.out _) ⟨w1.heap.size, 0, none⟩ 1 1 [_] rfl rfl (cell_one_new _ _ _) (fun x hx => by simp at hx; subst hx; rfl) (by unfold maxLen; omega) (by omega) (by simp; omega) ?_; intro v3 w3 hown3 hgr3 hnil3; clear hnil3; have HO3 : Hid (w3.ownsRow w.heap.size 2 1 v3 (0 + l.length + 1) ([] ++ l.map (Value.int .i64) ++ [.int .i64 n])) := hown3; have HG3 : Hid (∃ o, (w1.alloc o).grownBy w3 v1.ownBlock) := ⟨_, hgr3⟩; clear hown3 hgr3) | (at_builtin; refine wpList_append_own _ rfl _ _ 23 rfl w.heap.size 2 i0 (.int .i64 0) 1 8 Tryd.underlying23 hi hz0 hz1 hz2 rfl (by decide) _ _ _ rfl hnew ⟨g, 0, none⟩ l.length cap (l.map (Value.int .i64)) rfl (by simp) hcells (fun x hx => by obtain ⟨y, _, rfl⟩ := List.mem_map.1 hx; rfl) (by unfold maxLen; omega) (by omega) (by simp) ?_; intro v1 w1 hown1 hgr1 hnil1; clear hnil1; have HO1 : Hid (∀ o, (w1.alloc o).ownsRow w.heap.size 2 1 v1 (0 + l.length) ([] ++ l.map (Value.int .i64))) := (fun o => hown1.alloc o); have HB1 : Hid (∀ k, v1.ownBlock = some k → w.heap.size ≤ k) := row_block' hown1; have HG1 : Hid (∃ o, (w.alloc o).grownBy w1 (some w.heap.size)) := ⟨_, hgr1⟩; have hsz1 : w.heap.size ≤ w1.heap.size := Nat.le_trans (by simp) hgr1.size; clear hown1 hgr1 hcells hnew))
      go_ret
      refine ⟨v3, rfl, ?_, row_le (by simpa [List.map_append] using HO3.out) hbase⟩
      obtain ⟨o, hg⟩ := HG1.out
      obtain ⟨o', hg'⟩ := HG3.out
      have hB1 := ((Below.refl w.heap.size w).alloc (Nat.le_refl _) o).grown hg (by simp) (fun k hk => by cases hk; omega)
      exact (hB1.alloc hB1.size o').grown hg' (by simp; omega) (fun k hk => HB1.out k hk)
end Go.Proofs.YtodcjhckkbmikaaDoor.wi
