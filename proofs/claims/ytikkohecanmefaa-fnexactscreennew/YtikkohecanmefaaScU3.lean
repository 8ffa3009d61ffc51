/-
  The law's own helpers on what is handed back with a screen: held against another, marked, looked at again. No condition.
-/
import Derived.Test.YtikkohecanmefaaLogU2
import Derived.Test.YtikkohecanmefaaScQ
namespace Go.Proofs.Ytikkohecanmefaa.su
open Go.ChangeShapes Go.WideShapes Go.ChangeAt Go.RowKit
open Go.Proofs.Ytikkohecanmefaa.wi (heap_lt calls_w wp_w)
open Go.Proofs.Ytikkohecanmefaa.ss
open Go.Proofs.Ytikkohecanmefaa.sc (eqScr_any)
set_option linter.unusedVariables false

theorem grown_of_below {u u' : World} (hb : Below u.heap.size u u') : u.grownBy u' none := ⟨hb.os, hb.tape, hb.output, hb.size, fun i hi _ => hb.block i hi⟩
theorem row_up {u u' : World} {base : Nat} {e : TypeId} {v : Value} {n : Nat} {xs : List Value} (h : u.ownsRow base e 1 v n xs) (hb : Below u.heap.size u u') : u'.ownsRow base e 1 v n xs := h.kept (grown_of_below hb) (by cases hv : v.ownBlock <;> simp)
theorem row_block {u : World} {base : Nat} {e : TypeId} {v : Value} {n : Nat} {xs : List Value} (h : u.ownsRow base e 1 v n xs) : ∀ k, v.ownBlock = some k → base ≤ k ∧ ∃ cur, u.heap[k]? = some (.cells cur e (0, 0)) := by
  intro k hk
  rcases h.2 with ⟨rfl, _⟩ | ⟨g, cap, cur, rfl, hb, hg, _⟩
  · simp [Value.ownBlock] at hk
  · simp [Value.ownBlock] at hk
    subst hk
    exact ⟨hb, cur, hg⟩
theorem row_shape {u : World} {base : Nat} {e : TypeId} {v : Value} {l : List ByteArray} (h : u.ownsRow base e 1 v l.length (l.map Value.string)) : ∃ p cap, v = .slice p l.length cap := by
  obtain ⟨_, h1 | ⟨g, cap, cur, hv, _⟩⟩ := h
  · exact ⟨none, 0, by rw [h1.1, h1.2]⟩
  · exact ⟨_, _, hv⟩
theorem row_le {u : World} {base base' : Nat} {e : TypeId} {v : Value} {n : Nat} {xs : List Value} (h : u.ownsRow base e 1 v n xs) (hb : base' ≤ base) : u.ownsRow base' e 1 v n xs := by
  refine ⟨h.1, ?_⟩
  rcases h.2 with h' | ⟨g, cap, cur, h1, h2, h3⟩
  · exact .inl h'
  · exact .inr ⟨g, cap, cur, h1, Nat.le_trans hb h2, h3⟩
theorem own_slice {u : World} {base : Nat} {v : Value} {l : List ByteArray} (h : u.ownsRow base 9 1 v l.length (l.map Value.string)) : SliceIs u v l := by
  rcases h.2 with ⟨rfl, hl⟩ | ⟨g, cap, cur, rfl, hb, hg, h1, h2, h3, h4⟩
  · exact .inl ⟨_, _, List.length_eq_zero_iff.1 hl, rfl⟩
  · refine .inr ⟨g, 0, cap, heap_lt hg, rfl, fun j hj => ?_⟩
    rw [Nat.zero_add, h.cellAt j (by simpa using hj)]
    simp [List.getD, List.getElem?_eq_getElem hj]
theorem infoLO : (Try.prog.info? 32).map (·.size) = some 5 := by kernel_rfl
theorem _root_.Go.Proofs.Ytikkohecanmefaa.ss.Own.up {u u' : World} {v : Value} {l : List ByteArray} (h : ss.Own u v l) (hb : Below u.heap.size u u') : ss.Own u' v l := row_up h hb
theorem _root_.Go.Proofs.Ytikkohecanmefaa.ss.Own.slice {u : World} {v : Value} {l : List ByteArray} (h : ss.Own u v l) : SliceIs u v l := own_slice h
theorem out_cells {u : World} {q : Nat} {v : Value} {i k cd : Int} {e : ByteArray} (h : u.heap[q]? = some (.cells #[v, .int .i64 i, .int .i64 k, .string e, .int .i64 cd] 32 (0, 0))) : u.cell? ⟨q, 0, none⟩ = some v ∧ u.cell? ⟨q, 1, none⟩ = some (.int .i64 i) ∧ u.cell? ⟨q, 2, none⟩ = some (.int .i64 k) ∧ u.cell? ⟨q, 3, none⟩ = some (.string e) ∧ u.cell? ⟨q, 4, none⟩ = some (.int .i64 cd) := by
  refine ⟨?_, ?_, ?_, ?_, ?_⟩ <;> simp [World.cell?, h]
theorem grown_after {w u w1 : World} {row : Option Nat} (hu : Below w.heap.size w u) (hg : u.grownBy w1 row) : w.grownBy w1 row :=
  ⟨hg.os.trans hu.os, hg.tape.trans hu.tape, hg.output.trans hu.output, Nat.le_trans hu.size hg.size, fun j hj hne => (hg.block j (Nat.lt_of_lt_of_le hj hu.size) hne).trans (hu.block j hj)⟩
theorem heap_alloc2 (w : World) (o p : Obj) : ((w.alloc o).alloc p).heap[w.heap.size + 1]? = some p := by
  have := heap_alloc_new (w.alloc o) p
  rwa [World.size_alloc] at this
set_option maxRecDepth 20000 in
set_option maxHeartbeats 8000000 in
theorem markScr_any (v : Value) (i k : Int) (e : ByteArray) (l : List ByteArray) (w : World) (hl : l.length ≤ 1048576) (h : ss.Own w v l) : Calls Try.prog 21 #[.agg #[v, .int .i64 i, .int .i64 k, .string e], .int .i64 1] w (MarkPost w v l.length) := by
  obtain ⟨p, cap, rfl⟩ := row_shape h
  have HB : Hid (Below w.heap.size w (w.alloc (.cells #[.slice p l.length cap, .int .i64 i, .int .i64 k, .string e] 27))) := (Below.refl _ _).alloc (Nat.le_refl _) _
  go_enter Try.func21, Try.ntmps21
  go_wp2_with (go_at_call 51; fail)
  refine calls_w (fun u => Below w.heap.size w u) HB.out ?_
  intro u hu
  refine (markTexts_any _ l u hl (h.up hu)).mono ?_
  rintro r w1 ⟨rfl, hg, l', h1, h2, h3⟩
  have HP : Hid (MarkPost w (.slice p l.length cap) l.length (.returned (.int .i64 ((l.length : Int) + 1))) w1) := ⟨rfl, grown_after hu hg, l', h1, h2, h3⟩
  clear hu hg h2 h3
  go_wp2
  go_ret
  exact HP.out
set_option maxRecDepth 20000 in
set_option maxHeartbeats 8000000 in
theorem heldScr_any (v : Value) (i k : Int) (e : ByteArray) (l : List ByteArray) (w : World) (hl : l.length ≤ 1048576) (h : ss.Own w v l) (hm : Mk l l.length) : Calls Try.prog 46 #[.agg #[v, .int .i64 i, .int .i64 k, .string e], .int .i64 1] w fun r w' => r = .returned (.int .i64 ((l.length : Int) + 1)) ∧ Below w.heap.size w w' := by
  obtain ⟨p, cap, rfl⟩ := row_shape h
  have HB : Hid (Below w.heap.size w (w.alloc (.cells #[.slice p l.length cap, .int .i64 i, .int .i64 k, .string e] 27))) := (Below.refl _ _).alloc (Nat.le_refl _) _
  have hn1 : decide ((l.length : Int) + 1 < 0) = false := decide_eq_false (by omega)
  go_enter Try.func46, Try.ntmps46
  go_wp2_with (go_at_call 63; fail)
  refine calls_w (fun u => Below w.heap.size w u) HB.out ?_
  intro u hu
  refine (heldTexts_any _ l u hl (h.up hu) hm).mono ?_
  rintro r w1 ⟨rfl, hb1⟩
  have HP : Hid (Below w.heap.size w w1) := hu.trans (hb1.mono hu.size)
  clear hu hb1 h hm
  go_wp2
  go_ret
  exact ⟨rfl, HP.out⟩
set_option maxRecDepth 20000 in
set_option maxHeartbeats 8000000 in
theorem markOut_any (v : Value) (i k : Int) (e : ByteArray) (cd : Int) (l : List ByteArray) (w : World) (hl : l.length ≤ 1048576) (h : ss.Own w v l) : Calls Try.prog 17 #[.agg #[v, .int .i64 i, .int .i64 k, .string e, .int .i64 cd], .int .i64 1] w (MarkPost w v l.length) := by
  obtain ⟨p, cap, rfl⟩ := row_shape h
  have HB : Hid (Below w.heap.size w (w.alloc (.cells #[.slice p l.length cap, .int .i64 i, .int .i64 k, .string e, .int .i64 cd] 32))) := (Below.refl _ _).alloc (Nat.le_refl _) _
  go_enter Try.func17, Try.ntmps17
  go_wp2_with (go_at_call 21; fail)
  refine calls_w (fun u => Below w.heap.size w u) HB.out ?_
  intro u hu
  refine (markScr_any _ i k e l u hl (h.up hu)).mono ?_
  rintro r w1 ⟨rfl, hg, l', h1, h2, h3⟩
  have HP : Hid (MarkPost w (.slice p l.length cap) l.length (.returned (.int .i64 ((l.length : Int) + 1))) w1) := ⟨rfl, grown_after hu hg, l', h1, h2, h3⟩
  clear hu hg h2 h3
  go_wp2
  go_ret
  exact HP.out
set_option maxRecDepth 20000 in
set_option maxHeartbeats 8000000 in
theorem heldOut_any (v : Value) (i k : Int) (e : ByteArray) (cd : Int) (l : List ByteArray) (w : World) (hl : l.length ≤ 1048576) (h : ss.Own w v l) (hm : Mk l l.length) : Calls Try.prog 18 #[.agg #[v, .int .i64 i, .int .i64 k, .string e, .int .i64 cd], .int .i64 1] w fun r w' => r = .returned (.int .i64 ((l.length : Int) + 1)) ∧ Below w.heap.size w w' := by
  obtain ⟨p, cap, rfl⟩ := row_shape h
  have HB : Hid (Below w.heap.size w (w.alloc (.cells #[.slice p l.length cap, .int .i64 i, .int .i64 k, .string e, .int .i64 cd] 32))) := (Below.refl _ _).alloc (Nat.le_refl _) _
  have hn1 : decide ((l.length : Int) + 1 < 0) = false := decide_eq_false (by omega)
  go_enter Try.func18, Try.ntmps18
  go_wp2_with (go_at_call 46; fail)
  refine calls_w (fun u => Below w.heap.size w u) HB.out ?_
  intro u hu
  refine (heldScr_any _ i k e l u hl (h.up hu) hm).mono ?_
  rintro r w1 ⟨rfl, hb1⟩
  have HP : Hid (Below w.heap.size w w1) := hu.trans (hb1.mono hu.size)
  clear hu hb1 h hm
  go_wp2
  go_ret
  exact ⟨rfl, HP.out⟩
set_option maxRecDepth 20000 in
set_option maxHeartbeats 8000000 in
theorem eqOut_any (va vb : Value) (i k : Int) (e : ByteArray) (cd : Int) (l : List ByteArray) (w : World) (hl : l.length ≤ maxLen) (ha : ss.Own w va l) (hb : ss.Own w vb l) : Calls Try.prog 16 #[.agg #[va, .int .i64 i, .int .i64 k, .string e, .int .i64 cd], .agg #[vb, .int .i64 i, .int .i64 k, .string e, .int .i64 cd]] w fun r w' => r = .returned (.bool true) ∧ Below w.heap.size w w' := by
  obtain ⟨pa, ca, rfl⟩ := row_shape ha
  obtain ⟨pb, cb, rfl⟩ := row_shape hb
  have HE : Hid (∀ u, Below w.heap.size w u → Calls Try.prog 13 #[.agg #[.slice pa l.length ca, .int .i64 i, .int .i64 k, .string e], .agg #[.slice pb l.length cb, .int .i64 i, .int .i64 k, .string e]] u fun r w' => r = .returned (.bool true) ∧ Below u.heap.size u w') := fun u hu => eqScr_any i k e _ _ l u hl (ha.up hu).slice (hb.up hu).slice
  have HB : Hid (Below w.heap.size w ((w.alloc (.cells #[.slice pa l.length ca, .int .i64 i, .int .i64 k, .string e, .int .i64 cd] 32)).alloc (.cells #[.slice pb l.length cb, .int .i64 i, .int .i64 k, .string e, .int .i64 cd] 32))) := ((Below.refl _ _).alloc (Nat.le_refl _) _).alloc (by simp) _
  clear ha hb
  go_enter Try.func16, Try.ntmps16
  go_wp2_with (go_at_call 13; fail)
  refine calls_w (fun u => Below w.heap.size w u ∧ u.heap[w.heap.size]? = some (.cells #[.slice pa l.length ca, .int .i64 i, .int .i64 k, .string e, .int .i64 cd] 32 (0, 0)) ∧ u.heap[w.heap.size + 1]? = some (.cells #[.slice pb l.length cb, .int .i64 i, .int .i64 k, .string e, .int .i64 cd] 32 (0, 0))) ⟨HB.out, (Below.heap_alloc _ _ _ (by simp)).trans (heap_alloc_new _ _), heap_alloc2 _ _ _⟩ ?_
  clear HB
  rintro u ⟨hu, ha, hb⟩
  refine (HE.out u hu).mono ?_
  rintro r w1 ⟨rfl, hb1⟩
  obtain ⟨_, x1, x2, x3, x4⟩ := out_cells ((hb1.block _ (heap_lt ha)).trans ha)
  obtain ⟨_, y1, y2, y3, y4⟩ := out_cells ((hb1.block _ (heap_lt hb)).trans hb)
  have HP : Hid (Below w.heap.size w w1) := hu.trans (hb1.mono hu.size)
  have hq : (i == i) = true := by simp
  have hq2 : (cd == cd) = true := by simp
  have hq3 : (e.toList == e.toList) = true := by simp
  clear hu ha hb hb1 HE
  go_wp2
  go_ret
  exact ⟨rfl, HP.out⟩
end Go.Proofs.Ytikkohecanmefaa.su
