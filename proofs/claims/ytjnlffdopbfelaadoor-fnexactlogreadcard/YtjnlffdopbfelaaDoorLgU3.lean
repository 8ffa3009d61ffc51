/-
  The law's own helpers on what LogRead hands back: held against another, marked, looked at again. No condition.
-/
import Derived.Test.YtjnlffdopbfelaaDoorLogU2
import Derived.Test.YtjnlffdopbfelaaDoorLogS
import Derived.Test.YtjnlffdopbfelaaDoorLogR
import Derived.Test.YtjnlffdopbfelaaDoorLogV
namespace Go.Proofs.YtjnlffdopbfelaaDoor.ll
open Go.ChangeShapes Go.WideShapes Go.ChangeAt Go.RowKit
open Go.Proofs.YtjnlffdopbfelaaDoor.wi (heap_lt calls_w wp_w)
open Go.Proofs.YtjnlffdopbfelaaDoor.lg Go.Proofs.YtjnlffdopbfelaaDoor.ss
open Go.Proofs.YtjnlffdopbfelaaDoor.lm (row_shape row_up own_slice)
set_option linter.unusedVariables false

theorem infoLO : (Tryd.prog.info? 33).map (·.size) = some 3 := by kernel_rfl
theorem _root_.Go.Proofs.YtjnlffdopbfelaaDoor.ss.Own.up {u u' : World} {v : Value} {l : List ByteArray} (h : ss.Own u v l) (hb : Below u.heap.size u u') : ss.Own u' v l := row_up h hb
theorem _root_.Go.Proofs.YtjnlffdopbfelaaDoor.ss.Own.slice {u : World} {v : Value} {l : List ByteArray} (h : ss.Own u v l) : SliceIs u v l := own_slice h
theorem log_cells {u : World} {q : Nat} {v : Value} {i k : Int} (h : u.heap[q]? = some (.cells #[v, .int .i64 i, .int .i64 k] 33 (0, 0))) : u.cell? ⟨q, 0, none⟩ = some v ∧ u.cell? ⟨q, 1, none⟩ = some (.int .i64 i) ∧ u.cell? ⟨q, 2, none⟩ = some (.int .i64 k) := by
  refine ⟨?_, ?_, ?_⟩ <;> simp [World.cell?, h]
theorem grown_after {w u w1 : World} {row : Option Nat} (hu : Below w.heap.size w u) (hg : u.grownBy w1 row) : w.grownBy w1 row :=
  ⟨hg.os.trans hu.os, hg.tape.trans hu.tape, hg.output.trans hu.output, Nat.le_trans hu.size hg.size, fun j hj hne => (hg.block j (Nat.lt_of_lt_of_le hj hu.size) hne).trans (hu.block j hj)⟩
theorem heap_alloc2 (w : World) (o p : Obj) : ((w.alloc o).alloc p).heap[w.heap.size + 1]? = some p := by
  have := heap_alloc_new (w.alloc o) p
  rwa [World.size_alloc] at this
set_option maxRecDepth 20000 in
set_option maxHeartbeats 8000000 in
theorem markLog_any (v : Value) (i k : Int) (l : List ByteArray) (w : World) (hl : l.length ≤ 1048576) (h : ss.Own w v l) : Calls Tryd.prog 21 #[.agg #[v, .int .i64 i, .int .i64 k], .int .i64 1] w (MarkPost w v l.length) := by
  obtain ⟨p, cap, rfl⟩ := row_shape h
  have HB : Hid (Below w.heap.size w (w.alloc (.cells #[.slice p l.length cap, .int .i64 i, .int .i64 k] 33))) := (Below.refl _ _).alloc (Nat.le_refl _) _
  go_enter Tryd.func21, Tryd.ntmps21
  go_wp2_with (go_at_call 46; fail)
  refine calls_w (fun u => Below w.heap.size w u) HB.out ?_
  intro u hu
  refine (markTexts_any _ l u hl (h.up hu)).mono ?_
  rintro r w1 ⟨rfl, hg, l', h1, h2, h3⟩
  have HP : Hid (MarkPost w (.slice p l.length cap) l.length (.returned (.int .i64 ((l.length : Int) + 1))) w1) := ⟨rfl, grown_after hu hg, l', h1, h2, h3⟩
  clear hu hg h2 h3
  go_wp2
  go_ret
  exact HP.out
set_option maxRecDepth 20000 in
set_option maxHeartbeats 8000000 in
theorem heldLog_any (v : Value) (i k : Int) (l : List ByteArray) (w : World) (hl : l.length ≤ 1048576) (h : ss.Own w v l) (hm : Mk l l.length) : Calls Tryd.prog 22 #[.agg #[v, .int .i64 i, .int .i64 k], .int .i64 1] w fun r w' => r = .returned (.int .i64 ((l.length : Int) + 1)) ∧ Below w.heap.size w w' := by
  obtain ⟨p, cap, rfl⟩ := row_shape h
  have HB : Hid (Below w.heap.size w (w.alloc (.cells #[.slice p l.length cap, .int .i64 i, .int .i64 k] 33))) := (Below.refl _ _).alloc (Nat.le_refl _) _
  have hn1 : decide ((l.length : Int) + 1 < 0) = false := decide_eq_false (by omega)
  go_enter Tryd.func22, Tryd.ntmps22
  go_wp2_with (go_at_call 47; fail)
  refine calls_w (fun u => Below w.heap.size w u) HB.out ?_
  intro u hu
  refine (heldTexts_any _ l u hl (h.up hu) hm).mono ?_
  rintro r w1 ⟨rfl, hb1⟩
  have HP : Hid (Below w.heap.size w w1) := hu.trans (hb1.mono hu.size)
  clear hu hb1 h hm
  go_wp2
  go_ret
  exact ⟨rfl, HP.out⟩
set_option maxRecDepth 20000 in
set_option maxHeartbeats 8000000 in
theorem eqLog_any (va vb : Value) (i k : Int) (l : List ByteArray) (w : World) (hl : l.length ≤ maxLen) (ha : ss.Own w va l) (hb : ss.Own w vb l) : Calls Tryd.prog 20 #[.agg #[va, .int .i64 i, .int .i64 k], .agg #[vb, .int .i64 i, .int .i64 k]] w fun r w' => r = .returned (.bool true) ∧ Below w.heap.size w w' := by
  obtain ⟨pa, ca, rfl⟩ := row_shape ha
  obtain ⟨pb, cb, rfl⟩ := row_shape hb
  have HE : Hid (∀ u, Below w.heap.size w u → Calls Tryd.prog 17 #[.slice pa l.length ca, .slice pb l.length cb] u fun r w' => r = .returned (.bool true) ∧ Below u.heap.size u w') := fun u hu => eqTexts_any _ _ l u hl (ha.up hu).slice (hb.up hu).slice
  have HB : Hid (Below w.heap.size w ((w.alloc (.cells #[.slice pa l.length ca, .int .i64 i, .int .i64 k] 33)).alloc (.cells #[.slice pb l.length cb, .int .i64 i, .int .i64 k] 33))) := ((Below.refl _ _).alloc (Nat.le_refl _) _).alloc (by simp) _
  clear ha hb
  go_enter Tryd.func20, Tryd.ntmps20
  go_wp2_with (go_at_call 17; fail)
  refine calls_w (fun u => Below w.heap.size w u ∧ u.heap[w.heap.size]? = some (.cells #[.slice pa l.length ca, .int .i64 i, .int .i64 k] 33 (0, 0)) ∧ u.heap[w.heap.size + 1]? = some (.cells #[.slice pb l.length cb, .int .i64 i, .int .i64 k] 33 (0, 0))) ⟨HB.out, (Below.heap_alloc _ _ _ (by simp)).trans (heap_alloc_new _ _), heap_alloc2 _ _ _⟩ ?_
  clear HB
  rintro u ⟨hu, ha, hb⟩
  refine (HE.out u hu).mono ?_
  rintro r w1 ⟨rfl, hb1⟩
  obtain ⟨_, x1, x2⟩ := log_cells ((hb1.block _ (heap_lt ha)).trans ha)
  obtain ⟨_, y1, y2⟩ := log_cells ((hb1.block _ (heap_lt hb)).trans hb)
  have HP : Hid (Below w.heap.size w w1) := hu.trans (hb1.mono hu.size)
  have hq : (i == i) = true := by simp
  have hq2 : (k == k) = true := by simp
  clear hu ha hb hb1 HE
  go_wp2
  go_ret
  exact ⟨rfl, HP.out⟩
end Go.Proofs.YtjnlffdopbfelaaDoor.ll
