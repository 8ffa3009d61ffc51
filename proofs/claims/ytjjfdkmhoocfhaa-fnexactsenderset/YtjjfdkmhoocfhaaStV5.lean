/-
  The law's own helpers on what is handed back with a sender: held against another, marked, looked at again. No condition.
-/
import Derived.Test.YtjjfdkmhoocfhaaStV4
namespace Go.Proofs.Ytjjfdkmhoocfhaa.st
open Go.ChangeShapes Go.WideShapes Go.ChangeAt Go.RowKit
open Go.Proofs.Ytjjfdkmhoocfhaa.wi (heap_lt calls_w wp_w)
set_option linter.unusedVariables false

set_option maxRecDepth 20000 in
set_option maxHeartbeats 4000000 in
theorem markOut_any (v : Value) (cd : Int) (l : List Ln) (w : World) (hl : l.length ≤ 1048576) (h : OwnX w v l) : Calls Try.prog 31 #[.agg #[v, .int .i64 cd], .int .i64 1] w (MarkPost w v l.length) := by
  obtain ⟨p, cap, rfl⟩ := h.shape
  have HB : Hid (Below w.heap.size w (w.alloc (.cells #[.slice p l.length cap, .int .i64 cd] 57))) := (Below.refl _ _).alloc (Nat.le_refl _) _
  go_enter Try.func31, Try.ntmps31
  go_wp2_with (go_at_call 26; fail)
  refine calls_w (fun u => Below w.heap.size w u) HB.out ?_
  intro u hu
  refine (markSnd_any _ l u hl (h.up hu)).mono ?_
  rintro r w1 ⟨rfl, hg, l', h1, h2, h3⟩
  have HP : Hid (MarkPost w (.slice p l.length cap) l.length (.returned (.int .i64 (2 * (l.length : Int) + 1))) w1) := ⟨rfl, grown_after hu hg, l', h1, h2, h3⟩
  clear hu hg h2 h3
  go_wp2
  go_ret
  exact HP.out
set_option maxRecDepth 20000 in
set_option maxHeartbeats 4000000 in
theorem heldOut_any (v : Value) (cd : Int) (l : List Ln) (w : World) (hl : l.length ≤ 1048576) (h : OwnX w v l) (hm : Mk l l.length) : Calls Try.prog 32 #[.agg #[v, .int .i64 cd], .int .i64 1] w fun r w' => r = .returned (.int .i64 (2 * (l.length : Int) + 1)) ∧ Below w.heap.size w w' := by
  obtain ⟨p, cap, rfl⟩ := h.shape
  have HB : Hid (Below w.heap.size w (w.alloc (.cells #[.slice p l.length cap, .int .i64 cd] 57))) := (Below.refl _ _).alloc (Nat.le_refl _) _
  have hn1 : decide (2 * (l.length : Int) + 1 < 0) = false := decide_eq_false (by omega)
  go_enter Try.func32, Try.ntmps32
  go_wp2_with (go_at_call 27; fail)
  refine calls_w (fun u => Below w.heap.size w u) HB.out ?_
  intro u hu
  refine (heldSnd_any _ l u hl (h.up hu) hm).mono ?_
  rintro r w1 ⟨rfl, hb1⟩
  have HP : Hid (Below w.heap.size w w1) := hu.trans (hb1.mono hu.size)
  clear hu hb1 h hm
  go_wp2
  go_ret
  exact ⟨rfl, HP.out⟩
set_option maxRecDepth 20000 in
set_option maxHeartbeats 4000000 in
theorem eqOut_any (va vb : Value) (cd : Int) (l : List Ln) (w : World) (hl : l.length ≤ maxLen) (ha : SliceIs w va l) (hb : SliceIs w vb l) : Calls Try.prog 30 #[.agg #[va, .int .i64 cd], .agg #[vb, .int .i64 cd]] w fun r w' => r = .returned (.bool true) ∧ Below w.heap.size w w' := by
  obtain ⟨pa, ca, rfl⟩ := ha.shape
  obtain ⟨pb, cb, rfl⟩ := hb.shape
  have HE : Hid (∀ u, Below w.heap.size w u → Calls Try.prog 23 #[.agg #[.slice pa l.length ca], .agg #[.slice pb l.length cb]] u fun r w' => r = .returned (.bool true) ∧ Below u.heap.size u w') := fun u hu => eqSnd_any _ _ l u hl (ha.up hu) (hb.up hu)
  have HI : Hid ((fun u => Below w.heap.size w u ∧ rw.At u w.heap.size #[.slice pa l.length ca, .int .i64 cd] 57 ∧ rw.At u (w.heap.size + 1) #[.slice pb l.length cb, .int .i64 cd] 57) ((w.alloc (.cells #[.slice pa l.length ca, .int .i64 cd] 57)).alloc (.cells #[.slice pb l.length cb, .int .i64 cd] 57))) :=
    ⟨((Below.refl _ _).alloc (Nat.le_refl _) _).alloc (by simp) _, (Below.heap_alloc _ _ _ (by simp)).trans (heap_alloc_new _ _), by have := rw.At.new (w.alloc (.cells #[.slice pa l.length ca, .int .i64 cd] 57)) #[.slice pb l.length cb, .int .i64 cd] 57; rwa [World.size_alloc] at this⟩
  have hq2 : (cd == cd) = true := by simp
  clear ha hb
  go_enter Try.func30, Try.ntmps30
  go_wp2_with (go_at_call 23; fail)
  refine calls_w (fun u => Below w.heap.size w u ∧ rw.At u w.heap.size #[.slice pa l.length ca, .int .i64 cd] 57 ∧ rw.At u (w.heap.size + 1) #[.slice pb l.length cb, .int .i64 cd] 57) HI.out ?_
  clear HI
  rintro u ⟨hu, h1, h2⟩
  refine (HE.out u hu).mono ?_
  rintro r w1 ⟨rfl, hb1⟩
  have c1 : w1.cell? ⟨w.heap.size, 1, none⟩ = some (.int .i64 cd) := (h1.up hb1).cell 1
  have c2 : w1.cell? ⟨w.heap.size + 1, 1, none⟩ = some (.int .i64 cd) := (h2.up hb1).cell 1
  have HP : Hid (Below w.heap.size w w1) := hu.trans (hb1.mono hu.size)
  clear hu h1 h2 hb1 HE
  go_wp2
  go_ret
  exact ⟨rfl, HP.out⟩
end Go.Proofs.Ytjjfdkmhoocfhaa.st
