/-
  The law's own helpers on receivers: measured, copied. No condition.
-/
import Derived.Test.YtjjfdkmhoocfhabStO
namespace Go.Proofs.Ytjjfdkmhoocfhab.st
open Go.ChangeShapes Go.WideShapes Go.ChangeAt Go.RowKit
open Go.Proofs.Ytjjfdkmhoocfhab.wi (heap_lt calls_w wp_w)
set_option linter.unusedVariables false

theorem infoRc : (Try.prog.info? 48).map (·.size) = some 2 := by kernel_rfl
theorem szReceiver_any (a : Int) (t : ByteArray) (left : Int) (w : World) (h0 : 0 ≤ left) (h1 : left ≤ 1048576) (ht : t.size ≤ 9223372036854775807) :
    Calls Try.prog 15 #[.agg #[.int .i64 a, .string t], .int .i64 left] w fun r w' => r = .returned (.int .i64 (if left - (t.size : Int) < 0 then -1 else left - (t.size : Int))) ∧ Below w.heap.size w w' := by
  have HB0 : Hid (∀ o, Below w.heap.size w (w.alloc o)) := fun o => (Below.refl _ _).alloc (Nat.le_refl _) o
  obtain ⟨A, hA⟩ : ∃ A, A = (if left - (t.size : Int) < 0 then -1 else left - (t.size : Int)) := ⟨_, rfl⟩
  have hs := fun u => szState_any a t left u h0 h1 ht
  rw [← hA] at hs ⊢
  have hA0 : A = -1 ∨ (0 ≤ A) := by
    rw [hA]; split
    · exact .inl rfl
    · exact .inr (by omega)
  clear hA
  go_enter Try.func15, Try.ntmps15
  go_wp2_with (go_at_call 35; fail)
  refine calls_w (fun u => Below w.heap.size w u) (HB0.out _) ?_
  clear HB0
  intro u hu
  refine (hs u).mono ?_
  rintro r w1 ⟨rfl, hb1⟩
  have HB : Hid (Below w.heap.size w w1) := hu.trans (hb1.mono hu.size)
  clear hu hb1 hs
  rcases hA0 with hx | hx
  · subst hx
    go_wp2
    go_ret
    exact ⟨rfl, HB.out⟩
  · have d : decide (A < 0) = false := decide_eq_false (by omega)
    clear hx
    go_wp2
    go_ret
    exact ⟨rfl, HB.out⟩
set_option maxHeartbeats 2000000 in
theorem toReceiver_any (a : Int) (t : ByteArray) (w : World) :
    Calls Try.prog 18 #[.agg #[.int .i64 a, .string t]] w fun r w' => r = .returned (.agg #[.int .i64 a, .string t]) ∧ Below w.heap.size w w' := by
  have HI0 : Hid ((fun u => Below w.heap.size w u ∧ rw.At u (w.heap.size + 1) #[.int .i64 0, .string ⟨#[]⟩] 48 ∧ rw.At u (w.heap.size + 1 + 1) #[.int .i64 0, .string ⟨#[]⟩] 48) (((w.alloc (.cells #[.int .i64 a, .string t] 41)).alloc (.cells #[.int .i64 0, .string ⟨#[]⟩] 48)).alloc (.cells #[.int .i64 0, .string ⟨#[]⟩] 48))) := by
    refine ⟨(((Below.refl _ _).alloc (Nat.le_refl _) _).alloc (by simp) _).alloc (by simp; omega) _, ?_, ?_⟩
    · exact (Below.heap_alloc _ _ _ (by simp)).trans (by simpa using heap_alloc_new (w.alloc (.cells #[.int .i64 a, .string t] 41)) (.cells #[.int .i64 0, .string ⟨#[]⟩] 48))
    · have := rw.At.new ((w.alloc (.cells #[.int .i64 a, .string t] 41)).alloc (.cells #[.int .i64 0, .string ⟨#[]⟩] 48)) #[.int .i64 0, .string ⟨#[]⟩] 48
      simpa using this
  go_enter Try.func18, Try.ntmps18
  go_wp2_with (go_at_call 39; fail)
  refine calls_w (fun u => Below w.heap.size w u ∧ rw.At u (w.heap.size + 1) #[.int .i64 0, .string ⟨#[]⟩] 48 ∧ rw.At u (w.heap.size + 1 + 1) #[.int .i64 0, .string ⟨#[]⟩] 48) HI0.out ?_
  clear HI0
  rintro u ⟨hu, h1, h2⟩
  refine (toState_any a t u).mono ?_
  rintro r w1 ⟨rfl, hb1⟩
  have hB1 : Below w.heap.size w w1 := hu.trans (hb1.mono hu.size)
  replace h1 := h1.up hb1
  replace h2 := h2.up hb1
  have o0 : w1.cell? ⟨w.heap.size + 1 + 1, 0, none⟩ = some (.int .i64 0) := h2.cell 0
  have o1 : w1.cell? ⟨w.heap.size + 1 + 1, 1, none⟩ = some (.string ⟨#[]⟩) := h2.cell 1
  have r0 : w1.cell? ⟨w.heap.size + 1, 0, none⟩ = some (.int .i64 0) := h1.cell 0
  have r1 : w1.cell? ⟨w.heap.size + 1, 1, none⟩ = some (.string ⟨#[]⟩) := h1.cell 1
  have f0 : ∀ k, w1.frozen? ⟨w.heap.size + 1 + 1, k, none⟩ = false := fun k => h2.frozen k
  have g0 : ∀ k, w1.frozen? ⟨w.heap.size + 1, k, none⟩ = false := fun k => h1.frozen k
  have HR : Hid (rw.At ((((w1.setCell ⟨w.heap.size + 1 + 1, 0, none⟩ (.int .i64 a)).setCell ⟨w.heap.size + 1 + 1, 1, none⟩ (.string t)).setCell ⟨w.heap.size + 1, 0, none⟩ (.int .i64 a)).setCell ⟨w.heap.size + 1, 1, none⟩ (.string t)) (w.heap.size + 1) #[.int .i64 a, .string t] 48) := ((((h1.far (by omega) 0 _).far (by omega) 1 _).set 0 _).set 1 _)
  have HB2 : Hid (Below w.heap.size w ((((w1.setCell ⟨w.heap.size + 1 + 1, 0, none⟩ (.int .i64 a)).setCell ⟨w.heap.size + 1 + 1, 1, none⟩ (.string t)).setCell ⟨w.heap.size + 1, 0, none⟩ (.int .i64 a)).setCell ⟨w.heap.size + 1, 1, none⟩ (.string t))) := (((hB1.setCell (by simp; omega) _).setCell (by simp; omega) _).setCell (by simp) _).setCell (by simp) _
  clear hu hb1 h1 h2 hB1
  go_wp2
  exact bodyPost_ret (results_cell_row Try.results18 _ _ (w.heap.size + 1) _ #[.int .i64 a, .string t] _ _ rfl HR.out Try.underlying48 rfl infoRc) rfl ⟨rfl, HB2.out⟩
end Go.Proofs.Ytjjfdkmhoocfhab.st
