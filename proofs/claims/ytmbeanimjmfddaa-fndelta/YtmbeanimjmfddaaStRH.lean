/-
  What a receiver hears: the model's ReceiverHear and the program's. No condition.
-/
import Derived.Test.YtmbeanimjmfddaaStNI
namespace Go.Proofs.Ytmbeanimjmfddaa.st
open Go.ChangeShapes Go.WideShapes Go.ChangeAt Go.RowKit
open Go.Proofs.Ytmbeanimjmfddaa.wi (heap_lt calls_w wp_w)
open Classical
set_option linter.unusedVariables false

/-- what ReceiverHear tells -/
structure HearV (n : Int) (t : ByteArray) (f to k : Int) (tl : ByteArray) (v : Value) : Prop where
  c1 : ¬ StR n t → v = outR 0 ⟨#[]⟩ 1
  c2 : StR n t → to ≤ n → v = outR 0 ⟨#[]⟩ 12
  c3 : StR n t → ¬ to ≤ n → OnV n t f to k tl v
/-- the receiver's block, the update's and the answer's -/
structure In4 (w : World) (n : Int) (t : ByteArray) (f to k : Int) (tl : ByteArray) (u : World) : Prop where
  bel : Below w.heap.size w u
  fst : u.heap[w.heap.size]? = some (.cells #[.int .i64 n, .string t] 33 (0, 0))
  snd : u.heap[w.heap.size + 1]? = some (.cells #[.int .i64 f, .int .i64 to, .int .i64 k, .string tl] 28 (0, 0))
  res : u.heap[w.heap.size + 1 + 1]? = some (.cells #[.int .i64 0, .string ⟨#[]⟩, .int .i64 0] 37 (0, 0))
variable {w u u' : World} {n : Int} {t : ByteArray} {f to k : Int} {tl : ByteArray}
theorem In4.new : In4 w n t f to k tl (((w.alloc (.cells #[.int .i64 n, .string t] 33)).alloc (.cells #[.int .i64 f, .int .i64 to, .int .i64 k, .string tl] 28)).alloc (.cells #[.int .i64 0, .string ⟨#[]⟩, .int .i64 0] 37)) := by
  refine ⟨(((Below.refl _ _).alloc (Nat.le_refl _) _).alloc (by simp) _).alloc (by simp; omega) _, ?_, ?_, ?_⟩
  · exact (Below.heap_alloc _ _ _ (by simp; omega)).trans ((Below.heap_alloc _ _ _ (by simp)).trans (heap_alloc_new _ _))
  · exact (Below.heap_alloc _ _ _ (by simp)).trans (heap_alloc2' _ _ _)
  · have := heap_alloc_new ((w.alloc (.cells #[.int .i64 n, .string t] 33)).alloc (.cells #[.int .i64 f, .int .i64 to, .int .i64 k, .string tl] 28)) (.cells #[.int .i64 0, .string ⟨#[]⟩, .int .i64 0] 37)
    simpa using this
theorem In4.up (h : In4 w n t f to k tl u) (hb : Below u.heap.size u u') : In4 w n t f to k tl u' :=
  ⟨h.bel.trans (hb.mono h.bel.size), (hb.block _ (heap_lt h.fst)).trans h.fst, (hb.block _ (heap_lt h.snd)).trans h.snd, (hb.block _ (heap_lt h.res)).trans h.res⟩
theorem In4.cells (h : In4 w n t f to k tl u) : (u.cell? ⟨w.heap.size, 0, none⟩ = some (.int .i64 n) ∧ u.cell? ⟨w.heap.size, 1, none⟩ = some (.string t)) ∧ u.cell? ⟨w.heap.size + 1, 0, none⟩ = some (.int .i64 f) ∧ u.cell? ⟨w.heap.size + 1, 1, none⟩ = some (.int .i64 to) ∧ u.cell? ⟨w.heap.size + 1, 2, none⟩ = some (.int .i64 k) ∧ u.cell? ⟨w.heap.size + 1, 3, none⟩ = some (.string tl) := by
  refine ⟨⟨?_, ?_⟩, ?_, ?_, ?_, ?_⟩ <;> simp [World.cell?, h.fst, h.snd]
theorem In4.rcells (h : In4 w n t f to k tl u) : u.cell? ⟨w.heap.size + 1 + 1, 0, none⟩ = some (.int .i64 0) ∧ u.cell? ⟨w.heap.size + 1 + 1, 1, none⟩ = some (.string ⟨#[]⟩) ∧ u.cell? ⟨w.heap.size + 1 + 1, 2, none⟩ = some (.int .i64 0) ∧ ∀ k, u.frozen? ⟨w.heap.size + 1 + 1, k, none⟩ = false := by
  refine ⟨?_, ?_, ?_, fun k => frozen_of_row _ _ _ _ _ h.res⟩ <;> simp [World.cell?, h.res]
theorem In4.fin (h : In4 w n t f to k tl u) : FinR w u := fun x0 x1 x2 => ⟨fill3_heap h.res _ _ _, fill3_below h.bel (by omega) _ _ _⟩
theorem OnV.shape {v : Value} (h : OnV n t f to k tl v) : ∃ X T Y, v = .agg #[.int .i64 X, .string T, .int .i64 Y] := by
  by_cases a : StR n t ∧ UpR to k tl
  · by_cases b : f = n
    · by_cases c : (t.size : Int) < k ∨ 400 < k + (tl.size : Int)
      · exact ⟨_, _, _, h.c3 a.1 a.2 b c⟩
      · exact ⟨_, _, _, h.c4 a.1 a.2 b c⟩
    · exact ⟨_, _, _, h.c2 a.1 a.2 b⟩
  · exact ⟨_, _, _, h.c1 a⟩
set_option maxHeartbeats 4000000 in
theorem hearM_any (n : Int) (t : ByteArray) (f to k : Int) (tl : ByteArray) (w : World) (ht : t.size ≤ maxLen) (htl : tl.size ≤ maxLen) :
    Calls Try.prog 15 #[.agg #[.int .i64 n, .string t], .agg #[.int .i64 f, .int .i64 to, .int .i64 k, .string tl]] w fun e w' => ∃ v, e = .returned v ∧ HearV n t f to k tl v ∧ Below w.heap.size w w' := by
  have HI : Hid (In4 w n t f to k tl (((w.alloc (.cells #[.int .i64 n, .string t] 33)).alloc (.cells #[.int .i64 f, .int .i64 to, .int .i64 k, .string tl] 28)).alloc (.cells #[.int .i64 0, .string ⟨#[]⟩, .int .i64 0] 37))) := In4.new
  have h1 := fun u => stateM_any n t u ht
  by_cases s1 : StR n t
  · rw [decide_eq_true s1] at h1
    by_cases s2 : to ≤ n
    · have d2 : decide (to ≤ n) = true := decide_eq_true s2
      have HV : Hid (HearV n t f to k tl (outR 0 ⟨#[]⟩ 12)) := ⟨fun h => absurd s1 h, fun _ _ => rfl, fun _ h => absurd s2 h⟩
      clear s1 s2
      go_enter Try.func15, Try.ntmps15
      go_wp2_with (go_at_call 41; fail)
      refine calls_w (In4 w n t f to k tl) HI.out ?_
      clear HI
      intro u i
      refine (h1 u).mono ?_
      rintro r u1 ⟨rfl, hb⟩
      replace i := i.up hb
      clear hb
      obtain ⟨⟨y0, y1⟩, x0, x1, x2, x3⟩ := i.cells
      go_wp2_with (go_at_call 45; fail)
      refine calls_w (In4 w n t f to k tl) i ?_
      clear i y0 y1 x0 x1 x2 x3
      intro u i
      refine (illM_any 12 u).mono ?_
      rintro r u1 ⟨rfl, hb⟩
      replace i := i.up hb
      clear hb
      obtain ⟨⟨y0, y1⟩, x0, x1, x2, x3⟩ := i.cells
      obtain ⟨r0, r1, r2, r3⟩ := i.rcells
      have HD : Hid _ := i.fin (.int .i64 0) (.string ⟨#[]⟩) (.int .i64 12)
      clear i
      go_wp2
      obtain ⟨d1, d2⟩ := HD.out
      exact bodyPost_ret (results_cell_row Try.results15 _ _ (w.heap.size + 1 + 1) _ #[.int .i64 0, .string ⟨#[]⟩, .int .i64 12] _ _ rfl d1 Try.underlying37 rfl infoRO) rfl ⟨_, rfl, HV.out, d2⟩
    · have d2 : decide (to ≤ n) = false := decide_eq_false s2
      have HS2 : Hid (¬ to ≤ n) := s2
      go_enter Try.func15, Try.ntmps15
      go_wp2_with (go_at_call 41; fail)
      refine calls_w (In4 w n t f to k tl) HI.out ?_
      clear HI
      intro u i
      refine (h1 u).mono ?_
      rintro r u1 ⟨rfl, hb⟩
      replace i := i.up hb
      clear hb
      obtain ⟨⟨y0, y1⟩, x0, x1, x2, x3⟩ := i.cells
      go_wp2_with (go_at_call 14; fail)
      refine calls_w (In4 w n t f to k tl) i ?_
      clear i y0 y1 x0 x1 x2 x3
      intro u i
      refine (onM_any n t f to k tl u ht htl).mono ?_
      rintro r u1 ⟨v, rfl, hv, hb⟩
      replace i := i.up hb
      clear hb
      obtain ⟨X, T, Y, hXY⟩ := hv.shape
      have HV : Hid (HearV n t f to k tl (.agg #[.int .i64 X, .string T, .int .i64 Y])) := ⟨fun h => absurd s1 h, fun _ h => absurd h (Int.not_le.mpr HS2.out), fun _ _ => by rw [← hXY]; exact hv⟩
      subst hXY
      clear hv s1 s2 HS2
      obtain ⟨r0, r1, r2, r3⟩ := i.rcells
      have HD : Hid _ := i.fin (.int .i64 X) (.string T) (.int .i64 Y)
      clear i
      go_wp2
      obtain ⟨d1, d2⟩ := HD.out
      exact bodyPost_ret (results_cell_row Try.results15 _ _ (w.heap.size + 1 + 1) _ #[.int .i64 X, .string T, .int .i64 Y] _ _ rfl d1 Try.underlying37 rfl infoRO) rfl ⟨_, rfl, HV.out, d2⟩
  · rw [decide_eq_false s1] at h1
    have HV : Hid (HearV n t f to k tl (outR 0 ⟨#[]⟩ 1)) := ⟨fun _ => rfl, fun h => absurd h s1, fun h => absurd h s1⟩
    clear s1
    go_enter Try.func15, Try.ntmps15
    go_wp2_with (go_at_call 41; fail)
    refine calls_w (In4 w n t f to k tl) HI.out ?_
    clear HI
    intro u i
    refine (h1 u).mono ?_
    rintro r u1 ⟨rfl, hb⟩
    replace i := i.up hb
    clear hb
    obtain ⟨⟨y0, y1⟩, x0, x1, x2, x3⟩ := i.cells
    go_wp2_with (go_at_call 45; fail)
    refine calls_w (In4 w n t f to k tl) i ?_
    clear i y0 y1 x0 x1 x2 x3
    intro u i
    refine (illM_any 1 u).mono ?_
    rintro r u1 ⟨rfl, hb⟩
    replace i := i.up hb
    clear hb
    obtain ⟨⟨y0, y1⟩, x0, x1, x2, x3⟩ := i.cells
    obtain ⟨r0, r1, r2, r3⟩ := i.rcells
    have HD : Hid _ := i.fin (.int .i64 0) (.string ⟨#[]⟩) (.int .i64 1)
    clear i
    go_wp2
    obtain ⟨d1, d2⟩ := HD.out
    exact bodyPost_ret (results_cell_row Try.results15 _ _ (w.heap.size + 1 + 1) _ #[.int .i64 0, .string ⟨#[]⟩, .int .i64 1] _ _ rfl d1 Try.underlying37 rfl infoRO) rfl ⟨_, rfl, HV.out, d2⟩
set_option maxHeartbeats 4000000 in
theorem hearI_any (n : Int) (t : ByteArray) (f to k : Int) (tl : ByteArray) (w : World) (ht : t.size ≤ maxLen) (htl : tl.size ≤ maxLen) :
    Calls Try.prog 10 #[.agg #[.int .i64 n, .string t], .agg #[.int .i64 f, .int .i64 to, .int .i64 k, .string tl]] w fun e w' => ∃ v, e = .returned v ∧ HearV n t f to k tl v ∧ Below w.heap.size w w' := by
  have HI : Hid (In4 w n t f to k tl (((w.alloc (.cells #[.int .i64 n, .string t] 33)).alloc (.cells #[.int .i64 f, .int .i64 to, .int .i64 k, .string tl] 28)).alloc (.cells #[.int .i64 0, .string ⟨#[]⟩, .int .i64 0] 37))) := In4.new
  have h1 := fun u => stateI_any n t u ht
  by_cases s1 : StR n t
  · rw [decide_eq_true s1] at h1
    by_cases s2 : to ≤ n
    · have d2 : decide (to ≤ n) = true := decide_eq_true s2
      have HV : Hid (HearV n t f to k tl (outR 0 ⟨#[]⟩ 12)) := ⟨fun h => absurd s1 h, fun _ _ => rfl, fun _ h => absurd s2 h⟩
      clear s1 s2
      go_enter Try.func10, Try.ntmps10
      go_wp2_with (go_at_call 37; fail)
      refine calls_w (In4 w n t f to k tl) HI.out ?_
      clear HI
      intro u i
      refine (h1 u).mono ?_
      rintro r u1 ⟨rfl, hb⟩
      replace i := i.up hb
      clear hb
      obtain ⟨⟨y0, y1⟩, x0, x1, x2, x3⟩ := i.cells
      obtain ⟨r0, r1, r2, r3⟩ := i.rcells
      have HD : Hid _ := i.fin (.int .i64 0) (.string ⟨#[]⟩) (.int .i64 12)
      clear i
      go_wp2
      obtain ⟨d1, d2⟩ := HD.out
      exact bodyPost_ret (results_cell_row Try.results10 _ _ (w.heap.size + 1 + 1) _ #[.int .i64 0, .string ⟨#[]⟩, .int .i64 12] _ _ rfl d1 Try.underlying37 rfl infoRO) rfl ⟨_, rfl, HV.out, d2⟩
    · have d2 : decide (to ≤ n) = false := decide_eq_false s2
      have HS2 : Hid (¬ to ≤ n) := s2
      go_enter Try.func10, Try.ntmps10
      go_wp2_with (go_at_call 37; fail)
      refine calls_w (In4 w n t f to k tl) HI.out ?_
      clear HI
      intro u i
      refine (h1 u).mono ?_
      rintro r u1 ⟨rfl, hb⟩
      replace i := i.up hb
      clear hb
      obtain ⟨⟨y0, y1⟩, x0, x1, x2, x3⟩ := i.cells
      go_wp2_with (go_at_call 13; fail)
      refine calls_w (In4 w n t f to k tl) i ?_
      clear i y0 y1 x0 x1 x2 x3
      intro u i
      refine (onI_any n t f to k tl u ht htl).mono ?_
      rintro r u1 ⟨v, rfl, hv, hb⟩
      replace i := i.up hb
      clear hb
      obtain ⟨X, T, Y, hXY⟩ := hv.shape
      have HV : Hid (HearV n t f to k tl (.agg #[.int .i64 X, .string T, .int .i64 Y])) := ⟨fun h => absurd s1 h, fun _ h => absurd h (Int.not_le.mpr HS2.out), fun _ _ => by rw [← hXY]; exact hv⟩
      subst hXY
      clear hv s1 s2 HS2
      obtain ⟨r0, r1, r2, r3⟩ := i.rcells
      have HD : Hid _ := i.fin (.int .i64 X) (.string T) (.int .i64 Y)
      clear i
      go_wp2
      obtain ⟨d1, d2⟩ := HD.out
      exact bodyPost_ret (results_cell_row Try.results10 _ _ (w.heap.size + 1 + 1) _ #[.int .i64 X, .string T, .int .i64 Y] _ _ rfl d1 Try.underlying37 rfl infoRO) rfl ⟨_, rfl, HV.out, d2⟩
  · rw [decide_eq_false s1] at h1
    have HV : Hid (HearV n t f to k tl (outR 0 ⟨#[]⟩ 1)) := ⟨fun _ => rfl, fun h => absurd h s1, fun h => absurd h s1⟩
    clear s1
    go_enter Try.func10, Try.ntmps10
    go_wp2_with (go_at_call 37; fail)
    refine calls_w (In4 w n t f to k tl) HI.out ?_
    clear HI
    intro u i
    refine (h1 u).mono ?_
    rintro r u1 ⟨rfl, hb⟩
    replace i := i.up hb
    clear hb
    obtain ⟨⟨y0, y1⟩, x0, x1, x2, x3⟩ := i.cells
    obtain ⟨r0, r1, r2, r3⟩ := i.rcells
    have HD : Hid _ := i.fin (.int .i64 0) (.string ⟨#[]⟩) (.int .i64 1)
    clear i
    go_wp2
    obtain ⟨d1, d2⟩ := HD.out
    exact bodyPost_ret (results_cell_row Try.results10 _ _ (w.heap.size + 1 + 1) _ #[.int .i64 0, .string ⟨#[]⟩, .int .i64 1] _ _ rfl d1 Try.underlying37 rfl infoRO) rfl ⟨_, rfl, HV.out, d2⟩
theorem HearV.cases {n : Int} {t : ByteArray} {f to k : Int} {tl : ByteArray} : ∃ X T Y, ∀ v, HearV n t f to k tl v → v = outR X T Y := by
  by_cases s : StR n t
  · by_cases o : to ≤ n
    · exact ⟨_, _, _, fun v h => h.c2 s o⟩
    · by_cases a : StR n t ∧ UpR to k tl
      · by_cases b : f = n
        · by_cases c : (t.size : Int) < k ∨ 400 < k + (tl.size : Int)
          · exact ⟨_, _, _, fun v h => (h.c3 s o).c3 a.1 a.2 b c⟩
          · exact ⟨_, _, _, fun v h => (h.c3 s o).c4 a.1 a.2 b c⟩
        · exact ⟨_, _, _, fun v h => (h.c3 s o).c2 a.1 a.2 b⟩
      · exact ⟨_, _, _, fun v h => (h.c3 s o).c1 a⟩
  · exact ⟨_, _, _, fun v h => h.c1 s⟩
theorem hear_both (n : Int) (t : ByteArray) (f to k : Int) (tl : ByteArray) (ht : t.size ≤ maxLen) (htl : tl.size ≤ maxLen) : ∃ X T Y, (∀ u, Calls Try.prog 15 #[.agg #[.int .i64 n, .string t], .agg #[.int .i64 f, .int .i64 to, .int .i64 k, .string tl]] u fun e w' => e = .returned (.agg #[.int .i64 X, .string T, .int .i64 Y]) ∧ Below u.heap.size u w') ∧
    ∀ u, Calls Try.prog 10 #[.agg #[.int .i64 n, .string t], .agg #[.int .i64 f, .int .i64 to, .int .i64 k, .string tl]] u fun e w' => e = .returned (.agg #[.int .i64 X, .string T, .int .i64 Y]) ∧ Below u.heap.size u w' := by
  obtain ⟨X, T, Y, hv⟩ := HearV.cases (n := n) (t := t) (f := f) (to := to) (k := k) (tl := tl)
  exact ⟨X, T, Y, fun u => (hearM_any n t f to k tl u ht htl).mono fun e w' ⟨v, he, h, hb⟩ => ⟨by rw [he, hv v h], hb⟩, fun u => (hearI_any n t f to k tl u ht htl).mono fun e w' ⟨v, he, h, hb⟩ => ⟨by rw [he, hv v h], hb⟩⟩
end Go.Proofs.Ytmbeanimjmfddaa.st
