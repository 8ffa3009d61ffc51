/-
  What makes a state another one: the model's DeltaOf and the program's. No condition.
-/
import Derived.Test.YtmbeanimjmfddaaStD
import Derived.Test.YtmbeanimjmfddaaJoin
import Derived.Deep.RegionHeld3
import Derived.OrdersHeld
namespace Go.Proofs.Ytmbeanimjmfddaa.st
open Go.ChangeShapes Go.WideShapes Go.ChangeAt Go.RowKit
open Go.Proofs.Ytmbeanimjmfddaa.wi (heap_lt calls_w wp_w)
open Go.Proofs.Ytmbeanimjmfddaa.jo (joined1)
open Classical
set_option linter.unusedVariables false

/-- what DeltaOf tells -/
def DeltaV (m : Int) (a : ByteArray) (n : Int) (b : ByteArray) (v : Value) : Prop := (StR m a → StR n b → v = .agg #[.int .i64 m, .int .i64 n, .int .i64 (alike a b : Int), .string (b.extract (alike a b) b.size)]) ∧ (¬ (StR m a ∧ StR n b) → v = .agg #[.int .i64 0, .int .i64 0, .int .i64 0, .string ⟨#[]⟩])
theorem joined1_drew (s : ByteArray) (u : World) (h : s.size ≤ 1099511627776) :
    Calls Try.prog 39 #[.slice (some ⟨u.heap.size, 0, none⟩) 1 1] (u.alloc (.cells #[.string s] 9)).drew fun e w' => e = .returned (.string s) ∧ Below u.heap.size u w' :=
  (show Calls Try.prog 39 #[.slice (some ⟨u.drew.heap.size, 0, none⟩) 1 1] (u.drew.alloc (.cells #[.string s] 9)) fun e w' => e = .returned (.string s) ∧ Below u.heap.size u w' from
    (joined1 s u.drew h).mono fun e w' ⟨he, hb⟩ => ⟨he, (show Below u.heap.size u u.drew from (Below.refl _ _).drew).trans hb⟩)
theorem In2.fin {w u : World} {m : Int} {a : ByteArray} {n : Int} {b : ByteArray} (h : In2 w m a n b u) (x0 x1 x2 x3 : Value) :
    (fill u (w.heap.size + 1 + 1) x0 x1 x2 x3).heap[w.heap.size + 1 + 1]? = some (.cells #[x0, x1, x2, x3] 28 (0, 0)) ∧ Below w.heap.size w (fill u (w.heap.size + 1 + 1) x0 x1 x2 x3) := by
  have := h.done x0 x1 x2 x3
  exact ⟨this.1, ⟨this.2.os, this.2.tape, this.2.output, this.2.size, this.2.block⟩⟩
theorem In2.kept {w u : World} {m : Int} {a : ByteArray} {n : Int} {b : ByteArray} (h : In2 w m a n b u) (x0 x1 x2 x3 : Value) : (fill u (w.heap.size + 1 + 1) x0 x1 x2 x3).cell? ⟨w.heap.size, 0, none⟩ = some (.int .i64 m) ∧ (fill u (w.heap.size + 1 + 1) x0 x1 x2 x3).cell? ⟨w.heap.size, 1, none⟩ = some (.string a) ∧ (fill u (w.heap.size + 1 + 1) x0 x1 x2 x3).cell? ⟨w.heap.size + 1, 0, none⟩ = some (.int .i64 n) ∧ (fill u (w.heap.size + 1 + 1) x0 x1 x2 x3).cell? ⟨w.heap.size + 1, 1, none⟩ = some (.string b) := by
  have e1 : (fill u (w.heap.size + 1 + 1) x0 x1 x2 x3).heap[w.heap.size]? = some (.cells #[.int .i64 m, .string a] 24 (0, 0)) := by
    unfold fill
    rw [heap_setCell_other _ _ _ _ (by simp; omega), heap_setCell_other _ _ _ _ (by simp; omega), heap_setCell_other _ _ _ _ (by simp; omega), heap_setCell_other _ _ _ _ (by simp; omega)]; exact h.fst
  have e2 : (fill u (w.heap.size + 1 + 1) x0 x1 x2 x3).heap[w.heap.size + 1]? = some (.cells #[.int .i64 n, .string b] 24 (0, 0)) := by
    unfold fill
    rw [heap_setCell_other _ _ _ _ (by simp), heap_setCell_other _ _ _ _ (by simp), heap_setCell_other _ _ _ _ (by simp), heap_setCell_other _ _ _ _ (by simp)]; exact h.snd
  refine ⟨?_, ?_, ?_, ?_⟩ <;> simp [World.cell?, e1, e2]
def FinU (w u : World) : Prop := ∀ x0 x1 x2 x3, (fill u (w.heap.size + 1 + 1) x0 x1 x2 x3).heap[w.heap.size + 1 + 1]? = some (.cells #[x0, x1, x2, x3] 28 (0, 0)) ∧ Below w.heap.size w (fill u (w.heap.size + 1 + 1) x0 x1 x2 x3)
theorem In2.finU {w u : World} {m : Int} {a : ByteArray} {n : Int} {b : ByteArray} (h : In2 w m a n b u) : FinU w u := h.fin
set_option maxHeartbeats 4000000 in
theorem deltaOfM_any (m : Int) (a : ByteArray) (n : Int) (b : ByteArray) (w : World) (ha : a.size ≤ maxLen) (hb : b.size ≤ maxLen) :
    Calls Try.prog 11 #[.agg #[.int .i64 m, .string a], .agg #[.int .i64 n, .string b]] w fun e w' => ∃ v, e = .returned v ∧ DeltaV m a n b v ∧ Below w.heap.size w w' := by
  have HI : Hid (In2 w m a n b (((w.alloc (.cells #[.int .i64 m, .string a] 24)).alloc (.cells #[.int .i64 n, .string b] 24)).alloc (.cells #[.int .i64 0, .int .i64 0, .int .i64 0, .string ⟨#[]⟩] 28))) := In2.new
  have h1 := fun u => stateM_any m a u ha
  have h2 := fun u => stateM_any n b u hb
  by_cases s1 : StR m a
  · rw [decide_eq_true s1] at h1
    by_cases s2 : StR n b
    · rw [decide_eq_true s2] at h2
      have HV : Hid (DeltaV m a n b (.agg #[.int .i64 m, .int .i64 n, .int .i64 (alike a b : Int), .string (b.extract (alike a b) b.size)])) := ⟨fun _ _ => rfl, fun h => absurd ⟨s1, s2⟩ h⟩
      clear s1 s2
      go_enter Try.func11, Try.ntmps11
      go_wp2_with (go_at_call 41; fail)
      refine calls_w (In2 w m a n b) HI.out ?_
      intro u i
      refine (h1 u).mono ?_
      rintro r u1 ⟨rfl, hb⟩
      replace i := i.up hb
      clear hb
      obtain ⟨x0, x1, x2, x3⟩ := i.cells
      clear h1 HI
      go_wp2_with (go_at_call 41; fail)
      refine calls_w (In2 w m a n b) i ?_
      intro u i
      refine (h2 u).mono ?_
      rintro r u1 ⟨rfl, hb⟩
      replace i := i.up hb
      clear hb
      obtain ⟨x0, x1, x2, x3⟩ := i.cells
      clear h2
      go_wp2_with (go_at_call 42; fail)
      refine calls_w (In2 w m a n b) i ?_
      clear i x0 x1 x2 x3
      intro u2 i2
      refine (deltaM_any m a n b u2 ha hb).mono ?_
      rintro r u3 ⟨rfl, hb3⟩
      replace i2 := i2.up hb3
      clear hb3
      obtain ⟨r0, r1, r2, r3, r4⟩ := i2.rcells
      generalize (alike a b : Int) = z at *
      generalize b.extract (alike a b) b.size = t at *
      have HD : Hid _ := i2.fin (.int .i64 m) (.int .i64 n) (.int .i64 z) (.string t)
      clear i2
      go_wp2
      obtain ⟨d1, d2⟩ := HD.out
      exact bodyPost_ret (results_cell_row Try.results11 _ _ (w.heap.size + 1 + 1) _ #[.int .i64 m, .int .i64 n, .int .i64 z, .string t] _ _ rfl d1 Try.underlying28 rfl infoU) rfl ⟨_, rfl, HV.out, d2⟩
    · rw [decide_eq_false s2] at h2
      have HV : Hid (DeltaV m a n b (.agg #[.int .i64 0, .int .i64 0, .int .i64 0, .string ⟨#[]⟩])) := ⟨fun _ h => absurd h s2, fun _ => rfl⟩
      clear s1 s2
      go_enter Try.func11, Try.ntmps11
      go_wp2_with (go_at_call 41; fail)
      refine calls_w (In2 w m a n b) HI.out ?_
      intro u i
      refine (h1 u).mono ?_
      rintro r u1 ⟨rfl, hb⟩
      replace i := i.up hb
      clear hb
      obtain ⟨x0, x1, x2, x3⟩ := i.cells
      clear h1 HI
      go_wp2_with (go_at_call 41; fail)
      refine calls_w (In2 w m a n b) i ?_
      intro u i
      refine (h2 u).mono ?_
      rintro r u1 ⟨rfl, hb⟩
      replace i := i.up hb
      clear hb
      obtain ⟨x0, x1, x2, x3⟩ := i.cells
      clear h2
      obtain ⟨r0, r1, r2, r3, r4⟩ := i.rcells
      have HD := i.fin (.int .i64 0) (.int .i64 0) (.int .i64 0) (.string ⟨#[]⟩)
      have HD' : Hid _ := HD
      clear HD i
      go_wp2
      obtain ⟨d1, d2⟩ := HD'.out
      exact bodyPost_ret (results_cell_row Try.results11 _ _ (w.heap.size + 1 + 1) _ #[.int .i64 0, .int .i64 0, .int .i64 0, .string ⟨#[]⟩] _ _ rfl d1 Try.underlying28 rfl infoU) rfl ⟨_, rfl, HV.out, d2⟩
  · rw [decide_eq_false s1] at h1
    have HV : Hid (DeltaV m a n b (.agg #[.int .i64 0, .int .i64 0, .int .i64 0, .string ⟨#[]⟩])) := ⟨fun h => absurd h s1, fun _ => rfl⟩
    clear s1 h2
    go_enter Try.func11, Try.ntmps11
    go_wp2_with (go_at_call 41; fail)
    refine calls_w (In2 w m a n b) HI.out ?_
    intro u i
    refine (h1 u).mono ?_
    rintro r u1 ⟨rfl, hb⟩
    replace i := i.up hb
    clear hb
    obtain ⟨x0, x1, x2, x3⟩ := i.cells
    clear h1 HI
    obtain ⟨r0, r1, r2, r3, r4⟩ := i.rcells
    have HD := i.fin (.int .i64 0) (.int .i64 0) (.int .i64 0) (.string ⟨#[]⟩)
    have HD' : Hid _ := HD
    clear HD i
    go_wp2
    obtain ⟨d1, d2⟩ := HD'.out
    exact bodyPost_ret (results_cell_row Try.results11 _ _ (w.heap.size + 1 + 1) _ #[.int .i64 0, .int .i64 0, .int .i64 0, .string ⟨#[]⟩] _ _ rfl d1 Try.underlying28 rfl infoU) rfl ⟨_, rfl, HV.out, d2⟩
set_option maxHeartbeats 4000000 in
theorem deltaOfI_any (m : Int) (a : ByteArray) (n : Int) (b : ByteArray) (w : World) (ha : a.size ≤ maxLen) (hb : b.size ≤ maxLen) :
    Calls Try.prog 7 #[.agg #[.int .i64 m, .string a], .agg #[.int .i64 n, .string b]] w fun e w' => ∃ v, e = .returned v ∧ DeltaV m a n b v ∧ Below w.heap.size w w' := by
  have HI : Hid (In2 w m a n b (((w.alloc (.cells #[.int .i64 m, .string a] 24)).alloc (.cells #[.int .i64 n, .string b] 24)).alloc (.cells #[.int .i64 0, .int .i64 0, .int .i64 0, .string ⟨#[]⟩] 28))) := In2.new
  have h1 := fun u => stateI_any m a u ha
  have h2 := fun u => stateI_any n b u hb
  by_cases s1 : StR m a
  · rw [decide_eq_true s1] at h1
    by_cases s2 : StR n b
    · rw [decide_eq_true s2] at h2
      have hb4 : b.size ≤ 400 := s2.2
      have HV : Hid (DeltaV m a n b (.agg #[.int .i64 m, .int .i64 n, .int .i64 (alike a b : Int), .string (b.extract (alike a b) b.size)])) := ⟨fun _ _ => rfl, fun h => absurd ⟨s1, s2⟩ h⟩
      clear s1 s2
      go_enter Try.func7, Try.ntmps7
      go_wp2_with (go_at_call 37; fail)
      refine calls_w (In2 w m a n b) HI.out ?_
      intro u i
      refine (h1 u).mono ?_
      rintro r u1 ⟨rfl, hb⟩
      replace i := i.up hb
      clear hb
      obtain ⟨x0, x1, x2, x3⟩ := i.cells
      clear h1 HI
      go_wp2_with (go_at_call 37; fail)
      refine calls_w (In2 w m a n b) i ?_
      intro u i
      refine (h2 u).mono ?_
      rintro r u1 ⟨rfl, hb⟩
      replace i := i.up hb
      clear hb
      obtain ⟨x0, x1, x2, x3⟩ := i.cells
      clear h2
      go_wp2_with (go_at_call 38; fail)
      refine calls_w (In2 w m a n b) i ?_
      clear i x0 x1 x2 x3
      intro u2 i2
      refine (alikeI_any a b u2 ha hb).mono ?_
      rintro r u3 ⟨rfl, hb3⟩
      replace i2 := i2.up hb3
      clear hb3
      obtain ⟨z, hz⟩ : ∃ z, z = alike a b := ⟨_, rfl⟩
      have hzl := (alike_le a b).2
      rw [← hz] at hzl HV ⊢
      clear hz
      obtain ⟨x0, x1, x2, x3⟩ := i2.cells
      obtain ⟨r0, r1, r2, r3, r4⟩ := i2.rcells
      have HJ : Hid (∀ u : World, Calls Try.prog 39 #[.slice (some ⟨u.heap.size, 0, none⟩) 1 1] (u.alloc (.cells #[.string (b.extract z b.size)] 9)).drew fun e w' => e = .returned (.string (b.extract z b.size)) ∧ Below u.heap.size u w') := fun u => joined1_drew _ u (by rw [ByteArray.size_extract]; omega)
      go_wp2_with fail
      have i20 := i2
      replace i2 := i2.drew
      clear x0 x1 x2 x3 r0 r1 r2 r3 r4
      have HS : Hid (∀ u, In2 w m a n b u → (u.cell? ⟨w.heap.size, 0, none⟩ = some (.int .i64 m) ∧ u.cell? ⟨w.heap.size, 1, none⟩ = some (.string a) ∧ u.cell? ⟨w.heap.size + 1, 0, none⟩ = some (.int .i64 n) ∧ u.cell? ⟨w.heap.size + 1, 1, none⟩ = some (.string b))) := fun u hu => hu.cells
      refine wp_region_noPanic ?_
      refine wp_region_held_drew (S := fun u => u.cell? ⟨w.heap.size, 0, none⟩ = some (.int .i64 m) ∧ u.cell? ⟨w.heap.size, 1, none⟩ = some (.string a) ∧ u.cell? ⟨w.heap.size + 1, 0, none⟩ = some (.int .i64 n) ∧ u.cell? ⟨w.heap.size + 1, 1, none⟩ = some (.string b)) (by kernel_rfl) (HS.out _ i2) (fun hHeld => ?_)
      refine wpAnyH_take (i := 0) (oi := { dst := some 20, op := Op.fieldAddr 24 (Operand.tmp 2) 0, type := 0, pos := "l07_sync.go:102", after := #[], guard := none }) (v := ?_) rfl (by kernel_rfl) (by kernel_rfl) (by kernel_rfl) (fun _ _ _ h => h) (Or.inl ⟨by rfl, ?_⟩) hHeld ?_
      rotate_left
      · rintro w ⟨z0, z1, z2, z3⟩; go_simp; (try with_reducible rfl)
      try simp only [Act.put, List.setIfInBounds_toArray, List.set_cons_zero, List.set_cons_succ]
      refine wpAnyH_take (i := 1) (oi := { dst := some 21, op := Op.load 2 (Operand.tmp 20), type := 2, pos := "l07_sync.go:102", after := #[{ on := 0, ground := Ground.data }], guard := none }) (v := ?_) rfl (by kernel_rfl) (by kernel_rfl) (by kernel_rfl) (fun _ _ _ h => h) (Or.inl ⟨by rfl, ?_⟩) hHeld ?_
      rotate_left
      · rintro w ⟨z0, z1, z2, z3⟩; go_simp; (try with_reducible rfl)
      try simp only [Act.put, List.setIfInBounds_toArray, List.set_cons_zero, List.set_cons_succ]
      refine wpAnyH_take (i := 2) (oi := { dst := some 22, op := Op.fieldAddr 24 (Operand.tmp 3) 0, type := 0, pos := "l07_sync.go:102", after := #[], guard := none }) (v := ?_) rfl (by kernel_rfl) (by kernel_rfl) (by kernel_rfl) (fun _ _ _ h => h) (Or.inl ⟨by rfl, ?_⟩) hHeld ?_
      rotate_left
      · rintro w ⟨z0, z1, z2, z3⟩; go_simp; (try with_reducible rfl)
      try simp only [Act.put, List.setIfInBounds_toArray, List.set_cons_zero, List.set_cons_succ]
      refine wpAnyH_take (i := 3) (oi := { dst := some 23, op := Op.load 2 (Operand.tmp 22), type := 2, pos := "l07_sync.go:102", after := #[{ on := 2, ground := Ground.data }], guard := none }) (v := ?_) rfl (by kernel_rfl) (by kernel_rfl) (by kernel_rfl) (fun _ _ _ h => h) (Or.inl ⟨by rfl, ?_⟩) hHeld ?_
      rotate_left
      · rintro w ⟨z0, z1, z2, z3⟩; go_simp; (try with_reducible rfl)
      try simp only [Act.put, List.setIfInBounds_toArray, List.set_cons_zero, List.set_cons_succ]
      refine wpAnyH_take (i := 4) (oi := { dst := some 24, op := Op.move (Operand.tmp 5), type := 2, pos := "l07_sync.go:102", after := #[], guard := none }) (v := ?_) rfl (by kernel_rfl) (by kernel_rfl) (by kernel_rfl) (fun _ _ _ h => h) (Or.inl ⟨by rfl, ?_⟩) hHeld ?_
      rotate_left
      · rintro w ⟨z0, z1, z2, z3⟩; go_simp; (try with_reducible rfl)
      try simp only [Act.put, List.setIfInBounds_toArray, List.set_cons_zero, List.set_cons_succ]
      refine wpAnyH_take (i := 5) (oi := { dst := some 25, op := Op.fieldAddr 24 (Operand.tmp 3) 1, type := 0, pos := "l07_sync.go:102", after := #[], guard := none }) (v := ?_) rfl (by kernel_rfl) (by kernel_rfl) (by kernel_rfl) (fun _ _ _ h => h) (Or.inl ⟨by rfl, ?_⟩) hHeld ?_
      rotate_left
      · rintro w ⟨z0, z1, z2, z3⟩; go_simp; (try with_reducible rfl)
      try simp only [Act.put, List.setIfInBounds_toArray, List.set_cons_zero, List.set_cons_succ]
      refine wpAnyH_take (i := 6) (oi := { dst := some 26, op := Op.load 9 (Operand.tmp 25), type := 9, pos := "l07_sync.go:102", after := #[{ on := 5, ground := Ground.data }], guard := none }) (v := ?_) rfl (by kernel_rfl) (by kernel_rfl) (by kernel_rfl) (fun _ _ _ h => h) (Or.inl ⟨by rfl, ?_⟩) hHeld ?_
      rotate_left
      · rintro w ⟨z0, z1, z2, z3⟩; go_simp; (try with_reducible rfl)
      try simp only [Act.put, List.setIfInBounds_toArray, List.set_cons_zero, List.set_cons_succ]
      refine wpAnyH_take (i := 7) (oi := { dst := some 27, op := Op.move (Operand.tmp 5), type := 2, pos := "l07_sync.go:102", after := #[], guard := none }) (v := ?_) rfl (by kernel_rfl) (by kernel_rfl) (by kernel_rfl) (fun _ _ _ h => h) (Or.inl ⟨by rfl, ?_⟩) hHeld ?_
      rotate_left
      · rintro w ⟨z0, z1, z2, z3⟩; go_simp; (try with_reducible rfl)
      try simp only [Act.put, List.setIfInBounds_toArray, List.set_cons_zero, List.set_cons_succ]
      refine wpAnyH_take (i := 8) (oi := { dst := some 28, op := Op.slice 9 (Operand.tmp 26) (some (Operand.tmp 27)) none none, type := 9, pos := "l07_sync.go:102", after := #[{ on := 6, ground := Ground.data }, { on := 7, ground := Ground.data }], guard := none }) (v := ?_) rfl (by kernel_rfl) (by kernel_rfl) (by kernel_rfl) (fun _ _ _ h => h) (Or.inl ⟨by rfl, ?_⟩) hHeld ?_
      rotate_left
      · rintro w ⟨z0, z1, z2, z3⟩; go_simp; (try with_reducible rfl)
      try simp only [Act.put, List.setIfInBounds_toArray, List.set_cons_zero, List.set_cons_succ]
      refine wpAnyH_ready (rs := [9]) (by kernel_rfl) (by simp) ?_
      refine AllReadyH.cons rfl (fun K hK => ?_) AllReadyH.nil
      go_simp
      refine hK.out _ _ (HS.out _ (i2.up ((Below.refl _ _).alloc (Nat.le_refl _) _))) (fun hHeld => ?_)
      clear hK K
      try simp only [Act.put, List.setIfInBounds_toArray, List.set_cons_zero, List.set_cons_succ]
      refine wpAnyH_ready (rs := [10]) (by kernel_rfl) (by simp) ?_
      refine AllReadyH.cons rfl (fun K hK => ?_) AllReadyH.nil
      go_simp
      go_at_call 39
      refine (HJ.out _).mono ?_
      rintro r7 w7 ⟨rfl, hb7⟩
      have i3 := i20.up hb7
      go_wp2_with fail
      refine hK.out _ _ (HS.out _ i3) (fun hHeld => ?_)
      clear hb7
      clear hK K
      try simp only [Act.put, List.setIfInBounds_toArray, List.set_cons_zero, List.set_cons_succ]
      refine wpAnyH_take (i := 11) (oi := { dst := some 31, op := Op.build 28 #[(0, Operand.tmp 21), (1, Operand.tmp 23), (2, Operand.tmp 24), (3, Operand.tmp 30)], type := 28, pos := "l07_sync.go:102", after := #[{ on := 1, ground := Ground.data }, { on := 3, ground := Ground.data }, { on := 4, ground := Ground.data }, { on := 10, ground := Ground.data }], guard := none }) (v := ?_) rfl (by kernel_rfl) (by kernel_rfl) (by kernel_rfl) (fun _ _ _ h => h) (Or.inl ⟨by rfl, ?_⟩) hHeld ?_
      rotate_left
      · rintro w ⟨z0, z1, z2, z3⟩; go_simp; (try with_reducible rfl)
      try simp only [Act.put, List.setIfInBounds_toArray, List.set_cons_zero, List.set_cons_succ]
      refine wpAnyH_ready (rs := [12]) (by kernel_rfl) (by simp) ?_
      refine AllReadyH.cons rfl (fun K hK => ?_) AllReadyH.nil
      obtain ⟨r0, r1, r2, r3, r4⟩ := i3.rcells
      go_simp
      refine hK.out _ _ (i3.kept _ _ _ _) (fun hHeld => ?_)
      clear hK K
      try simp only [Act.put, List.setIfInBounds_toArray, List.set_cons_zero, List.set_cons_succ]
      refine wpAnyH_done (by kernel_rfl) ?_ _
      refine NoPanic.normal ?_
      have HD : Hid (FinU w w7) := i3.finU
      clear i2 i20 i3 hHeld HJ
      obtain ⟨d1, d2⟩ := HD.out (.int .i64 m) (.int .i64 n) (.int .i64 (z : Int)) (.string (b.extract z b.size))
      go_wp2
      exact bodyPost_ret (results_cell_row Try.results7 _ _ (w.heap.size + 1 + 1) _ #[.int .i64 m, .int .i64 n, .int .i64 (z : Int), .string (b.extract z b.size)] _ _ rfl d1 Try.underlying28 rfl infoU) rfl ⟨_, rfl, HV.out, d2⟩
    · rw [decide_eq_false s2] at h2
      have HV : Hid (DeltaV m a n b (.agg #[.int .i64 0, .int .i64 0, .int .i64 0, .string ⟨#[]⟩])) := ⟨fun _ h => absurd h s2, fun _ => rfl⟩
      clear s1 s2
      go_enter Try.func7, Try.ntmps7
      go_wp2_with (go_at_call 37; fail)
      refine calls_w (In2 w m a n b) HI.out ?_
      intro u i
      refine (h1 u).mono ?_
      rintro r u1 ⟨rfl, hb⟩
      replace i := i.up hb
      clear hb
      obtain ⟨x0, x1, x2, x3⟩ := i.cells
      clear h1 HI
      go_wp2_with (go_at_call 37; fail)
      refine calls_w (In2 w m a n b) i ?_
      intro u i
      refine (h2 u).mono ?_
      rintro r u1 ⟨rfl, hb⟩
      replace i := i.up hb
      clear hb
      obtain ⟨x0, x1, x2, x3⟩ := i.cells
      clear h2
      obtain ⟨r0, r1, r2, r3, r4⟩ := i.rcells
      have HD := i.fin (.int .i64 0) (.int .i64 0) (.int .i64 0) (.string ⟨#[]⟩)
      have HD' : Hid _ := HD
      clear HD i
      go_wp2
      obtain ⟨d1, d2⟩ := HD'.out
      exact bodyPost_ret (results_cell_row Try.results7 _ _ (w.heap.size + 1 + 1) _ #[.int .i64 0, .int .i64 0, .int .i64 0, .string ⟨#[]⟩] _ _ rfl d1 Try.underlying28 rfl infoU) rfl ⟨_, rfl, HV.out, d2⟩
  · rw [decide_eq_false s1] at h1
    have HV : Hid (DeltaV m a n b (.agg #[.int .i64 0, .int .i64 0, .int .i64 0, .string ⟨#[]⟩])) := ⟨fun h => absurd h s1, fun _ => rfl⟩
    clear s1 h2
    go_enter Try.func7, Try.ntmps7
    go_wp2_with (go_at_call 37; fail)
    refine calls_w (In2 w m a n b) HI.out ?_
    intro u i
    refine (h1 u).mono ?_
    rintro r u1 ⟨rfl, hb⟩
    replace i := i.up hb
    clear hb
    obtain ⟨x0, x1, x2, x3⟩ := i.cells
    clear h1 HI
    obtain ⟨r0, r1, r2, r3, r4⟩ := i.rcells
    have HD := i.fin (.int .i64 0) (.int .i64 0) (.int .i64 0) (.string ⟨#[]⟩)
    have HD' : Hid _ := HD
    clear HD i
    go_wp2
    obtain ⟨d1, d2⟩ := HD'.out
    exact bodyPost_ret (results_cell_row Try.results7 _ _ (w.heap.size + 1 + 1) _ #[.int .i64 0, .int .i64 0, .int .i64 0, .string ⟨#[]⟩] _ _ rfl d1 Try.underlying28 rfl infoU) rfl ⟨_, rfl, HV.out, d2⟩
end Go.Proofs.Ytmbeanimjmfddaa.st
