/-
  An update put on a state: the program's DeltaOn. No condition.
-/
import Derived.Test.YtmbeanimjmfddaaStN
import Derived.Test.YtmbeanimjmfddaaRegW
namespace Go.Proofs.Ytmbeanimjmfddaa.st
open Go.ChangeShapes Go.WideShapes Go.ChangeAt Go.RowKit
open Go.Proofs.Ytmbeanimjmfddaa.wi (heap_lt calls_w wp_w)
open Go.Proofs.Ytmbeanimjmfddaa.jo (joined2)
open Classical
set_option linter.unusedVariables false

theorem In3.set {w u : World} {n : Int} {t : ByteArray} {f to k : Int} {tl : ByteArray} (h : In3 w n t f to k tl u) {q : Nat} (hq : w.heap.size + 1 + 1 < q) (j : Nat) (x : Value) : In3 w n t f to k tl (u.setCell ⟨q, j, none⟩ x) :=
  ⟨h.bel.setCell (p := ⟨q, j, none⟩) (by show _ ≤ q; omega) x, by rw [heap_setCell_other _ _ _ _ (by simp; omega)]; exact h.fst, by rw [heap_setCell_other _ _ _ _ (by simp; omega)]; exact h.snd, by rw [heap_setCell_other _ _ _ _ (by simp; omega)]; exact h.res⟩
theorem upI_any (f to k : Int) (tl : ByteArray) (w : World) (htl : tl.size ≤ maxLen) : Calls Try.prog 43 #[.agg #[.int .i64 f, .int .i64 to, .int .i64 k, .string tl]] w fun e w' => e = .returned (.bool (decide (UpR to k tl))) ∧ Below w.heap.size w w' := by
  have HB : Hid (∀ o, Below w.heap.size w (w.alloc o)) := fun o => (Below.refl _ _).alloc (Nat.le_refl _) o
  unfold maxLen at htl
  have hw := within_any to 0 1000000
  by_cases h1 : 0 ≤ to ∧ to ≤ 1000000
  · rw [decide_eq_true h1] at hw
    by_cases h2 : 0 ≤ k
    · have HF : Hid (decide ((tl.size : Int) ≤ 400) = decide (UpR to k tl)) := by
        show _ = _
        rw [decide_eq_decide]; exact ⟨fun h => ⟨h1, h2, by omega⟩, fun h => by have := h.2.2; omega⟩
      have d2 : decide (0 ≤ k) = true := decide_eq_true h2
      clear h1
      go_enter Try.func43, Try.ntmps43
      go_wp2_with (go_at_call 59; (with_reducible refine (hw _).mono ?_); rintro r w' ⟨rfl, hw'⟩; obtain rfl := hw'.symm)
      go_ret
      exact ⟨ret_b HF.out, HB.out _⟩
    · have HF : Hid (false = decide (UpR to k tl)) := (decide_eq_false (fun h : UpR to k tl => h2 h.2.1)).symm
      have d2 : decide (0 ≤ k) = false := decide_eq_false h2
      clear h1
      go_enter Try.func43, Try.ntmps43
      go_wp2_with (go_at_call 59; (with_reducible refine (hw _).mono ?_); rintro r w' ⟨rfl, hw'⟩; obtain rfl := hw'.symm)
      go_ret
      exact ⟨ret_b HF.out, HB.out _⟩
  · rw [decide_eq_false h1] at hw
    have HF : Hid (false = decide (UpR to k tl)) := (decide_eq_false (fun h : UpR to k tl => h1 h.1)).symm
    clear h1
    go_enter Try.func43, Try.ntmps43
    go_wp2_with (go_at_call 59; (with_reducible refine (hw _).mono ?_); rintro r w' ⟨rfl, hw'⟩; obtain rfl := hw'.symm)
    go_ret
    exact ⟨ret_b HF.out, HB.out _⟩
theorem joined2_at (s t : ByteArray) (g : Nat) (u : World) (h : rw.At u g #[.string s, .string t] 9) (hs : s.size + t.size ≤ 1099511627776) :
    Calls Try.prog 39 #[.slice (some ⟨g, 0, none⟩) 2 2] u fun e w' => e = .returned (.string (s ++ t)) ∧ Below u.heap.size u w' := by
  refine (jo.joined_any [s, t] g 2 u h.lt (by simp) (by rw [show [s, t] = [s] ++ [t] from rfl, jo.total_append, jo.total_one, jo.total_one]; omega) (fun i hi => ?_)).mono ?_
  · match i, hi with
    | 0, _ => exact h.cell 0
    | 1, _ => exact h.cell 1
  · rintro e w' ⟨rfl, hb⟩
    rw [jo.joinB_two]
    exact ⟨rfl, hb⟩
set_option maxHeartbeats 4000000 in
theorem onI_any (n : Int) (t : ByteArray) (f to k : Int) (tl : ByteArray) (w : World) (ht : t.size ≤ maxLen) (htl : tl.size ≤ maxLen) :
    Calls Try.prog 13 #[.agg #[.int .i64 n, .string t], .agg #[.int .i64 f, .int .i64 to, .int .i64 k, .string tl]] w fun e w' => ∃ v, e = .returned v ∧ OnV n t f to k tl v ∧ Below w.heap.size w w' := by
  have HI : Hid (In3 w n t f to k tl (((w.alloc (.cells #[.int .i64 n, .string t] 24)).alloc (.cells #[.int .i64 f, .int .i64 to, .int .i64 k, .string tl] 28)).alloc (.cells #[.int .i64 0, .string ⟨#[]⟩, .int .i64 0] 37))) := In3.new
  have ht9 := ht
  have htl9 := htl
  unfold maxLen at ht9 htl9
  have h1 := fun u => stateI_any n t u ht
  have h2 := fun u => upI_any f to k tl u htl
  by_cases s1 : StR n t
  · rw [decide_eq_true s1] at h1
    by_cases s2 : UpR to k tl
    · rw [decide_eq_true s2] at h2
      by_cases s4 : f = n
      · have s4' := s4.symm
        subst s4'
        clear s4
        have k3 : (n != n) = false := by simp
        by_cases s5 : (t.size : Int) < k ∨ 400 < k + (tl.size : Int)
        · have HV : Hid (OnV n t n to k tl (outR 0 ⟨#[]⟩ 8)) := ⟨fun h => absurd ⟨s1, s2⟩ h, fun _ _ h => absurd rfl h, fun _ _ _ _ => rfl, fun _ _ _ h => absurd s5 h⟩
          by_cases s6 : (t.size : Int) < k
          · have k4 : decide ((t.size : Int) < k) = true := decide_eq_true s6
            clear s1 s5 s2
            go_enter Try.func13, Try.ntmps13
            go_wp2_with (go_at_call 37; fail)
            refine calls_w (In3 w n t n to k tl) HI.out ?_
            clear HI
            intro u i
            refine (h1 u).mono ?_
            rintro r u1 ⟨rfl, hb⟩
            replace i := i.up hb
            clear hb
            obtain ⟨⟨y0, y1⟩, x0, x1, x2, x3⟩ := i.cells
            go_wp2_with (go_at_call 43; fail)
            refine calls_w (In3 w n t n to k tl) i ?_
            clear i y0 y1 x0 x1 x2 x3
            intro u i
            refine (h2 u).mono ?_
            rintro r u1 ⟨rfl, hb⟩
            replace i := i.up hb
            clear hb
            obtain ⟨⟨y0, y1⟩, x0, x1, x2, x3⟩ := i.cells
            obtain ⟨r0, r1, r2, r3⟩ := i.rcells
            have HD : Hid _ := i.fin (.int .i64 0) (.string ⟨#[]⟩) (.int .i64 8)
            clear i
            go_wp2
            obtain ⟨d1, d2⟩ := HD.out
            exact bodyPost_ret (results_cell_row Try.results13 _ _ (w.heap.size + 1 + 1) _ #[.int .i64 0, .string ⟨#[]⟩, .int .i64 8] _ _ rfl d1 Try.underlying37 rfl infoRO) rfl ⟨_, rfl, HV.out, d2⟩
          · have k4 : decide ((t.size : Int) < k) = false := decide_eq_false s6
            have k6 : t.size ≤ 400 := s1.2
            have k8 := s2.2.1
            have k9 := s2.2.2
            have k5 : decide (400 < k + (tl.size : Int)) = true := decide_eq_true (by omega)
            have k7 : IntKind.i64.wrap (k + (tl.size : Int)) = k + (tl.size : Int) := by rw [IntKind.wrap_i64]; omega
            clear s1 s5 s2
            go_enter Try.func13, Try.ntmps13
            go_wp2_with (go_at_call 37; fail)
            refine calls_w (In3 w n t n to k tl) HI.out ?_
            clear HI
            intro u i
            refine (h1 u).mono ?_
            rintro r u1 ⟨rfl, hb⟩
            replace i := i.up hb
            clear hb
            obtain ⟨⟨y0, y1⟩, x0, x1, x2, x3⟩ := i.cells
            go_wp2_with (go_at_call 43; fail)
            refine calls_w (In3 w n t n to k tl) i ?_
            clear i y0 y1 x0 x1 x2 x3
            intro u i
            refine (h2 u).mono ?_
            rintro r u1 ⟨rfl, hb⟩
            replace i := i.up hb
            clear hb
            obtain ⟨⟨y0, y1⟩, x0, x1, x2, x3⟩ := i.cells
            obtain ⟨r0, r1, r2, r3⟩ := i.rcells
            have HD : Hid _ := i.fin (.int .i64 0) (.string ⟨#[]⟩) (.int .i64 8)
            clear i
            go_wp2
            obtain ⟨d1, d2⟩ := HD.out
            exact bodyPost_ret (results_cell_row Try.results13 _ _ (w.heap.size + 1 + 1) _ #[.int .i64 0, .string ⟨#[]⟩, .int .i64 8] _ _ rfl d1 Try.underlying37 rfl infoRO) rfl ⟨_, rfl, HV.out, d2⟩
        · obtain ⟨kk, hkk⟩ := Int.eq_ofNat_of_zero_le s2.2.1
          have hkk' : k = (kk : Int) := hkk
          clear hkk
          subst hkk'
          have HV : Hid (OnV n t n to (kk : Int) tl (outR to (t.extract 0 kk ++ tl) 0)) := ⟨fun h => absurd ⟨s1, s2⟩ h, fun _ _ h => absurd rfl h, fun _ _ _ h => absurd h s5, fun _ _ _ _ => rfl⟩
          have k4 : decide ((t.size : Int) < (kk : Int)) = false := decide_eq_false (by omega)
          have k6 : t.size ≤ 400 := s1.2
          have k10 : tl.size ≤ 400 := s2.2.2
          have k5 : decide (400 < (kk : Int) + (tl.size : Int)) = false := decide_eq_false (by omega)
          have k7 : IntKind.i64.wrap ((kk : Int) + (tl.size : Int)) = (kk : Int) + (tl.size : Int) := by rw [IntKind.wrap_i64]; omega
          have k8 : kk ≤ t.size := by omega
          have k9 : ¬ (t.size : Int) < (kk : Int) := by omega
          clear s1 s5 s2
          go_enter Try.func13, Try.ntmps13
          go_wp2_with (go_at_call 37; fail)
          refine calls_w (In3 w n t n to (kk : Int) tl) HI.out ?_
          clear HI
          intro u i
          refine (h1 u).mono ?_
          rintro r u1 ⟨rfl, hb⟩
          replace i := i.up hb
          clear hb
          obtain ⟨⟨y0, y1⟩, x0, x1, x2, x3⟩ := i.cells
          go_wp2_with (go_at_call 43; fail)
          refine calls_w (In3 w n t n to (kk : Int) tl) i ?_
          clear i y0 y1 x0 x1 x2 x3
          intro u i
          refine (h2 u).mono ?_
          rintro r u1 ⟨rfl, hb⟩
          replace i := i.up hb
          clear hb
          obtain ⟨⟨y0, y1⟩, x0, x1, x2, x3⟩ := i.cells
          go_wp2_with fail
          clear y0 y1 x0 x1 x2 x3
          have HS : Hid (∀ u, In3 w n t n to (kk : Int) tl u → ((u.cell? ⟨w.heap.size, 0, none⟩ = some (.int .i64 n) ∧ u.cell? ⟨w.heap.size, 1, none⟩ = some (.string t)) ∧ u.cell? ⟨w.heap.size + 1, 0, none⟩ = some (.int .i64 n) ∧ u.cell? ⟨w.heap.size + 1, 1, none⟩ = some (.int .i64 to) ∧ u.cell? ⟨w.heap.size + 1, 2, none⟩ = some (.int .i64 (kk : Int)) ∧ u.cell? ⟨w.heap.size + 1, 3, none⟩ = some (.string tl))) := fun u hu => hu.cells
          have HJ : Hid (∀ (u : World) (g : Nat), rw.At u g #[.string (t.extract 0 kk), .string tl] 9 → Calls Try.prog 39 #[.slice (some ⟨g, 0, none⟩) 2 2] u fun e w' => e = .returned (.string (t.extract 0 kk ++ tl)) ∧ Below u.heap.size u w') := fun u g h => joined2_at _ _ g u h (by rw [ByteArray.size_extract]; omega)
          refine wp_region_noPanic ?_
          refine wp_region_held_drew (S := fun u => (u.cell? ⟨w.heap.size, 0, none⟩ = some (.int .i64 n) ∧ u.cell? ⟨w.heap.size, 1, none⟩ = some (.string t)) ∧ u.cell? ⟨w.heap.size + 1, 0, none⟩ = some (.int .i64 n) ∧ u.cell? ⟨w.heap.size + 1, 1, none⟩ = some (.int .i64 to) ∧ u.cell? ⟨w.heap.size + 1, 2, none⟩ = some (.int .i64 (kk : Int)) ∧ u.cell? ⟨w.heap.size + 1, 3, none⟩ = some (.string tl)) (by kernel_rfl) (HS.out _ (i.drew)) (fun _ => ?_)
          refine rw.region_w (fun u => In3 w n t n to (kk : Int) tl u) (i.drew) ?_
          clear i
          intro u i
          have hHeld : ((u.cell? ⟨w.heap.size, 0, none⟩ = some (.int .i64 n) ∧ u.cell? ⟨w.heap.size, 1, none⟩ = some (.string t)) ∧ u.cell? ⟨w.heap.size + 1, 0, none⟩ = some (.int .i64 n) ∧ u.cell? ⟨w.heap.size + 1, 1, none⟩ = some (.int .i64 to) ∧ u.cell? ⟨w.heap.size + 1, 2, none⟩ = some (.int .i64 (kk : Int)) ∧ u.cell? ⟨w.heap.size + 1, 3, none⟩ = some (.string tl)) := HS.out u i
          refine wpAnyH_take (i := 0) (oi := { dst := some 42, op := Op.fieldAddr 28 (Operand.tmp 3) 1, type := 0, pos := "l07_sync.go:122", after := #[], guard := none }) (v := ?_) rfl (by kernel_rfl) (by kernel_rfl) (by kernel_rfl) (fun _ _ _ h => h) (Or.inl ⟨by rfl, ?_⟩) hHeld ?_
          rotate_left
          · rintro w ⟨⟨z0, z1⟩, z2, z3, z4, z5⟩; go_simp; (try with_reducible rfl)
          try simp only [Act.put, List.setIfInBounds_toArray, List.set_cons_zero, List.set_cons_succ]
          refine wpAnyH_take (i := 1) (oi := { dst := some 43, op := Op.load 2 (Operand.tmp 42), type := 2, pos := "l07_sync.go:122", after := #[{ on := 0, ground := Ground.data }], guard := none }) (v := ?_) rfl (by kernel_rfl) (by kernel_rfl) (by kernel_rfl) (fun _ _ _ h => h) (Or.inl ⟨by rfl, ?_⟩) hHeld ?_
          rotate_left
          · rintro w ⟨⟨z0, z1⟩, z2, z3, z4, z5⟩; go_simp; (try with_reducible rfl)
          try simp only [Act.put, List.setIfInBounds_toArray, List.set_cons_zero, List.set_cons_succ]
          refine wpAnyH_take (i := 2) (oi := { dst := some 44, op := Op.fieldAddr 24 (Operand.tmp 2) 1, type := 0, pos := "l07_sync.go:122", after := #[], guard := none }) (v := ?_) rfl (by kernel_rfl) (by kernel_rfl) (by kernel_rfl) (fun _ _ _ h => h) (Or.inl ⟨by rfl, ?_⟩) hHeld ?_
          rotate_left
          · rintro w ⟨⟨z0, z1⟩, z2, z3, z4, z5⟩; go_simp; (try with_reducible rfl)
          try simp only [Act.put, List.setIfInBounds_toArray, List.set_cons_zero, List.set_cons_succ]
          refine wpAnyH_take (i := 3) (oi := { dst := some 45, op := Op.load 9 (Operand.tmp 44), type := 9, pos := "l07_sync.go:122", after := #[{ on := 2, ground := Ground.data }], guard := none }) (v := ?_) rfl (by kernel_rfl) (by kernel_rfl) (by kernel_rfl) (fun _ _ _ h => h) (Or.inl ⟨by rfl, ?_⟩) hHeld ?_
          rotate_left
          · rintro w ⟨⟨z0, z1⟩, z2, z3, z4, z5⟩; go_simp; (try with_reducible rfl)
          try simp only [Act.put, List.setIfInBounds_toArray, List.set_cons_zero, List.set_cons_succ]
          refine wpAnyH_take (i := 4) (oi := { dst := some 46, op := Op.fieldAddr 28 (Operand.tmp 3) 2, type := 0, pos := "l07_sync.go:122", after := #[], guard := none }) (v := ?_) rfl (by kernel_rfl) (by kernel_rfl) (by kernel_rfl) (fun _ _ _ h => h) (Or.inl ⟨by rfl, ?_⟩) hHeld ?_
          rotate_left
          · rintro w ⟨⟨z0, z1⟩, z2, z3, z4, z5⟩; go_simp; (try with_reducible rfl)
          try simp only [Act.put, List.setIfInBounds_toArray, List.set_cons_zero, List.set_cons_succ]
          refine wpAnyH_take (i := 5) (oi := { dst := some 47, op := Op.load 2 (Operand.tmp 46), type := 2, pos := "l07_sync.go:122", after := #[{ on := 4, ground := Ground.data }], guard := none }) (v := ?_) rfl (by kernel_rfl) (by kernel_rfl) (by kernel_rfl) (fun _ _ _ h => h) (Or.inl ⟨by rfl, ?_⟩) hHeld ?_
          rotate_left
          · rintro w ⟨⟨z0, z1⟩, z2, z3, z4, z5⟩; go_simp; (try with_reducible rfl)
          try simp only [Act.put, List.setIfInBounds_toArray, List.set_cons_zero, List.set_cons_succ]
          refine wpAnyH_take (i := 6) (oi := { dst := some 48, op := Op.slice 9 (Operand.tmp 45) none (some (Operand.tmp 47)) none, type := 9, pos := "l07_sync.go:122", after := #[{ on := 3, ground := Ground.data }, { on := 5, ground := Ground.data }], guard := none }) (v := .string (t.extract 0 kk)) rfl (by kernel_rfl) (by kernel_rfl) (by kernel_rfl) (fun _ _ _ h => h) (Or.inl ⟨by rfl, ?_⟩) hHeld ?_
          · rintro w ⟨⟨z0, z1⟩, z2, z3, z4, z5⟩; go_simp; (try with_reducible rfl)
          try simp only [Act.put, List.setIfInBounds_toArray, List.set_cons_zero, List.set_cons_succ]
          refine wpAnyH_take (i := 7) (oi := { dst := some 49, op := Op.fieldAddr 28 (Operand.tmp 3) 3, type := 0, pos := "l07_sync.go:122", after := #[], guard := none }) (v := ?_) rfl (by kernel_rfl) (by kernel_rfl) (by kernel_rfl) (fun _ _ _ h => h) (Or.inl ⟨by rfl, ?_⟩) hHeld ?_
          rotate_left
          · rintro w ⟨⟨z0, z1⟩, z2, z3, z4, z5⟩; go_simp; (try with_reducible rfl)
          try simp only [Act.put, List.setIfInBounds_toArray, List.set_cons_zero, List.set_cons_succ]
          refine wpAnyH_take (i := 8) (oi := { dst := some 50, op := Op.load 9 (Operand.tmp 49), type := 9, pos := "l07_sync.go:122", after := #[{ on := 7, ground := Ground.data }], guard := none }) (v := ?_) rfl (by kernel_rfl) (by kernel_rfl) (by kernel_rfl) (fun _ _ _ h => h) (Or.inl ⟨by rfl, ?_⟩) hHeld ?_
          rotate_left
          · rintro w ⟨⟨z0, z1⟩, z2, z3, z4, z5⟩; go_simp; (try with_reducible rfl)
          try simp only [Act.put, List.setIfInBounds_toArray, List.set_cons_zero, List.set_cons_succ]
          refine wpAnyH_ready (rs := [9, 12]) (by kernel_rfl) (by simp) ?_
          refine AllReadyH.cons rfl (fun K hK => ?_) (AllReadyH.cons rfl (fun K hK => ?_) AllReadyH.nil)
          · skip
            go_simp
            refine hK.out _ _ (HS.out _ (i.up (rw.up_alloc _ _))) (fun _ => ?_)
            clear hK K hHeld
            try simp only [Act.put, List.setIfInBounds_toArray, List.set_cons_zero, List.set_cons_succ]
            obtain ⟨g, hg⟩ : ∃ g, g = u.heap.size := ⟨_, rfl⟩
            rw [← hg]
            have ng : w.heap.size + 1 + 1 < g := by rw [hg]; exact heap_lt i.res
            refine rw.region_w (fun u => (In3 w n t n to (kk : Int) tl u) ∧ (rw.At u g #[.string (t.extract 0 kk), .string tl] 9)) ⟨i.up (rw.up_alloc _ _), by rw [hg]; exact rw.At.new _ _ _⟩ ?_
            clear i
            rintro u ⟨i, g0⟩
            have hHeld : ((u.cell? ⟨w.heap.size, 0, none⟩ = some (.int .i64 n) ∧ u.cell? ⟨w.heap.size, 1, none⟩ = some (.string t)) ∧ u.cell? ⟨w.heap.size + 1, 0, none⟩ = some (.int .i64 n) ∧ u.cell? ⟨w.heap.size + 1, 1, none⟩ = some (.int .i64 to) ∧ u.cell? ⟨w.heap.size + 1, 2, none⟩ = some (.int .i64 (kk : Int)) ∧ u.cell? ⟨w.heap.size + 1, 3, none⟩ = some (.string tl)) := HS.out u i
            clear hg
            refine wpAnyH_ready (rs := [10, 12]) (by kernel_rfl) (by simp) ?_
            refine AllReadyH.cons rfl (fun K hK => ?_) (AllReadyH.cons rfl (fun K hK => ?_) AllReadyH.nil)
            · skip
              go_simp
              go_at_call 39
              refine (HJ.out _ _ g0).mono ?_
              rintro r7 w7 ⟨rfl, hb⟩
              go_wp2_with fail
              refine hK.out _ _ (HS.out _ (i.up hb)) (fun _ => ?_)
              clear hK K hHeld
              try simp only [Act.put, List.setIfInBounds_toArray, List.set_cons_zero, List.set_cons_succ]
              refine rw.region_w (fun u => (In3 w n t n to (kk : Int) tl u) ∧ (rw.At u g #[.string (t.extract 0 kk), .string tl] 9)) ⟨i.up hb, g0.up hb⟩ ?_
              clear i g0 hb
              rintro u ⟨i, g0⟩
              have hHeld : ((u.cell? ⟨w.heap.size, 0, none⟩ = some (.int .i64 n) ∧ u.cell? ⟨w.heap.size, 1, none⟩ = some (.string t)) ∧ u.cell? ⟨w.heap.size + 1, 0, none⟩ = some (.int .i64 n) ∧ u.cell? ⟨w.heap.size + 1, 1, none⟩ = some (.int .i64 to) ∧ u.cell? ⟨w.heap.size + 1, 2, none⟩ = some (.int .i64 (kk : Int)) ∧ u.cell? ⟨w.heap.size + 1, 3, none⟩ = some (.string tl)) := HS.out u i
              refine wpAnyH_take (i := 11) (oi := { dst := some 53, op := Op.build 24 #[(0, Operand.tmp 43), (1, Operand.tmp 52)], type := 24, pos := "l07_sync.go:122", after := #[{ on := 1, ground := Ground.data }, { on := 10, ground := Ground.data }], guard := none }) (v := ?_) rfl (by kernel_rfl) (by kernel_rfl) (by kernel_rfl) (fun _ _ _ h => h) (Or.inl ⟨by rfl, ?_⟩) hHeld ?_
              rotate_left
              · rintro w ⟨⟨z0, z1⟩, z2, z3, z4, z5⟩; go_simp; (try with_reducible rfl)
              try simp only [Act.put, List.setIfInBounds_toArray, List.set_cons_zero, List.set_cons_succ]
              refine wpAnyH_ready (rs := [12]) (by kernel_rfl) (by simp) ?_
              refine AllReadyH.cons rfl (fun K hK => ?_) AllReadyH.nil
              go_simp
              refine hK.out _ _ (HS.out _ (i.up (rw.up_alloc _ _))) (fun _ => ?_)
              clear hK K hHeld
              try simp only [Act.put, List.setIfInBounds_toArray, List.set_cons_zero, List.set_cons_succ]
              obtain ⟨q, hq⟩ : ∃ q, q = u.heap.size := ⟨_, rfl⟩
              rw [← hq]
              have nq : w.heap.size + 1 + 1 < q := by rw [hq]; exact heap_lt i.res
              have nqg : g < q := by rw [hq]; exact g0.lt
              refine rw.region_w (fun u => (In3 w n t n to (kk : Int) tl u) ∧ (rw.At u g #[.string (t.extract 0 kk), .string tl] 9) ∧ (rw.At u q #[.int .i64 0, .string ⟨#[]⟩] 24)) ⟨i.up (rw.up_alloc _ _), g0.up (rw.up_alloc _ _), by rw [hq]; exact rw.At.new _ _ _⟩ ?_
              clear i g0
              rintro u ⟨i, g0, b⟩
              have hHeld : ((u.cell? ⟨w.heap.size, 0, none⟩ = some (.int .i64 n) ∧ u.cell? ⟨w.heap.size, 1, none⟩ = some (.string t)) ∧ u.cell? ⟨w.heap.size + 1, 0, none⟩ = some (.int .i64 n) ∧ u.cell? ⟨w.heap.size + 1, 1, none⟩ = some (.int .i64 to) ∧ u.cell? ⟨w.heap.size + 1, 2, none⟩ = some (.int .i64 (kk : Int)) ∧ u.cell? ⟨w.heap.size + 1, 3, none⟩ = some (.string tl)) := HS.out u i
              clear hq
              refine wpAnyH_ready (rs := [13]) (by kernel_rfl) (by simp) ?_
              refine AllReadyH.cons rfl (fun K hK => ?_) AllReadyH.nil
              have c0 : u.cell? ⟨q, 0, none⟩ = some (.int .i64 0) := b.cell 0
              have c1 : u.cell? ⟨q, 1, none⟩ = some (.string ⟨#[]⟩) := b.cell 1
              have f0 := fun k => b.frozen k
              go_simp
              refine hK.out _ _ (HS.out _ (((i.set nq 0 (.int .i64 to)).set nq 1 (.string (t.extract 0 kk ++ tl))))) (fun _ => ?_)
              clear hK K hHeld
              try simp only [Act.put, List.setIfInBounds_toArray, List.set_cons_zero, List.set_cons_succ]
              refine rw.region_w (fun u => (In3 w n t n to (kk : Int) tl u) ∧ (rw.At u g #[.string (t.extract 0 kk), .string tl] 9) ∧ (rw.At u q #[.int .i64 to, .string (t.extract 0 kk ++ tl)] 24)) ⟨((i.set nq 0 (.int .i64 to)).set nq 1 (.string (t.extract 0 kk ++ tl))), (rw.At.far (rw.At.far g0 (by omega) 0 (.int .i64 to)) (by omega) 1 (.string (t.extract 0 kk ++ tl))), (rw.At.set (rw.At.set b 0 (.int .i64 to)) 1 (.string (t.extract 0 kk ++ tl)))⟩ ?_
              clear i g0 b c0 c1 f0
              rintro u ⟨i, g0, b⟩
              have hHeld : ((u.cell? ⟨w.heap.size, 0, none⟩ = some (.int .i64 n) ∧ u.cell? ⟨w.heap.size, 1, none⟩ = some (.string t)) ∧ u.cell? ⟨w.heap.size + 1, 0, none⟩ = some (.int .i64 n) ∧ u.cell? ⟨w.heap.size + 1, 1, none⟩ = some (.int .i64 to) ∧ u.cell? ⟨w.heap.size + 1, 2, none⟩ = some (.int .i64 (kk : Int)) ∧ u.cell? ⟨w.heap.size + 1, 3, none⟩ = some (.string tl)) := HS.out u i
              refine wpAnyH_done (by kernel_rfl) ?_ _
              refine NoPanic.normal ?_
              obtain ⟨r0, r1, r2, r3⟩ := i.rcells
              have c0 : u.cell? ⟨q, 0, none⟩ = some (.int .i64 to) := b.cell 0
              have c1 : u.cell? ⟨q, 1, none⟩ = some (.string (t.extract 0 kk ++ tl)) := b.cell 1
              have HD : Hid _ := i.fin (.int .i64 to) (.string (t.extract 0 kk ++ tl)) (.int .i64 0)
              clear i hHeld HS b g0
              go_wp2
              obtain ⟨d1, d2⟩ := HD.out
              exact bodyPost_ret (results_cell_row Try.results13 _ _ (w.heap.size + 1 + 1) _ #[.int .i64 to, .string (t.extract 0 kk ++ tl), .int .i64 0] _ _ rfl d1 Try.underlying37 rfl infoRO) rfl ⟨_, rfl, HV.out, d2⟩
            · skip
              go_simp
              refine hK.out _ _ (HS.out _ (i.up (rw.up_alloc _ _))) (fun _ => ?_)
              clear hK K hHeld
              try simp only [Act.put, List.setIfInBounds_toArray, List.set_cons_zero, List.set_cons_succ]
              obtain ⟨q, hq⟩ : ∃ q, q = u.heap.size := ⟨_, rfl⟩
              rw [← hq]
              have nq : w.heap.size + 1 + 1 < q := by rw [hq]; exact heap_lt i.res
              have nqg : g < q := by rw [hq]; exact g0.lt
              refine rw.region_w (fun u => (In3 w n t n to (kk : Int) tl u) ∧ (rw.At u g #[.string (t.extract 0 kk), .string tl] 9) ∧ (rw.At u q #[.int .i64 0, .string ⟨#[]⟩] 24)) ⟨i.up (rw.up_alloc _ _), g0.up (rw.up_alloc _ _), by rw [hq]; exact rw.At.new _ _ _⟩ ?_
              clear i g0
              rintro u ⟨i, g0, b⟩
              have hHeld : ((u.cell? ⟨w.heap.size, 0, none⟩ = some (.int .i64 n) ∧ u.cell? ⟨w.heap.size, 1, none⟩ = some (.string t)) ∧ u.cell? ⟨w.heap.size + 1, 0, none⟩ = some (.int .i64 n) ∧ u.cell? ⟨w.heap.size + 1, 1, none⟩ = some (.int .i64 to) ∧ u.cell? ⟨w.heap.size + 1, 2, none⟩ = some (.int .i64 (kk : Int)) ∧ u.cell? ⟨w.heap.size + 1, 3, none⟩ = some (.string tl)) := HS.out u i
              clear hq
              refine wpAnyH_ready (rs := [10]) (by kernel_rfl) (by simp) ?_
              refine AllReadyH.cons rfl (fun K hK => ?_) AllReadyH.nil
              go_simp
              go_at_call 39
              refine (HJ.out _ _ g0).mono ?_
              rintro r7 w7 ⟨rfl, hb⟩
              go_wp2_with fail
              refine hK.out _ _ (HS.out _ (i.up hb)) (fun _ => ?_)
              clear hK K hHeld
              try simp only [Act.put, List.setIfInBounds_toArray, List.set_cons_zero, List.set_cons_succ]
              refine rw.region_w (fun u => (In3 w n t n to (kk : Int) tl u) ∧ (rw.At u g #[.string (t.extract 0 kk), .string tl] 9) ∧ (rw.At u q #[.int .i64 0, .string ⟨#[]⟩] 24)) ⟨i.up hb, g0.up hb, b.up hb⟩ ?_
              clear i g0 b hb
              rintro u ⟨i, g0, b⟩
              have hHeld : ((u.cell? ⟨w.heap.size, 0, none⟩ = some (.int .i64 n) ∧ u.cell? ⟨w.heap.size, 1, none⟩ = some (.string t)) ∧ u.cell? ⟨w.heap.size + 1, 0, none⟩ = some (.int .i64 n) ∧ u.cell? ⟨w.heap.size + 1, 1, none⟩ = some (.int .i64 to) ∧ u.cell? ⟨w.heap.size + 1, 2, none⟩ = some (.int .i64 (kk : Int)) ∧ u.cell? ⟨w.heap.size + 1, 3, none⟩ = some (.string tl)) := HS.out u i
              refine wpAnyH_take (i := 11) (oi := { dst := some 53, op := Op.build 24 #[(0, Operand.tmp 43), (1, Operand.tmp 52)], type := 24, pos := "l07_sync.go:122", after := #[{ on := 1, ground := Ground.data }, { on := 10, ground := Ground.data }], guard := none }) (v := ?_) rfl (by kernel_rfl) (by kernel_rfl) (by kernel_rfl) (fun _ _ _ h => h) (Or.inl ⟨by rfl, ?_⟩) hHeld ?_
              rotate_left
              · rintro w ⟨⟨z0, z1⟩, z2, z3, z4, z5⟩; go_simp; (try with_reducible rfl)
              try simp only [Act.put, List.setIfInBounds_toArray, List.set_cons_zero, List.set_cons_succ]
              refine wpAnyH_ready (rs := [13]) (by kernel_rfl) (by simp) ?_
              refine AllReadyH.cons rfl (fun K hK => ?_) AllReadyH.nil
              have c0 : u.cell? ⟨q, 0, none⟩ = some (.int .i64 0) := b.cell 0
              have c1 : u.cell? ⟨q, 1, none⟩ = some (.string ⟨#[]⟩) := b.cell 1
              have f0 := fun k => b.frozen k
              go_simp
              refine hK.out _ _ (HS.out _ (((i.set nq 0 (.int .i64 to)).set nq 1 (.string (t.extract 0 kk ++ tl))))) (fun _ => ?_)
              clear hK K hHeld
              try simp only [Act.put, List.setIfInBounds_toArray, List.set_cons_zero, List.set_cons_succ]
              refine rw.region_w (fun u => (In3 w n t n to (kk : Int) tl u) ∧ (rw.At u g #[.string (t.extract 0 kk), .string tl] 9) ∧ (rw.At u q #[.int .i64 to, .string (t.extract 0 kk ++ tl)] 24)) ⟨((i.set nq 0 (.int .i64 to)).set nq 1 (.string (t.extract 0 kk ++ tl))), (rw.At.far (rw.At.far g0 (by omega) 0 (.int .i64 to)) (by omega) 1 (.string (t.extract 0 kk ++ tl))), (rw.At.set (rw.At.set b 0 (.int .i64 to)) 1 (.string (t.extract 0 kk ++ tl)))⟩ ?_
              clear i g0 b c0 c1 f0
              rintro u ⟨i, g0, b⟩
              have hHeld : ((u.cell? ⟨w.heap.size, 0, none⟩ = some (.int .i64 n) ∧ u.cell? ⟨w.heap.size, 1, none⟩ = some (.string t)) ∧ u.cell? ⟨w.heap.size + 1, 0, none⟩ = some (.int .i64 n) ∧ u.cell? ⟨w.heap.size + 1, 1, none⟩ = some (.int .i64 to) ∧ u.cell? ⟨w.heap.size + 1, 2, none⟩ = some (.int .i64 (kk : Int)) ∧ u.cell? ⟨w.heap.size + 1, 3, none⟩ = some (.string tl)) := HS.out u i
              refine wpAnyH_done (by kernel_rfl) ?_ _
              refine NoPanic.normal ?_
              obtain ⟨r0, r1, r2, r3⟩ := i.rcells
              have c0 : u.cell? ⟨q, 0, none⟩ = some (.int .i64 to) := b.cell 0
              have c1 : u.cell? ⟨q, 1, none⟩ = some (.string (t.extract 0 kk ++ tl)) := b.cell 1
              have HD : Hid _ := i.fin (.int .i64 to) (.string (t.extract 0 kk ++ tl)) (.int .i64 0)
              clear i hHeld HS b g0
              go_wp2
              obtain ⟨d1, d2⟩ := HD.out
              exact bodyPost_ret (results_cell_row Try.results13 _ _ (w.heap.size + 1 + 1) _ #[.int .i64 to, .string (t.extract 0 kk ++ tl), .int .i64 0] _ _ rfl d1 Try.underlying37 rfl infoRO) rfl ⟨_, rfl, HV.out, d2⟩
          · skip
            go_simp
            refine hK.out _ _ (HS.out _ (i.up (rw.up_alloc _ _))) (fun _ => ?_)
            clear hK K hHeld
            try simp only [Act.put, List.setIfInBounds_toArray, List.set_cons_zero, List.set_cons_succ]
            obtain ⟨q, hq⟩ : ∃ q, q = u.heap.size := ⟨_, rfl⟩
            rw [← hq]
            have nq : w.heap.size + 1 + 1 < q := by rw [hq]; exact heap_lt i.res
            refine rw.region_w (fun u => (In3 w n t n to (kk : Int) tl u) ∧ (rw.At u q #[.int .i64 0, .string ⟨#[]⟩] 24)) ⟨i.up (rw.up_alloc _ _), by rw [hq]; exact rw.At.new _ _ _⟩ ?_
            clear i
            rintro u ⟨i, b⟩
            have hHeld : ((u.cell? ⟨w.heap.size, 0, none⟩ = some (.int .i64 n) ∧ u.cell? ⟨w.heap.size, 1, none⟩ = some (.string t)) ∧ u.cell? ⟨w.heap.size + 1, 0, none⟩ = some (.int .i64 n) ∧ u.cell? ⟨w.heap.size + 1, 1, none⟩ = some (.int .i64 to) ∧ u.cell? ⟨w.heap.size + 1, 2, none⟩ = some (.int .i64 (kk : Int)) ∧ u.cell? ⟨w.heap.size + 1, 3, none⟩ = some (.string tl)) := HS.out u i
            clear hq
            refine wpAnyH_ready (rs := [9]) (by kernel_rfl) (by simp) ?_
            refine AllReadyH.cons rfl (fun K hK => ?_) AllReadyH.nil
            go_simp
            refine hK.out _ _ (HS.out _ (i.up (rw.up_alloc _ _))) (fun _ => ?_)
            clear hK K hHeld
            try simp only [Act.put, List.setIfInBounds_toArray, List.set_cons_zero, List.set_cons_succ]
            obtain ⟨g, hg⟩ : ∃ g, g = u.heap.size := ⟨_, rfl⟩
            rw [← hg]
            have ng : w.heap.size + 1 + 1 < g := by rw [hg]; exact heap_lt i.res
            have ngq : q < g := by rw [hg]; exact b.lt
            refine rw.region_w (fun u => (In3 w n t n to (kk : Int) tl u) ∧ (rw.At u q #[.int .i64 0, .string ⟨#[]⟩] 24) ∧ (rw.At u g #[.string (t.extract 0 kk), .string tl] 9)) ⟨i.up (rw.up_alloc _ _), b.up (rw.up_alloc _ _), by rw [hg]; exact rw.At.new _ _ _⟩ ?_
            clear i b
            rintro u ⟨i, b, g0⟩
            have hHeld : ((u.cell? ⟨w.heap.size, 0, none⟩ = some (.int .i64 n) ∧ u.cell? ⟨w.heap.size, 1, none⟩ = some (.string t)) ∧ u.cell? ⟨w.heap.size + 1, 0, none⟩ = some (.int .i64 n) ∧ u.cell? ⟨w.heap.size + 1, 1, none⟩ = some (.int .i64 to) ∧ u.cell? ⟨w.heap.size + 1, 2, none⟩ = some (.int .i64 (kk : Int)) ∧ u.cell? ⟨w.heap.size + 1, 3, none⟩ = some (.string tl)) := HS.out u i
            clear hg
            refine wpAnyH_ready (rs := [10]) (by kernel_rfl) (by simp) ?_
            refine AllReadyH.cons rfl (fun K hK => ?_) AllReadyH.nil
            go_simp
            go_at_call 39
            refine (HJ.out _ _ g0).mono ?_
            rintro r7 w7 ⟨rfl, hb⟩
            go_wp2_with fail
            refine hK.out _ _ (HS.out _ (i.up hb)) (fun _ => ?_)
            clear hK K hHeld
            try simp only [Act.put, List.setIfInBounds_toArray, List.set_cons_zero, List.set_cons_succ]
            refine rw.region_w (fun u => (In3 w n t n to (kk : Int) tl u) ∧ (rw.At u q #[.int .i64 0, .string ⟨#[]⟩] 24) ∧ (rw.At u g #[.string (t.extract 0 kk), .string tl] 9)) ⟨i.up hb, b.up hb, g0.up hb⟩ ?_
            clear i b g0 hb
            rintro u ⟨i, b, g0⟩
            have hHeld : ((u.cell? ⟨w.heap.size, 0, none⟩ = some (.int .i64 n) ∧ u.cell? ⟨w.heap.size, 1, none⟩ = some (.string t)) ∧ u.cell? ⟨w.heap.size + 1, 0, none⟩ = some (.int .i64 n) ∧ u.cell? ⟨w.heap.size + 1, 1, none⟩ = some (.int .i64 to) ∧ u.cell? ⟨w.heap.size + 1, 2, none⟩ = some (.int .i64 (kk : Int)) ∧ u.cell? ⟨w.heap.size + 1, 3, none⟩ = some (.string tl)) := HS.out u i
            refine wpAnyH_take (i := 11) (oi := { dst := some 53, op := Op.build 24 #[(0, Operand.tmp 43), (1, Operand.tmp 52)], type := 24, pos := "l07_sync.go:122", after := #[{ on := 1, ground := Ground.data }, { on := 10, ground := Ground.data }], guard := none }) (v := ?_) rfl (by kernel_rfl) (by kernel_rfl) (by kernel_rfl) (fun _ _ _ h => h) (Or.inl ⟨by rfl, ?_⟩) hHeld ?_
            rotate_left
            · rintro w ⟨⟨z0, z1⟩, z2, z3, z4, z5⟩; go_simp; (try with_reducible rfl)
            try simp only [Act.put, List.setIfInBounds_toArray, List.set_cons_zero, List.set_cons_succ]
            refine wpAnyH_ready (rs := [13]) (by kernel_rfl) (by simp) ?_
            refine AllReadyH.cons rfl (fun K hK => ?_) AllReadyH.nil
            have c0 : u.cell? ⟨q, 0, none⟩ = some (.int .i64 0) := b.cell 0
            have c1 : u.cell? ⟨q, 1, none⟩ = some (.string ⟨#[]⟩) := b.cell 1
            have f0 := fun k => b.frozen k
            go_simp
            refine hK.out _ _ (HS.out _ (((i.set nq 0 (.int .i64 to)).set nq 1 (.string (t.extract 0 kk ++ tl))))) (fun _ => ?_)
            clear hK K hHeld
            try simp only [Act.put, List.setIfInBounds_toArray, List.set_cons_zero, List.set_cons_succ]
            refine rw.region_w (fun u => (In3 w n t n to (kk : Int) tl u) ∧ (rw.At u q #[.int .i64 to, .string (t.extract 0 kk ++ tl)] 24) ∧ (rw.At u g #[.string (t.extract 0 kk), .string tl] 9)) ⟨((i.set nq 0 (.int .i64 to)).set nq 1 (.string (t.extract 0 kk ++ tl))), (rw.At.set (rw.At.set b 0 (.int .i64 to)) 1 (.string (t.extract 0 kk ++ tl))), (rw.At.far (rw.At.far g0 (by omega) 0 (.int .i64 to)) (by omega) 1 (.string (t.extract 0 kk ++ tl)))⟩ ?_
            clear i b g0 c0 c1 f0
            rintro u ⟨i, b, g0⟩
            have hHeld : ((u.cell? ⟨w.heap.size, 0, none⟩ = some (.int .i64 n) ∧ u.cell? ⟨w.heap.size, 1, none⟩ = some (.string t)) ∧ u.cell? ⟨w.heap.size + 1, 0, none⟩ = some (.int .i64 n) ∧ u.cell? ⟨w.heap.size + 1, 1, none⟩ = some (.int .i64 to) ∧ u.cell? ⟨w.heap.size + 1, 2, none⟩ = some (.int .i64 (kk : Int)) ∧ u.cell? ⟨w.heap.size + 1, 3, none⟩ = some (.string tl)) := HS.out u i
            refine wpAnyH_done (by kernel_rfl) ?_ _
            refine NoPanic.normal ?_
            obtain ⟨r0, r1, r2, r3⟩ := i.rcells
            have c0 : u.cell? ⟨q, 0, none⟩ = some (.int .i64 to) := b.cell 0
            have c1 : u.cell? ⟨q, 1, none⟩ = some (.string (t.extract 0 kk ++ tl)) := b.cell 1
            have HD : Hid _ := i.fin (.int .i64 to) (.string (t.extract 0 kk ++ tl)) (.int .i64 0)
            clear i hHeld HS b g0
            go_wp2
            obtain ⟨d1, d2⟩ := HD.out
            exact bodyPost_ret (results_cell_row Try.results13 _ _ (w.heap.size + 1 + 1) _ #[.int .i64 to, .string (t.extract 0 kk ++ tl), .int .i64 0] _ _ rfl d1 Try.underlying37 rfl infoRO) rfl ⟨_, rfl, HV.out, d2⟩
      · have HV : Hid (OnV n t f to k tl (outR 0 ⟨#[]⟩ 10)) := ⟨fun h => absurd ⟨s1, s2⟩ h, fun _ _ _ => rfl, fun _ _ h => absurd h s4, fun _ _ h => absurd h s4⟩
        have k3 : (f != n) = true := by simp [s4]
        clear s1 s4 s2
        go_enter Try.func13, Try.ntmps13
        go_wp2_with (go_at_call 37; fail)
        refine calls_w (In3 w n t f to k tl) HI.out ?_
        clear HI
        intro u i
        refine (h1 u).mono ?_
        rintro r u1 ⟨rfl, hb⟩
        replace i := i.up hb
        clear hb
        obtain ⟨⟨y0, y1⟩, x0, x1, x2, x3⟩ := i.cells
        go_wp2_with (go_at_call 43; fail)
        refine calls_w (In3 w n t f to k tl) i ?_
        clear i y0 y1 x0 x1 x2 x3
        intro u i
        refine (h2 u).mono ?_
        rintro r u1 ⟨rfl, hb⟩
        replace i := i.up hb
        clear hb
        obtain ⟨⟨y0, y1⟩, x0, x1, x2, x3⟩ := i.cells
        obtain ⟨r0, r1, r2, r3⟩ := i.rcells
        have HD : Hid _ := i.fin (.int .i64 0) (.string ⟨#[]⟩) (.int .i64 10)
        clear i
        go_wp2
        obtain ⟨d1, d2⟩ := HD.out
        exact bodyPost_ret (results_cell_row Try.results13 _ _ (w.heap.size + 1 + 1) _ #[.int .i64 0, .string ⟨#[]⟩, .int .i64 10] _ _ rfl d1 Try.underlying37 rfl infoRO) rfl ⟨_, rfl, HV.out, d2⟩
    · have HV : Hid (OnV n t f to k tl (outR 0 ⟨#[]⟩ 1)) := ⟨fun _ => rfl, fun _ h => absurd h s2, fun _ h => absurd h s2, fun _ h => absurd h s2⟩
      rw [decide_eq_false s2] at h2
      clear s1 s2
      go_enter Try.func13, Try.ntmps13
      go_wp2_with (go_at_call 37; fail)
      refine calls_w (In3 w n t f to k tl) HI.out ?_
      clear HI
      intro u i
      refine (h1 u).mono ?_
      rintro r u1 ⟨rfl, hb⟩
      replace i := i.up hb
      clear hb
      obtain ⟨⟨y0, y1⟩, x0, x1, x2, x3⟩ := i.cells
      go_wp2_with (go_at_call 43; fail)
      refine calls_w (In3 w n t f to k tl) i ?_
      clear i y0 y1 x0 x1 x2 x3
      intro u i
      refine (h2 u).mono ?_
      rintro r u1 ⟨rfl, hb⟩
      replace i := i.up hb
      clear hb
      obtain ⟨⟨y0, y1⟩, x0, x1, x2, x3⟩ := i.cells
      obtain ⟨r0, r1, r2, r3⟩ := i.rcells
      have HD : Hid _ := i.fin (.int .i64 0) (.string ⟨#[]⟩) (.int .i64 1)
      clear i
      go_wp2
      obtain ⟨d1, d2⟩ := HD.out
      exact bodyPost_ret (results_cell_row Try.results13 _ _ (w.heap.size + 1 + 1) _ #[.int .i64 0, .string ⟨#[]⟩, .int .i64 1] _ _ rfl d1 Try.underlying37 rfl infoRO) rfl ⟨_, rfl, HV.out, d2⟩
  · have HV : Hid (OnV n t f to k tl (outR 0 ⟨#[]⟩ 1)) := ⟨fun _ => rfl, fun h => absurd h s1, fun h => absurd h s1, fun h => absurd h s1⟩
    rw [decide_eq_false s1] at h1
    clear s1 h2
    go_enter Try.func13, Try.ntmps13
    go_wp2_with (go_at_call 37; fail)
    refine calls_w (In3 w n t f to k tl) HI.out ?_
    clear HI
    intro u i
    refine (h1 u).mono ?_
    rintro r u1 ⟨rfl, hb⟩
    replace i := i.up hb
    clear hb
    obtain ⟨⟨y0, y1⟩, x0, x1, x2, x3⟩ := i.cells
    obtain ⟨r0, r1, r2, r3⟩ := i.rcells
    have HD : Hid _ := i.fin (.int .i64 0) (.string ⟨#[]⟩) (.int .i64 1)
    clear i
    go_wp2
    obtain ⟨d1, d2⟩ := HD.out
    exact bodyPost_ret (results_cell_row Try.results13 _ _ (w.heap.size + 1 + 1) _ #[.int .i64 0, .string ⟨#[]⟩, .int .i64 1] _ _ rfl d1 Try.underlying37 rfl infoRO) rfl ⟨_, rfl, HV.out, d2⟩
end Go.Proofs.Ytmbeanimjmfddaa.st
