/-
  An update put on a state: the model's DeltaOn and the program's. No condition.
-/
import Derived.Test.YtmbeanimjmfddaaStW
import Derived.Test.YtmbeanimjmfddaaRegW
import Derived.Deep.RegionWith
import Derived.Test.YtmbeanimjmfddaaJoin
import Derived.Deep.RegionHeld3
import Derived.OrdersHeld
namespace Go.Proofs.Ytmbeanimjmfddaa.st
open Go.ChangeShapes Go.WideShapes Go.ChangeAt Go.RowKit
open Go.Proofs.Ytmbeanimjmfddaa.wi (heap_lt calls_w wp_w)
open Go.Proofs.Ytmbeanimjmfddaa.jo (joined2)
open Classical
set_option linter.unusedVariables false

theorem infoRO : (Try.prog.info? 37).map (·.size) = some 3 := by kernel_rfl
/-- an update that may be -/
def UpR (to k : Int) (tl : ByteArray) : Prop := (0 ≤ to ∧ to ≤ 1000000) ∧ 0 ≤ k ∧ tl.size ≤ 400
abbrev outR (n : Int) (t : ByteArray) (c : Int) : Value := .agg #[.int .i64 n, .string t, .int .i64 c]
/-- what DeltaOn tells -/
structure OnV (n : Int) (t : ByteArray) (f to k : Int) (tl : ByteArray) (v : Value) : Prop where
  c1 : ¬ (StR n t ∧ UpR to k tl) → v = outR 0 ⟨#[]⟩ 1
  c2 : StR n t → UpR to k tl → f ≠ n → v = outR 0 ⟨#[]⟩ 10
  c3 : StR n t → UpR to k tl → f = n → (t.size : Int) < k ∨ 400 < k + (tl.size : Int) → v = outR 0 ⟨#[]⟩ 8
  c4 : StR n t → UpR to k tl → f = n → ¬ ((t.size : Int) < k ∨ 400 < k + (tl.size : Int)) → v = outR to (t.extract 0 k.toNat ++ tl) 0
theorem OnV.one {n : Int} {t : ByteArray} {f to k : Int} {tl : ByteArray} {v v' : Value} (h : OnV n t f to k tl v) (h' : OnV n t f to k tl v') : v = v' := by
  by_cases a : StR n t ∧ UpR to k tl
  · by_cases b : f = n
    · by_cases c : (t.size : Int) < k ∨ 400 < k + (tl.size : Int)
      · rw [h.c3 a.1 a.2 b c, h'.c3 a.1 a.2 b c]
      · rw [h.c4 a.1 a.2 b c, h'.c4 a.1 a.2 b c]
    · rw [h.c2 a.1 a.2 b, h'.c2 a.1 a.2 b]
  · rw [h.c1 a, h'.c1 a]
theorem heap_alloc2' (w : World) (o p : Obj) : ((w.alloc o).alloc p).heap[w.heap.size + 1]? = some p := by
  have := heap_alloc_new (w.alloc o) p
  rwa [World.size_alloc] at this
/-- the state's block, the update's and the answer's -/
structure In3 (w : World) (n : Int) (t : ByteArray) (f to k : Int) (tl : ByteArray) (u : World) : Prop where
  bel : Below w.heap.size w u
  fst : u.heap[w.heap.size]? = some (.cells #[.int .i64 n, .string t] 24 (0, 0))
  snd : u.heap[w.heap.size + 1]? = some (.cells #[.int .i64 f, .int .i64 to, .int .i64 k, .string tl] 28 (0, 0))
  res : u.heap[w.heap.size + 1 + 1]? = some (.cells #[.int .i64 0, .string ⟨#[]⟩, .int .i64 0] 37 (0, 0))
variable {w u u' : World} {n : Int} {t : ByteArray} {f to k : Int} {tl : ByteArray}
theorem In3.new : In3 w n t f to k tl (((w.alloc (.cells #[.int .i64 n, .string t] 24)).alloc (.cells #[.int .i64 f, .int .i64 to, .int .i64 k, .string tl] 28)).alloc (.cells #[.int .i64 0, .string ⟨#[]⟩, .int .i64 0] 37)) := by
  refine ⟨(((Below.refl _ _).alloc (Nat.le_refl _) _).alloc (by simp) _).alloc (by simp; omega) _, ?_, ?_, ?_⟩
  · exact (Below.heap_alloc _ _ _ (by simp; omega)).trans ((Below.heap_alloc _ _ _ (by simp)).trans (heap_alloc_new _ _))
  · exact (Below.heap_alloc _ _ _ (by simp)).trans (heap_alloc2' _ _ _)
  · have := heap_alloc_new ((w.alloc (.cells #[.int .i64 n, .string t] 24)).alloc (.cells #[.int .i64 f, .int .i64 to, .int .i64 k, .string tl] 28)) (.cells #[.int .i64 0, .string ⟨#[]⟩, .int .i64 0] 37)
    simpa using this
theorem In3.up (h : In3 w n t f to k tl u) (hb : Below u.heap.size u u') : In3 w n t f to k tl u' :=
  ⟨h.bel.trans (hb.mono h.bel.size), (hb.block _ (heap_lt h.fst)).trans h.fst, (hb.block _ (heap_lt h.snd)).trans h.snd, (hb.block _ (heap_lt h.res)).trans h.res⟩
theorem In3.drew (h : In3 w n t f to k tl u) : In3 w n t f to k tl u.drew := ⟨h.bel.drew, h.fst, h.snd, h.res⟩
theorem In3.cells (h : In3 w n t f to k tl u) : (u.cell? ⟨w.heap.size, 0, none⟩ = some (.int .i64 n) ∧ u.cell? ⟨w.heap.size, 1, none⟩ = some (.string t)) ∧ u.cell? ⟨w.heap.size + 1, 0, none⟩ = some (.int .i64 f) ∧ u.cell? ⟨w.heap.size + 1, 1, none⟩ = some (.int .i64 to) ∧ u.cell? ⟨w.heap.size + 1, 2, none⟩ = some (.int .i64 k) ∧ u.cell? ⟨w.heap.size + 1, 3, none⟩ = some (.string tl) := by
  refine ⟨⟨?_, ?_⟩, ?_, ?_, ?_, ?_⟩ <;> simp [World.cell?, h.fst, h.snd]
theorem In3.rcells (h : In3 w n t f to k tl u) : u.cell? ⟨w.heap.size + 1 + 1, 0, none⟩ = some (.int .i64 0) ∧ u.cell? ⟨w.heap.size + 1 + 1, 1, none⟩ = some (.string ⟨#[]⟩) ∧ u.cell? ⟨w.heap.size + 1 + 1, 2, none⟩ = some (.int .i64 0) ∧ ∀ k, u.frozen? ⟨w.heap.size + 1 + 1, k, none⟩ = false := by
  refine ⟨?_, ?_, ?_, fun k => frozen_of_row _ _ _ _ _ h.res⟩ <;> simp [World.cell?, h.res]
/-- an answer's block filled -/
def fill3 (u : World) (q : Nat) (x0 x1 x2 : Value) : World := ((u.setCell ⟨q, 0, none⟩ x0).setCell ⟨q, 1, none⟩ x1).setCell ⟨q, 2, none⟩ x2
theorem fill3_heap {q : Nat} {y0 y1 y2 : Value} (h : u.heap[q]? = some (.cells #[y0, y1, y2] 37 (0, 0))) (x0 x1 x2 : Value) : (fill3 u q x0 x1 x2).heap[q]? = some (.cells #[x0, x1, x2] 37 (0, 0)) := by
  have a0 := heap_setCell_same u q 0 _ _ x0 h
  have a1 := heap_setCell_same _ q 1 _ _ x1 a0
  exact heap_setCell_same _ q 2 _ _ x2 a1
theorem fill3_below {q m : Nat} (h : Below m w u) (hq : m ≤ q) (x0 x1 x2 : Value) : Below m w (fill3 u q x0 x1 x2) :=
  ((h.setCell (p := ⟨q, 0, none⟩) hq x0).setCell (p := ⟨q, 1, none⟩) hq x1).setCell (p := ⟨q, 2, none⟩) hq x2
def FinR (w : World) (u : World) : Prop := ∀ x0 x1 x2, (fill3 u (w.heap.size + 1 + 1) x0 x1 x2).heap[w.heap.size + 1 + 1]? = some (.cells #[x0, x1, x2] 37 (0, 0)) ∧ Below w.heap.size w (fill3 u (w.heap.size + 1 + 1) x0 x1 x2)
theorem In3.fin (h : In3 w n t f to k tl u) : FinR w u := fun x0 x1 x2 => ⟨fill3_heap h.res _ _ _, fill3_below h.bel (by omega) _ _ _⟩
theorem In3.kept (h : In3 w n t f to k tl u) (x0 x1 x2 : Value) : ((fill3 u (w.heap.size + 1 + 1) x0 x1 x2).cell? ⟨w.heap.size, 0, none⟩ = some (.int .i64 n) ∧ (fill3 u (w.heap.size + 1 + 1) x0 x1 x2).cell? ⟨w.heap.size, 1, none⟩ = some (.string t)) ∧ (fill3 u (w.heap.size + 1 + 1) x0 x1 x2).cell? ⟨w.heap.size + 1, 0, none⟩ = some (.int .i64 f) ∧ (fill3 u (w.heap.size + 1 + 1) x0 x1 x2).cell? ⟨w.heap.size + 1, 1, none⟩ = some (.int .i64 to) ∧ (fill3 u (w.heap.size + 1 + 1) x0 x1 x2).cell? ⟨w.heap.size + 1, 2, none⟩ = some (.int .i64 k) ∧ (fill3 u (w.heap.size + 1 + 1) x0 x1 x2).cell? ⟨w.heap.size + 1, 3, none⟩ = some (.string tl) := by
  have e1 : (fill3 u (w.heap.size + 1 + 1) x0 x1 x2).heap[w.heap.size]? = some (.cells #[.int .i64 n, .string t] 24 (0, 0)) := by
    unfold fill3
    rw [heap_setCell_other _ _ _ _ (by simp; omega), heap_setCell_other _ _ _ _ (by simp; omega), heap_setCell_other _ _ _ _ (by simp; omega)]; exact h.fst
  have e2 : (fill3 u (w.heap.size + 1 + 1) x0 x1 x2).heap[w.heap.size + 1]? = some (.cells #[.int .i64 f, .int .i64 to, .int .i64 k, .string tl] 28 (0, 0)) := by
    unfold fill3
    rw [heap_setCell_other _ _ _ _ (by simp), heap_setCell_other _ _ _ _ (by simp), heap_setCell_other _ _ _ _ (by simp)]; exact h.snd
  refine ⟨⟨?_, ?_⟩, ?_, ?_, ?_, ?_⟩ <;> simp [World.cell?, e1, e2]
theorem In3.keptD (h : In3 w n t f to k tl u) (x0 x1 x2 : Value) : ((fill3 u (w.heap.size + 1 + 1) x0 x1 x2).drew.cell? ⟨w.heap.size, 0, none⟩ = some (.int .i64 n) ∧ (fill3 u (w.heap.size + 1 + 1) x0 x1 x2).drew.cell? ⟨w.heap.size, 1, none⟩ = some (.string t)) ∧ (fill3 u (w.heap.size + 1 + 1) x0 x1 x2).drew.cell? ⟨w.heap.size + 1, 0, none⟩ = some (.int .i64 f) ∧ (fill3 u (w.heap.size + 1 + 1) x0 x1 x2).drew.cell? ⟨w.heap.size + 1, 1, none⟩ = some (.int .i64 to) ∧ (fill3 u (w.heap.size + 1 + 1) x0 x1 x2).drew.cell? ⟨w.heap.size + 1, 2, none⟩ = some (.int .i64 k) ∧ (fill3 u (w.heap.size + 1 + 1) x0 x1 x2).drew.cell? ⟨w.heap.size + 1, 3, none⟩ = some (.string tl) := h.kept x0 x1 x2
def FinRD (w : World) (u : World) : Prop := ∀ x0 x1 x2, (fill3 u (w.heap.size + 1 + 1) x0 x1 x2).drew.heap[w.heap.size + 1 + 1]? = some (.cells #[x0, x1, x2] 37 (0, 0)) ∧ Below w.heap.size w (fill3 u (w.heap.size + 1 + 1) x0 x1 x2).drew
theorem In3.finD (h : In3 w n t f to k tl u) : FinRD w u := fun x0 x1 x2 => ⟨(h.fin x0 x1 x2).1, (h.fin x0 x1 x2).2.drew⟩
theorem illM_any (c : Int) (w : World) : Calls Try.prog 45 #[.int .i64 c] w fun r w' => r = .returned (outR 0 ⟨#[]⟩ c) ∧ Below w.heap.size w w' := by
  have HB : Hid (∀ o, Below w.heap.size w (w.alloc o)) := fun o => (Below.refl _ _).alloc (Nat.le_refl _) o
  go_enter Try.func45, Try.ntmps45
  go_wp2
  exact bodyPost_ret (results_cell_row Try.results45 _ _ w.heap.size _ #[.int .i64 0, .string ⟨#[]⟩, .int .i64 c] _ _ rfl (heap_alloc_new _ _) Try.underlying37 rfl infoRO) rfl ⟨rfl, HB.out _⟩
set_option maxHeartbeats 4000000 in
theorem onM_any (n : Int) (t : ByteArray) (f to k : Int) (tl : ByteArray) (w : World) (ht : t.size ≤ maxLen) (htl : tl.size ≤ maxLen) :
    Calls Try.prog 14 #[.agg #[.int .i64 n, .string t], .agg #[.int .i64 f, .int .i64 to, .int .i64 k, .string tl]] w fun e w' => ∃ v, e = .returned v ∧ OnV n t f to k tl v ∧ Below w.heap.size w w' := by
  have HI : Hid (In3 w n t f to k tl (((w.alloc (.cells #[.int .i64 n, .string t] 24)).alloc (.cells #[.int .i64 f, .int .i64 to, .int .i64 k, .string tl] 28)).alloc (.cells #[.int .i64 0, .string ⟨#[]⟩, .int .i64 0] 37))) := In3.new
  have ht9 := ht
  have htl9 := htl
  unfold maxLen at ht9 htl9
  have h1 := fun u => stateM_any n t u ht
  have h2 := fun u => is_any to 0 1000000 u
  by_cases s1 : StR n t
  · rw [decide_eq_true s1] at h1
    by_cases s2 : 0 ≤ to ∧ to ≤ 1000000
    · rw [decide_eq_true s2] at h2
      by_cases s3 : 0 ≤ k ∧ tl.size ≤ 400
      · have u1 : UpR to k tl := ⟨s2, s3.1, s3.2⟩
        have k1 : decide (k < 0) = false := decide_eq_false (by omega)
        have k2 : decide (400 < (tl.size : Int)) = false := decide_eq_false (by omega)
        by_cases s4 : f = n
        · have s4' := s4.symm
          subst s4'
          clear s4
          have k3 : (n != n) = false := by simp
          by_cases s5 : (t.size : Int) < k ∨ 400 < k + (tl.size : Int)
          · have HV : Hid (OnV n t n to k tl (outR 0 ⟨#[]⟩ 8)) := ⟨fun h => absurd ⟨s1, u1⟩ h, fun _ _ h => absurd rfl h, fun _ _ _ _ => rfl, fun _ _ _ h => absurd s5 h⟩
            by_cases s6 : (t.size : Int) < k
            · have k4 : decide ((t.size : Int) < k) = true := decide_eq_true s6
              clear s1 u1 s5 s2
              go_enter Try.func14, Try.ntmps14
              go_wp2_with (go_at_call 41; fail)
              refine calls_w (In3 w n t n to k tl) HI.out ?_
              clear HI
              intro u i
              refine (h1 u).mono ?_
              rintro r u1 ⟨rfl, hb⟩
              replace i := i.up hb
              clear hb
              obtain ⟨⟨y0, y1⟩, x0, x1, x2, x3⟩ := i.cells
              go_wp2_with (go_at_call 44; fail)
              refine calls_w (In3 w n t n to k tl) i ?_
              clear i y0 y1 x0 x1 x2 x3
              intro u i
              refine (h2 u).mono ?_
              rintro r u1 ⟨rfl, hu⟩
              obtain rfl := hu.symm
              obtain ⟨⟨y0, y1⟩, x0, x1, x2, x3⟩ := i.cells
              go_wp2_with (go_at_call 45; fail)
              refine calls_w (In3 w n t n to k tl) i ?_
              clear i y0 y1 x0 x1 x2 x3
              intro u i
              refine (illM_any 8 u).mono ?_
              rintro r u1 ⟨rfl, hb⟩
              replace i := i.up hb
              clear hb
              obtain ⟨r0, r1, r2, r3⟩ := i.rcells
              have HD : Hid _ := i.fin (.int .i64 0) (.string ⟨#[]⟩) (.int .i64 8)
              clear i
              go_wp2
              obtain ⟨d1, d2⟩ := HD.out
              exact bodyPost_ret (results_cell_row Try.results14 _ _ (w.heap.size + 1 + 1) _ #[.int .i64 0, .string ⟨#[]⟩, .int .i64 8] _ _ rfl d1 Try.underlying37 rfl infoRO) rfl ⟨_, rfl, HV.out, d2⟩
            · have k4 : decide ((t.size : Int) < k) = false := decide_eq_false s6
              have k6 : t.size ≤ 400 := s1.2
              have k5 : decide (400 < k + (tl.size : Int)) = true := decide_eq_true (by omega)
              have k7 : IntKind.i64.wrap (k + (tl.size : Int)) = k + (tl.size : Int) := by rw [IntKind.wrap_i64]; omega
              clear s1 u1 s5 s2
              go_enter Try.func14, Try.ntmps14
              go_wp2_with (go_at_call 41; fail)
              refine calls_w (In3 w n t n to k tl) HI.out ?_
              clear HI
              intro u i
              refine (h1 u).mono ?_
              rintro r u1 ⟨rfl, hb⟩
              replace i := i.up hb
              clear hb
              obtain ⟨⟨y0, y1⟩, x0, x1, x2, x3⟩ := i.cells
              go_wp2_with (go_at_call 44; fail)
              refine calls_w (In3 w n t n to k tl) i ?_
              clear i y0 y1 x0 x1 x2 x3
              intro u i
              refine (h2 u).mono ?_
              rintro r u1 ⟨rfl, hu⟩
              obtain rfl := hu.symm
              obtain ⟨⟨y0, y1⟩, x0, x1, x2, x3⟩ := i.cells
              go_wp2_with (go_at_call 45; fail)
              refine calls_w (In3 w n t n to k tl) i ?_
              clear i y0 y1 x0 x1 x2 x3
              intro u i
              refine (illM_any 8 u).mono ?_
              rintro r u1 ⟨rfl, hb⟩
              replace i := i.up hb
              clear hb
              obtain ⟨r0, r1, r2, r3⟩ := i.rcells
              have HD : Hid _ := i.fin (.int .i64 0) (.string ⟨#[]⟩) (.int .i64 8)
              clear i
              go_wp2
              obtain ⟨d1, d2⟩ := HD.out
              exact bodyPost_ret (results_cell_row Try.results14 _ _ (w.heap.size + 1 + 1) _ #[.int .i64 0, .string ⟨#[]⟩, .int .i64 8] _ _ rfl d1 Try.underlying37 rfl infoRO) rfl ⟨_, rfl, HV.out, d2⟩
          · obtain ⟨kk, hkk⟩ := Int.eq_ofNat_of_zero_le s3.1
            have hkk' : k = (kk : Int) := hkk
            clear hkk
            subst hkk'
            have HV : Hid (OnV n t n to (kk : Int) tl (outR to (t.extract 0 kk ++ tl) 0)) := ⟨fun h => absurd ⟨s1, u1⟩ h, fun _ _ h => absurd rfl h, fun _ _ _ h => absurd h s5, fun _ _ _ _ => rfl⟩
            have k4 : decide ((t.size : Int) < (kk : Int)) = false := decide_eq_false (by omega)
            have k6 : t.size ≤ 400 := s1.2
            have k5 : decide (400 < (kk : Int) + (tl.size : Int)) = false := decide_eq_false (by omega)
            have k7 : IntKind.i64.wrap ((kk : Int) + (tl.size : Int)) = (kk : Int) + (tl.size : Int) := by rw [IntKind.wrap_i64]; omega
            have k8 : kk ≤ t.size := by omega
            have k9 : ¬ (t.size : Int) < (kk : Int) := by omega
            have k10 : tl.size ≤ 400 := s3.2
            have k11 : 1000 ≤ maxLen := by decide
            clear s1 u1 s5 s2 s3
            go_enter Try.func14, Try.ntmps14
            go_wp2_with (go_at_call 41; fail)
            refine calls_w (In3 w n t n to (kk : Int) tl) HI.out ?_
            clear HI
            intro u i
            refine (h1 u).mono ?_
            rintro r u1 ⟨rfl, hb⟩
            replace i := i.up hb
            clear hb
            obtain ⟨⟨y0, y1⟩, x0, x1, x2, x3⟩ := i.cells
            go_wp2_with (go_at_call 44; fail)
            refine calls_w (In3 w n t n to (kk : Int) tl) i ?_
            clear i y0 y1 x0 x1 x2 x3
            intro u i
            refine (h2 u).mono ?_
            rintro r u1 ⟨rfl, hu⟩
            obtain rfl := hu.symm
            obtain ⟨⟨y0, y1⟩, x0, x1, x2, x3⟩ := i.cells
            go_wp2_with fail
            obtain ⟨r0, r1, r2, r3⟩ := i.rcells
            have i0 := i
            replace i := i.drew
            clear y0 y1 x0 x1 x2 x3
            have HS : Hid (∀ u, In3 w n t n to (kk : Int) tl u → ((u.cell? ⟨w.heap.size, 0, none⟩ = some (.int .i64 n) ∧ u.cell? ⟨w.heap.size, 1, none⟩ = some (.string t)) ∧ u.cell? ⟨w.heap.size + 1, 0, none⟩ = some (.int .i64 n) ∧ u.cell? ⟨w.heap.size + 1, 1, none⟩ = some (.int .i64 to) ∧ u.cell? ⟨w.heap.size + 1, 2, none⟩ = some (.int .i64 (kk : Int)) ∧ u.cell? ⟨w.heap.size + 1, 3, none⟩ = some (.string tl))) := fun u hu => hu.cells
            refine wp_region_noPanic ?_
            refine wp_region_held_drew (S := fun u => (u.cell? ⟨w.heap.size, 0, none⟩ = some (.int .i64 n) ∧ u.cell? ⟨w.heap.size, 1, none⟩ = some (.string t)) ∧ u.cell? ⟨w.heap.size + 1, 0, none⟩ = some (.int .i64 n) ∧ u.cell? ⟨w.heap.size + 1, 1, none⟩ = some (.int .i64 to) ∧ u.cell? ⟨w.heap.size + 1, 2, none⟩ = some (.int .i64 (kk : Int)) ∧ u.cell? ⟨w.heap.size + 1, 3, none⟩ = some (.string tl)) (by kernel_rfl) (HS.out _ i) (fun hHeld => ?_)
            refine wpAnyH_take (i := 0) (oi := { dst := some 48, op := Op.fieldAddr 28 (Operand.tmp 3) 1, type := 0, pos := "l07_sync.go:35", after := #[], guard := none }) (v := ?_) rfl (by kernel_rfl) (by kernel_rfl) (by kernel_rfl) (fun _ _ _ h => h) (Or.inl ⟨by rfl, ?_⟩) hHeld ?_
            rotate_left
            · rintro w ⟨⟨z0, z1⟩, z2, z3, z4, z5⟩; go_simp; (try with_reducible rfl)
            try simp only [Act.put, List.setIfInBounds_toArray, List.set_cons_zero, List.set_cons_succ]
            refine wpAnyH_take (i := 1) (oi := { dst := some 49, op := Op.load 2 (Operand.tmp 48), type := 2, pos := "l07_sync.go:35", after := #[{ on := 0, ground := Ground.data }], guard := none }) (v := ?_) rfl (by kernel_rfl) (by kernel_rfl) (by kernel_rfl) (fun _ _ _ h => h) (Or.inl ⟨by rfl, ?_⟩) hHeld ?_
            rotate_left
            · rintro w ⟨⟨z0, z1⟩, z2, z3, z4, z5⟩; go_simp; (try with_reducible rfl)
            try simp only [Act.put, List.setIfInBounds_toArray, List.set_cons_zero, List.set_cons_succ]
            refine wpAnyH_take (i := 2) (oi := { dst := some 50, op := Op.fieldAddr 24 (Operand.tmp 2) 1, type := 0, pos := "l07_sync.go:35", after := #[], guard := none }) (v := ?_) rfl (by kernel_rfl) (by kernel_rfl) (by kernel_rfl) (fun _ _ _ h => h) (Or.inl ⟨by rfl, ?_⟩) hHeld ?_
            rotate_left
            · rintro w ⟨⟨z0, z1⟩, z2, z3, z4, z5⟩; go_simp; (try with_reducible rfl)
            try simp only [Act.put, List.setIfInBounds_toArray, List.set_cons_zero, List.set_cons_succ]
            refine wpAnyH_take (i := 3) (oi := { dst := some 51, op := Op.load 9 (Operand.tmp 50), type := 9, pos := "l07_sync.go:35", after := #[{ on := 2, ground := Ground.data }], guard := none }) (v := ?_) rfl (by kernel_rfl) (by kernel_rfl) (by kernel_rfl) (fun _ _ _ h => h) (Or.inl ⟨by rfl, ?_⟩) hHeld ?_
            rotate_left
            · rintro w ⟨⟨z0, z1⟩, z2, z3, z4, z5⟩; go_simp; (try with_reducible rfl)
            try simp only [Act.put, List.setIfInBounds_toArray, List.set_cons_zero, List.set_cons_succ]
            refine wpAnyH_take (i := 4) (oi := { dst := some 52, op := Op.fieldAddr 28 (Operand.tmp 3) 2, type := 0, pos := "l07_sync.go:35", after := #[], guard := none }) (v := ?_) rfl (by kernel_rfl) (by kernel_rfl) (by kernel_rfl) (fun _ _ _ h => h) (Or.inl ⟨by rfl, ?_⟩) hHeld ?_
            rotate_left
            · rintro w ⟨⟨z0, z1⟩, z2, z3, z4, z5⟩; go_simp; (try with_reducible rfl)
            try simp only [Act.put, List.setIfInBounds_toArray, List.set_cons_zero, List.set_cons_succ]
            refine wpAnyH_take (i := 5) (oi := { dst := some 53, op := Op.load 2 (Operand.tmp 52), type := 2, pos := "l07_sync.go:35", after := #[{ on := 4, ground := Ground.data }], guard := none }) (v := ?_) rfl (by kernel_rfl) (by kernel_rfl) (by kernel_rfl) (fun _ _ _ h => h) (Or.inl ⟨by rfl, ?_⟩) hHeld ?_
            rotate_left
            · rintro w ⟨⟨z0, z1⟩, z2, z3, z4, z5⟩; go_simp; (try with_reducible rfl)
            try simp only [Act.put, List.setIfInBounds_toArray, List.set_cons_zero, List.set_cons_succ]
            refine wpAnyH_take (i := 6) (oi := { dst := some 54, op := Op.slice 9 (Operand.tmp 51) none (some (Operand.tmp 53)) none, type := 9, pos := "l07_sync.go:35", after := #[{ on := 3, ground := Ground.data }, { on := 5, ground := Ground.data }], guard := none }) (v := .string (t.extract 0 kk)) rfl (by kernel_rfl) (by kernel_rfl) (by kernel_rfl) (fun _ _ _ h => h) (Or.inl ⟨by rfl, ?_⟩) hHeld ?_
            · rintro w ⟨⟨z0, z1⟩, z2, z3, z4, z5⟩; go_simp; (try with_reducible rfl)
            try simp only [Act.put, List.setIfInBounds_toArray, List.set_cons_zero, List.set_cons_succ]
            refine wpAnyH_take (i := 7) (oi := { dst := some 55, op := Op.fieldAddr 28 (Operand.tmp 3) 3, type := 0, pos := "l07_sync.go:35", after := #[], guard := none }) (v := ?_) rfl (by kernel_rfl) (by kernel_rfl) (by kernel_rfl) (fun _ _ _ h => h) (Or.inl ⟨by rfl, ?_⟩) hHeld ?_
            rotate_left
            · rintro w ⟨⟨z0, z1⟩, z2, z3, z4, z5⟩; go_simp; (try with_reducible rfl)
            try simp only [Act.put, List.setIfInBounds_toArray, List.set_cons_zero, List.set_cons_succ]
            refine wpAnyH_take (i := 8) (oi := { dst := some 56, op := Op.load 9 (Operand.tmp 55), type := 9, pos := "l07_sync.go:35", after := #[{ on := 7, ground := Ground.data }], guard := none }) (v := ?_) rfl (by kernel_rfl) (by kernel_rfl) (by kernel_rfl) (fun _ _ _ h => h) (Or.inl ⟨by rfl, ?_⟩) hHeld ?_
            rotate_left
            · rintro w ⟨⟨z0, z1⟩, z2, z3, z4, z5⟩; go_simp; (try with_reducible rfl)
            try simp only [Act.put, List.setIfInBounds_toArray, List.set_cons_zero, List.set_cons_succ]
            refine wpAnyH_take (i := 9) (oi := { dst := some 57, op := Op.binOp BinOp.add 9 (Operand.tmp 54) (Operand.tmp 56) 9, type := 9, pos := "l07_sync.go:35", after := #[{ on := 6, ground := Ground.data }, { on := 8, ground := Ground.data }], guard := none }) (v := .string (t.extract 0 kk ++ tl)) rfl (by kernel_rfl) (by kernel_rfl) (by kernel_rfl) (fun _ _ _ h => h) (Or.inl ⟨by rfl, ?_⟩) hHeld ?_
            · rintro w ⟨⟨z0, z1⟩, z2, z3, z4, z5⟩; go_simp; (try simp only [ByteArray.size_append, ByteArray.size_extract]); omega
            try simp only [Act.put, List.setIfInBounds_toArray, List.set_cons_zero, List.set_cons_succ]
            refine wpAnyH_take (i := 10) (oi := { dst := some 58, op := Op.build 24 #[(0, Operand.tmp 49), (1, Operand.tmp 57)], type := 24, pos := "l07_sync.go:35", after := #[{ on := 1, ground := Ground.data }, { on := 9, ground := Ground.data }], guard := none }) (v := ?_) rfl (by kernel_rfl) (by kernel_rfl) (by kernel_rfl) (fun _ _ _ h => h) (Or.inl ⟨by rfl, ?_⟩) hHeld ?_
            rotate_left
            · rintro w ⟨⟨z0, z1⟩, z2, z3, z4, z5⟩; go_simp; (try with_reducible rfl)
            try simp only [Act.put, List.setIfInBounds_toArray, List.set_cons_zero, List.set_cons_succ]
            refine wpAnyH_take (i := 11) (oi := { dst := some 59, op := Op.build 33 #[(0, Operand.tmp 58)], type := 33, pos := "l07_sync.go:35", after := #[{ on := 10, ground := Ground.data }], guard := none }) (v := ?_) rfl (by kernel_rfl) (by kernel_rfl) (by kernel_rfl) (fun _ _ _ h => h) (Or.inl ⟨by rfl, ?_⟩) hHeld ?_
            rotate_left
            · rintro w ⟨⟨z0, z1⟩, z2, z3, z4, z5⟩; go_simp; (try with_reducible rfl)
            try simp only [Act.put, List.setIfInBounds_toArray, List.set_cons_zero, List.set_cons_succ]
            refine wpAnyH_take (i := 12) (oi := { dst := some 60, op := Op.build 37 #[(0, Operand.tmp 59)], type := 37, pos := "l07_sync.go:35", after := #[{ on := 11, ground := Ground.data }], guard := none }) (v := ?_) rfl (by kernel_rfl) (by kernel_rfl) (by kernel_rfl) (fun _ _ _ h => h) (Or.inl ⟨by rfl, ?_⟩) hHeld ?_
            rotate_left
            · rintro w ⟨⟨z0, z1⟩, z2, z3, z4, z5⟩; go_simp; (try with_reducible rfl)
            try simp only [Act.put, List.setIfInBounds_toArray, List.set_cons_zero, List.set_cons_succ]
            refine wpAnyH_ready (rs := [13]) (by kernel_rfl) (by simp) ?_
            refine AllReadyH.cons rfl (fun K hK => ?_) AllReadyH.nil
            go_simp
            refine hK.out _ _ (i0.keptD _ _ _) (fun hHeld => ?_)
            clear hK K
            try simp only [Act.put, List.setIfInBounds_toArray, List.set_cons_zero, List.set_cons_succ]
            refine wpAnyH_done (by kernel_rfl) ?_ _
            refine NoPanic.normal ?_
            have HD : Hid (FinRD w u) := i0.finD
            clear i i0 hHeld HS
            obtain ⟨d1, d2⟩ := HD.out (.int .i64 to) (.string (t.extract 0 kk ++ tl)) (.int .i64 0)
            go_wp2
            exact bodyPost_ret (results_cell_row Try.results14 _ _ (w.heap.size + 1 + 1) _ #[.int .i64 to, .string (t.extract 0 kk ++ tl), .int .i64 0] _ _ rfl d1 Try.underlying37 rfl infoRO) rfl ⟨_, rfl, HV.out, d2⟩
        · have HV : Hid (OnV n t f to k tl (outR 0 ⟨#[]⟩ 10)) := ⟨fun h => absurd ⟨s1, u1⟩ h, fun _ _ _ => rfl, fun _ _ h => absurd h s4, fun _ _ h => absurd h s4⟩
          have k3 : (f != n) = true := by simp [s4]
          clear s1 u1 s4 s2
          go_enter Try.func14, Try.ntmps14
          go_wp2_with (go_at_call 41; fail)
          refine calls_w (In3 w n t f to k tl) HI.out ?_
          clear HI
          intro u i
          refine (h1 u).mono ?_
          rintro r u1 ⟨rfl, hb⟩
          replace i := i.up hb
          clear hb
          obtain ⟨⟨y0, y1⟩, x0, x1, x2, x3⟩ := i.cells
          go_wp2_with (go_at_call 44; fail)
          refine calls_w (In3 w n t f to k tl) i ?_
          clear i y0 y1 x0 x1 x2 x3
          intro u i
          refine (h2 u).mono ?_
          rintro r u1 ⟨rfl, hu⟩
          obtain rfl := hu.symm
          obtain ⟨⟨y0, y1⟩, x0, x1, x2, x3⟩ := i.cells
          go_wp2_with (go_at_call 45; fail)
          refine calls_w (In3 w n t f to k tl) i ?_
          clear i y0 y1 x0 x1 x2 x3
          intro u i
          refine (illM_any 10 u).mono ?_
          rintro r u1 ⟨rfl, hb⟩
          replace i := i.up hb
          clear hb
          obtain ⟨r0, r1, r2, r3⟩ := i.rcells
          have HD : Hid _ := i.fin (.int .i64 0) (.string ⟨#[]⟩) (.int .i64 10)
          clear i
          go_wp2
          obtain ⟨d1, d2⟩ := HD.out
          exact bodyPost_ret (results_cell_row Try.results14 _ _ (w.heap.size + 1 + 1) _ #[.int .i64 0, .string ⟨#[]⟩, .int .i64 10] _ _ rfl d1 Try.underlying37 rfl infoRO) rfl ⟨_, rfl, HV.out, d2⟩
      · have HV : Hid (OnV n t f to k tl (outR 0 ⟨#[]⟩ 1)) := ⟨fun _ => rfl, fun _ h => absurd ⟨h.2.1, h.2.2⟩ s3, fun _ h => absurd ⟨h.2.1, h.2.2⟩ s3, fun _ h => absurd ⟨h.2.1, h.2.2⟩ s3⟩
        by_cases s6 : k < 0
        · have k1 : decide (k < 0) = true := decide_eq_true s6
          clear s1 s2 s3
          go_enter Try.func14, Try.ntmps14
          go_wp2_with (go_at_call 41; fail)
          refine calls_w (In3 w n t f to k tl) HI.out ?_
          clear HI
          intro u i
          refine (h1 u).mono ?_
          rintro r u1 ⟨rfl, hb⟩
          replace i := i.up hb
          clear hb
          obtain ⟨⟨y0, y1⟩, x0, x1, x2, x3⟩ := i.cells
          go_wp2_with (go_at_call 44; fail)
          refine calls_w (In3 w n t f to k tl) i ?_
          clear i y0 y1 x0 x1 x2 x3
          intro u i
          refine (h2 u).mono ?_
          rintro r u1 ⟨rfl, hu⟩
          obtain rfl := hu.symm
          obtain ⟨⟨y0, y1⟩, x0, x1, x2, x3⟩ := i.cells
          go_wp2_with (go_at_call 45; fail)
          refine calls_w (In3 w n t f to k tl) i ?_
          clear i y0 y1 x0 x1 x2 x3
          intro u i
          refine (illM_any 1 u).mono ?_
          rintro r u1 ⟨rfl, hb⟩
          replace i := i.up hb
          clear hb
          obtain ⟨r0, r1, r2, r3⟩ := i.rcells
          have HD : Hid _ := i.fin (.int .i64 0) (.string ⟨#[]⟩) (.int .i64 1)
          clear i
          go_wp2
          obtain ⟨d1, d2⟩ := HD.out
          exact bodyPost_ret (results_cell_row Try.results14 _ _ (w.heap.size + 1 + 1) _ #[.int .i64 0, .string ⟨#[]⟩, .int .i64 1] _ _ rfl d1 Try.underlying37 rfl infoRO) rfl ⟨_, rfl, HV.out, d2⟩
        · have k1 : decide (k < 0) = false := decide_eq_false s6
          have k2 : decide (400 < (tl.size : Int)) = true := decide_eq_true (by omega)
          clear s1 s2 s3
          go_enter Try.func14, Try.ntmps14
          go_wp2_with (go_at_call 41; fail)
          refine calls_w (In3 w n t f to k tl) HI.out ?_
          clear HI
          intro u i
          refine (h1 u).mono ?_
          rintro r u1 ⟨rfl, hb⟩
          replace i := i.up hb
          clear hb
          obtain ⟨⟨y0, y1⟩, x0, x1, x2, x3⟩ := i.cells
          go_wp2_with (go_at_call 44; fail)
          refine calls_w (In3 w n t f to k tl) i ?_
          clear i y0 y1 x0 x1 x2 x3
          intro u i
          refine (h2 u).mono ?_
          rintro r u1 ⟨rfl, hu⟩
          obtain rfl := hu.symm
          obtain ⟨⟨y0, y1⟩, x0, x1, x2, x3⟩ := i.cells
          go_wp2_with (go_at_call 45; fail)
          refine calls_w (In3 w n t f to k tl) i ?_
          clear i y0 y1 x0 x1 x2 x3
          intro u i
          refine (illM_any 1 u).mono ?_
          rintro r u1 ⟨rfl, hb⟩
          replace i := i.up hb
          clear hb
          obtain ⟨r0, r1, r2, r3⟩ := i.rcells
          have HD : Hid _ := i.fin (.int .i64 0) (.string ⟨#[]⟩) (.int .i64 1)
          clear i
          go_wp2
          obtain ⟨d1, d2⟩ := HD.out
          exact bodyPost_ret (results_cell_row Try.results14 _ _ (w.heap.size + 1 + 1) _ #[.int .i64 0, .string ⟨#[]⟩, .int .i64 1] _ _ rfl d1 Try.underlying37 rfl infoRO) rfl ⟨_, rfl, HV.out, d2⟩
    · have HV : Hid (OnV n t f to k tl (outR 0 ⟨#[]⟩ 1)) := ⟨fun _ => rfl, fun _ h => absurd h.1 s2, fun _ h => absurd h.1 s2, fun _ h => absurd h.1 s2⟩
      rw [decide_eq_false s2] at h2
      clear s1 s2
      go_enter Try.func14, Try.ntmps14
      go_wp2_with (go_at_call 41; fail)
      refine calls_w (In3 w n t f to k tl) HI.out ?_
      clear HI
      intro u i
      refine (h1 u).mono ?_
      rintro r u1 ⟨rfl, hb⟩
      replace i := i.up hb
      clear hb
      obtain ⟨⟨y0, y1⟩, x0, x1, x2, x3⟩ := i.cells
      go_wp2_with (go_at_call 44; fail)
      refine calls_w (In3 w n t f to k tl) i ?_
      clear i y0 y1 x0 x1 x2 x3
      intro u i
      refine (h2 u).mono ?_
      rintro r u1 ⟨rfl, hu⟩
      obtain rfl := hu.symm
      obtain ⟨⟨y0, y1⟩, x0, x1, x2, x3⟩ := i.cells
      go_wp2_with (go_at_call 45; fail)
      refine calls_w (In3 w n t f to k tl) i ?_
      clear i y0 y1 x0 x1 x2 x3
      intro u i
      refine (illM_any 1 u).mono ?_
      rintro r u1 ⟨rfl, hb⟩
      replace i := i.up hb
      clear hb
      obtain ⟨r0, r1, r2, r3⟩ := i.rcells
      have HD : Hid _ := i.fin (.int .i64 0) (.string ⟨#[]⟩) (.int .i64 1)
      clear i
      go_wp2
      obtain ⟨d1, d2⟩ := HD.out
      exact bodyPost_ret (results_cell_row Try.results14 _ _ (w.heap.size + 1 + 1) _ #[.int .i64 0, .string ⟨#[]⟩, .int .i64 1] _ _ rfl d1 Try.underlying37 rfl infoRO) rfl ⟨_, rfl, HV.out, d2⟩
  · have HV : Hid (OnV n t f to k tl (outR 0 ⟨#[]⟩ 1)) := ⟨fun _ => rfl, fun h => absurd h s1, fun h => absurd h s1, fun h => absurd h s1⟩
    rw [decide_eq_false s1] at h1
    clear s1 h2
    go_enter Try.func14, Try.ntmps14
    go_wp2_with (go_at_call 41; fail)
    refine calls_w (In3 w n t f to k tl) HI.out ?_
    clear HI
    intro u i
    refine (h1 u).mono ?_
    rintro r u1 ⟨rfl, hb⟩
    replace i := i.up hb
    clear hb
    obtain ⟨⟨y0, y1⟩, x0, x1, x2, x3⟩ := i.cells
    go_wp2_with (go_at_call 45; fail)
    refine calls_w (In3 w n t f to k tl) i ?_
    clear i y0 y1 x0 x1 x2 x3
    intro u i
    refine (illM_any 1 u).mono ?_
    rintro r u1 ⟨rfl, hb⟩
    replace i := i.up hb
    clear hb
    obtain ⟨r0, r1, r2, r3⟩ := i.rcells
    have HD : Hid _ := i.fin (.int .i64 0) (.string ⟨#[]⟩) (.int .i64 1)
    clear i
    go_wp2
    obtain ⟨d1, d2⟩ := HD.out
    exact bodyPost_ret (results_cell_row Try.results14 _ _ (w.heap.size + 1 + 1) _ #[.int .i64 0, .string ⟨#[]⟩, .int .i64 1] _ _ rfl d1 Try.underlying37 rfl infoRO) rfl ⟨_, rfl, HV.out, d2⟩
end Go.Proofs.Ytmbeanimjmfddaa.st
