/-
  The program's Quarter and the model's, at every argument: what the plain function tells; no old block turns.
-/
import Derived.Test.YtjnfeohcimcgmaaDoorChaI0
import Derived.Test.YtjnfeohcimcgmaaDoorChaQuarter
import Derived.Laws.Tables
namespace Go.Proofs.YtjnfeohcimcgmaaDoor.cc
open Go.ChangeShapes Go.WideShapes Go.ChangeAt Go.RowKit
open Go.Proofs.YtjnfeohcimcgmaaDoor.sh (U bits_U wr_U)
set_option linter.unusedVariables false

def Word (n : Int) : Prop := 0 ≤ n ∧ n ≤ 4294967295
/-- what Quarter answers -/
def Told4 (a b c d x y z v : Int) : Prop := (¬ ((0 ≤ a ∧ a ≤ 4294967295) ∧ (0 ≤ b ∧ b ≤ 4294967295) ∧ (0 ≤ c ∧ c ≤ 4294967295) ∧ (0 ≤ d ∧ d ≤ 4294967295)) → x = 0 ∧ y = 0 ∧ z = 0 ∧ v = 0) ∧
  (((0 ≤ a ∧ a ≤ 4294967295) ∧ (0 ≤ b ∧ b ≤ 4294967295) ∧ (0 ≤ c ∧ c ≤ 4294967295) ∧ (0 ≤ d ∧ d ≤ 4294967295)) → x = m2a a b c d ∧ y = m2b a b c d ∧ z = m2c a b c d ∧ v = m2d a b c d)
theorem Told4.one {a b c d x y z v x' y' z' v' : Int} (h : Told4 a b c d x y z v) (h' : Told4 a b c d x' y' z' v') : x = x' ∧ y = y' ∧ z = z' ∧ v = v' := by
  by_cases hc : (0 ≤ a ∧ a ≤ 4294967295) ∧ (0 ≤ b ∧ b ≤ 4294967295) ∧ (0 ≤ c ∧ c ≤ 4294967295) ∧ (0 ≤ d ∧ d ≤ 4294967295)
  · obtain ⟨h0, h1, h2, h3⟩ := h.2 hc
    obtain ⟨k0, k1, k2, k3⟩ := h'.2 hc
    exact ⟨h0.trans k0.symm, h1.trans k1.symm, h2.trans k2.symm, h3.trans k3.symm⟩
  · obtain ⟨h0, h1, h2, h3⟩ := h.1 hc
    obtain ⟨k0, k1, k2, k3⟩ := h'.1 hc
    exact ⟨h0.trans k0.symm, h1.trans k1.symm, h2.trans k2.symm, h3.trans k3.symm⟩
theorem decW (n : Int) (h : 0 ≤ n ∧ n ≤ 4294967295) : decide (0 ≤ n ∧ n ≤ 4294967295) = true := decide_eq_true h
theorem decN (n : Int) (h : ¬ (0 ≤ n ∧ n ≤ 4294967295)) : decide (0 ≤ n ∧ n ≤ 4294967295) = false := decide_eq_false h
theorem infoF : (Tryd.prog.info? 47).map (·.size) = some 4 := by kernel_rfl

set_option maxRecDepth 20000 in
set_option maxHeartbeats 8000000 in
theorem implQuarter_any (a b c d : Int) (w : World) :
    Calls Tryd.prog 31 #[.agg #[.int .i64 a, .int .i64 b, .int .i64 c, .int .i64 d]] w fun e w' => ∃ x y z v, Told4 a b c d x y z v ∧ e = .returned (.agg #[.int .i64 x, .int .i64 y, .int .i64 z, .int .i64 v]) ∧ Below w.heap.size w w' := by
  have HB : Hid (Below w.heap.size w ((w.alloc (.cells #[.int .i64 a, .int .i64 b, .int .i64 c, .int .i64 d] 47)).alloc (.cells #[.int .i64 0, .int .i64 0, .int .i64 0, .int .i64 0] 47))) := ((Below.refl _ _).alloc (Nat.le_refl _) _).alloc (((Below.refl _ _).alloc (Nat.le_refl _) _).size) _
  by_cases ha : 0 ≤ a ∧ a ≤ 4294967295
  · have ea := decW a ha
    by_cases hb : 0 ≤ b ∧ b ≤ 4294967295
    · have eb := decW b hb
      by_cases hc : 0 ≤ c ∧ c ≤ 4294967295
      · have ec := decW c hc
        by_cases hd : 0 ≤ d ∧ d ≤ 4294967295
        · have ed := decW d hd
          obtain ⟨⟨a0, a1⟩, ⟨b0, b1⟩, ⟨c0, c1⟩, d0, d1⟩ := And.intro ha (And.intro hb (And.intro hc hd))
          have xa : IntKind.u32.wrap a = a := by rw [IntKind.wrap_u32]; omega
          have xb : IntKind.u32.wrap b = b := by rw [IntKind.wrap_u32]; omega
          have xc : IntKind.u32.wrap c = c := by rw [IntKind.wrap_u32]; omega
          have xd : IntKind.u32.wrap d = d := by rw [IntKind.wrap_u32]; omega
          obtain ⟨⟨p0, p1⟩, ⟨q0, q1⟩, ⟨r0, r1⟩, s0, s1⟩ := m_U a b c d
          have HT : Hid (∀ x y z v, x = m2a a b c d → y = m2b a b c d → z = m2c a b c d → v = m2d a b c d → Told4 a b c d x y z v) := fun x y z v e1 e2 e3 e4 => ⟨fun h => absurd ⟨ha, hb, hc, hd⟩ h, fun _ => ⟨e1, e2, e3, e4⟩⟩
          have HW : Hid (∀ x y z v : Int, Below w.heap.size w ((w.alloc (.cells #[.int .i64 a, .int .i64 b, .int .i64 c, .int .i64 d] 47)).alloc (.cells #[.int .i64 x, .int .i64 y, .int .i64 z, .int .i64 v] 47))) := fun x y z v => ((Below.refl _ _).alloc (Nat.le_refl _) _).alloc (((Below.refl _ _).alloc (Nat.le_refl _) _).size) _
          go_enter Tryd.func31, Tryd.ntmps31
          go_wp2_with (first | (go_at_call 64; refine (isWord_any _ _).mono ?_; rintro e w' ⟨rfl, hw'⟩; obtain rfl := hw'.symm; first | rw [ea] | rw [eb] | rw [ec] | rw [ed]) | (go_at_call 65; refine (four_any a b c d _ ha hb hc hd).mono ?_; rintro e w' ⟨rfl, hw'⟩; obtain rfl := hw'.symm; generalize m2a a b c d = x1 at *; generalize m2b a b c d = x2 at *; generalize m2c a b c d = x3 at *; generalize m2d a b c d = x4 at *))
          refine bodyPost_ret (results_cell_row Tryd.results31 _ _ (w.heap.size + 1) _ _ _ _ rfl (heap_alloc2_new _ _ _) Tryd.underlying47 rfl infoF) rfl ⟨x1, x2, x3, x4, HT.out _ _ _ _ rfl rfl rfl rfl, rfl, HW.out _ _ _ _⟩
        · have ed := decN d hd
          go_enter Tryd.func31, Tryd.ntmps31
          go_wp2_with (go_at_call 64; refine (isWord_any _ _).mono ?_; rintro e w' ⟨rfl, hw'⟩; obtain rfl := hw'.symm; first | rw [ea] | rw [eb] | rw [ec] | rw [ed])
          refine bodyPost_ret (results_cell_row Tryd.results31 _ _ (w.heap.size + 1) _ _ _ _ rfl (heap_alloc2_new _ _ _) Tryd.underlying47 rfl infoF) rfl ⟨0, 0, 0, 0, ⟨fun _ => ⟨rfl, rfl, rfl, rfl⟩, fun h => absurd h.2.2.2 hd⟩, rfl, HB.out⟩
      · have ec := decN c hc
        go_enter Tryd.func31, Tryd.ntmps31
        go_wp2_with (go_at_call 64; refine (isWord_any _ _).mono ?_; rintro e w' ⟨rfl, hw'⟩; obtain rfl := hw'.symm; first | rw [ea] | rw [eb] | rw [ec])
        refine bodyPost_ret (results_cell_row Tryd.results31 _ _ (w.heap.size + 1) _ _ _ _ rfl (heap_alloc2_new _ _ _) Tryd.underlying47 rfl infoF) rfl ⟨0, 0, 0, 0, ⟨fun _ => ⟨rfl, rfl, rfl, rfl⟩, fun h => absurd h.2.2.1 hc⟩, rfl, HB.out⟩
    · have eb := decN b hb
      go_enter Tryd.func31, Tryd.ntmps31
      go_wp2_with (go_at_call 64; refine (isWord_any _ _).mono ?_; rintro e w' ⟨rfl, hw'⟩; obtain rfl := hw'.symm; first | rw [ea] | rw [eb])
      refine bodyPost_ret (results_cell_row Tryd.results31 _ _ (w.heap.size + 1) _ _ _ _ rfl (heap_alloc2_new _ _ _) Tryd.underlying47 rfl infoF) rfl ⟨0, 0, 0, 0, ⟨fun _ => ⟨rfl, rfl, rfl, rfl⟩, fun h => absurd h.2.1 hb⟩, rfl, HB.out⟩
  · have ea := decN a ha
    go_enter Tryd.func31, Tryd.ntmps31
    go_wp2_with (go_at_call 64; refine (isWord_any _ _).mono ?_; rintro e w' ⟨rfl, hw'⟩; obtain rfl := hw'.symm; first | rw [ea])
    refine bodyPost_ret (results_cell_row Tryd.results31 _ _ (w.heap.size + 1) _ _ _ _ rfl (heap_alloc2_new _ _ _) Tryd.underlying47 rfl infoF) rfl ⟨0, 0, 0, 0, ⟨fun _ => ⟨rfl, rfl, rfl, rfl⟩, fun h => absurd h.1 ha⟩, rfl, HB.out⟩
theorem lt_of {w : World} {p : Nat} {o : Obj} (h : w.heap[p]? = some o) : p < w.heap.size := by
  rcases Nat.lt_or_ge p w.heap.size with h' | h'
  · exact h'
  · simp [Array.getElem?_eq_none h'] at h
theorem cellsF {w : World} {p : Nat} {c0 c1 c2 c3 : Value} {t : TypeId} (h : w.heap[p]? = some (.cells #[c0, c1, c2, c3] t (0, 0))) :
    w.cell? ⟨p, 0, none⟩ = some c0 ∧ w.cell? ⟨p, 1, none⟩ = some c1 ∧ w.cell? ⟨p, 2, none⟩ = some c2 ∧ w.cell? ⟨p, 3, none⟩ = some c3 ∧ (∀ j, w.frozen? ⟨p, j, none⟩ = false) := by
  refine ⟨?_, ?_, ?_, ?_, fun j => frozen_of_row _ _ _ _ _ h⟩ <;> (rw [cell_of_row _ _ _ _ _ _ h]; rfl)
theorem setF {w : World} {p : Nat} {c0 c1 c2 c3 : Value} {t : TypeId} (x y z v : Int) (h : w.heap[p]? = some (.cells #[c0, c1, c2, c3] t (0, 0))) :
    ((((w.setCell ⟨p, 0, none⟩ (.int .i64 x)).setCell ⟨p, 1, none⟩ (.int .i64 y)).setCell ⟨p, 2, none⟩ (.int .i64 z)).setCell ⟨p, 3, none⟩ (.int .i64 v)).heap[p]? = some (.cells #[.int .i64 x, .int .i64 y, .int .i64 z, .int .i64 v] t (0, 0)) := by
  have h0 := heap_setCell_same w p 0 _ t (.int .i64 x) h
  have h1 := heap_setCell_same _ p 1 _ t (.int .i64 y) h0
  have h2 := heap_setCell_same _ p 2 _ t (.int .i64 z) h1
  have h3 := heap_setCell_same _ p 3 _ t (.int .i64 v) h2
  simpa only [List.setIfInBounds_toArray, List.set_cons_zero, List.set_cons_succ] using h3
theorem calls_w4 {P : Program} {f : Nat} {args : Array Value} {w : World} {Q : Ending → World → Prop} (I : World → Prop) (hI : I w) (h : ∀ u, I u → Calls P f args u Q) : Calls P f args w Q := h w hI
theorem wordM4 (n : Int) (w : World) : Calls Tryd.prog 61 #[.int .i64 n] w fun e w' => e = .returned (.bool (decide (0 ≤ n ∧ n ≤ 4294967295))) ∧ w' = w := by
  by_cases h0 : 0 ≤ n
  · by_cases h1 : n ≤ 4294967295
    · have e : decide (0 ≤ n ∧ n ≤ 4294967295) = true := by simp [h0, h1]
      rw [e]
      go_enter Tryd.func61, Tryd.ntmps61
      go_wp2
      go_ret
      exact ⟨rfl, rfl⟩
    · have e : decide (0 ≤ n ∧ n ≤ 4294967295) = false := by simp [h1]
      rw [e]
      go_enter Tryd.func61, Tryd.ntmps61
      go_wp2
      go_ret
      exact ⟨rfl, rfl⟩
  · have e : decide (0 ≤ n ∧ n ≤ 4294967295) = false := by simp [h0]
    rw [e]
    go_enter Tryd.func61, Tryd.ntmps61
    go_wp2
    go_ret
    exact ⟨rfl, rfl⟩
set_option maxRecDepth 20000 in
set_option maxHeartbeats 8000000 in
theorem specQuarter_any (a b c d : Int) (w : World) :
    Calls Tryd.prog 32 #[.agg #[.int .i64 a, .int .i64 b, .int .i64 c, .int .i64 d]] w fun e w' => ∃ x y z v, Told4 a b c d x y z v ∧ e = .returned (.agg #[.int .i64 x, .int .i64 y, .int .i64 z, .int .i64 v]) ∧ Below w.heap.size w w' := by
  have HB : Hid (Below w.heap.size w ((w.alloc (.cells #[.int .i64 a, .int .i64 b, .int .i64 c, .int .i64 d] 47)).alloc (.cells #[.int .i64 0, .int .i64 0, .int .i64 0, .int .i64 0] 47))) := ((Below.refl _ _).alloc (Nat.le_refl _) _).alloc (((Below.refl _ _).alloc (Nat.le_refl _) _).size) _
  by_cases ha : 0 ≤ a ∧ a ≤ 4294967295
  · have ea := decW a ha
    by_cases hb : 0 ≤ b ∧ b ≤ 4294967295
    · have eb := decW b hb
      by_cases hc : 0 ≤ c ∧ c ≤ 4294967295
      · have ec := decW c hc
        by_cases hd : 0 ≤ d ∧ d ≤ 4294967295
        · have ed := decW d hd
          obtain ⟨⟨a0, a1⟩, ⟨b0, b1⟩, ⟨c0, c1⟩, d0, d1⟩ := And.intro ha (And.intro hb (And.intro hc hd))
          have xa : IntKind.u32.wrap a = a := by rw [IntKind.wrap_u32]; omega
          have xb : IntKind.u32.wrap b = b := by rw [IntKind.wrap_u32]; omega
          have xc : IntKind.u32.wrap c = c := by rw [IntKind.wrap_u32]; omega
          have xd : IntKind.u32.wrap d = d := by rw [IntKind.wrap_u32]; omega
          have HT : Hid (∀ x y z v, x = m2a a b c d → y = m2b a b c d → z = m2c a b c d → v = m2d a b c d → Told4 a b c d x y z v) := fun x y z v e1 e2 e3 e4 => ⟨fun h => absurd ⟨ha, hb, hc, hd⟩ h, fun _ => ⟨e1, e2, e3, e4⟩⟩
          have HAU : Hid (AllU [a, b, c, d]) := fun x hx => by
            simp only [List.mem_cons, List.not_mem_nil, or_false] at hx
            rcases hx with rfl | rfl | rfl | rfl
            · exact ha
            · exact hb
            · exact hc
            · exact hd
          have HQ : Hid (quarter [a, b, c, d] 0 1 2 3 = [m2a a b c d, m2b a b c d, m2c a b c d, m2d a b c d]) := by
            show _ = _
            rw [quarter_sets [a, b, c, d] 0 1 2 3 (by simp) (by simp) (by simp) (by simp) (by decide) (by decide) (by decide) (by decide) (by decide) (by decide)]
            rfl
          have hU4 := m_U a b c d
          go_enter Tryd.func32, Tryd.ntmps32
          go_wp2_with (first | (go_at_call 61; refine (wordM4 _ _).mono ?_; rintro e w' ⟨rfl, hw'⟩; obtain rfl := hw'.symm; first | rw [ea] | rw [eb] | rw [ec] | rw [ed]) | (go_at_call 66; fail))
          refine calls_w4 (fun u => Below w.heap.size w u ∧ u.heap[w.heap.size + 1]? = some (.cells #[.int .i64 0, .int .i64 0, .int .i64 0, .int .i64 0] 47 (0, 0)) ∧ RowU u (w.heap.size + 1 + 1) [a, b, c, d]) ?_ ?_
          · refine ⟨HB.out.alloc HB.out.size _, (Below.heap_alloc _ _ _ (by simp)).trans (heap_alloc2_new _ _ _), #[.int .u32 a, .int .u32 b, .int .u32 c, .int .u32 d], ?_, ?_⟩
            · have hs : ((w.alloc (.cells #[.int .i64 a, .int .i64 b, .int .i64 c, .int .i64 d] 47)).alloc (.cells #[.int .i64 0, .int .i64 0, .int .i64 0, .int .i64 0] 47)).heap.size = w.heap.size + 1 + 1 := by simp
              have h := heap_alloc_new ((w.alloc (.cells #[.int .i64 a, .int .i64 b, .int .i64 c, .int .i64 d] 47)).alloc (.cells #[.int .i64 0, .int .i64 0, .int .i64 0, .int .i64 0] 47)) (.cells #[.int .u32 a, .int .u32 b, .int .u32 c, .int .u32 d] 71)
              rw [hs] at h
              exact h
            · intro i hi
              match i, hi with
              | 0, _ => rfl
              | 1, _ => rfl
              | 2, _ => rfl
              | 3, _ => rfl
          · rintro u ⟨hBu, h1u, hRu⟩
            refine (quarterM_any (w.heap.size + 1 + 1) 4 4 [a, b, c, d] 0 1 2 3 u HAU.out rfl (by decide) (by decide) (by decide) (by decide) (by decide) hRu).mono ?_
            rintro e w3 ⟨rfl, hR3, hg3⟩
            rw [HQ.out] at hR3
            have HB3 : Hid (Below w.heap.size w w3) := hBu.grown hg3 hBu.size (fun k hk => by cases hk; omega)
            have h13 : w3.heap[w.heap.size + 1]? = some (.cells #[.int .i64 0, .int .i64 0, .int .i64 0, .int .i64 0] 47 (0, 0)) := (hg3.block _ (by rcases Nat.lt_or_ge (w.heap.size + 1) u.heap.size with h | h; exact h; rw [Array.getElem?_eq_none h] at h1u; cases h1u) (by simp)).trans h1u
            have v0 := hR3.cell 0 (by simp)
            have v1 := hR3.cell 1 (by simp)
            have v2 := hR3.cell 2 (by simp)
            have v3 := hR3.cell 3 (by simp)
            clear hR3 hg3 hBu h1u hRu HQ HAU
            simp only [List.getD_cons_zero, List.getD_cons_succ] at v0 v1 v2 v3
            obtain ⟨⟨p0, p1⟩, ⟨q0, q1⟩, ⟨r0, r1⟩, s0, s1⟩ := hU4
            generalize m2a a b c d = x1 at *
            generalize m2b a b c d = x2 at *
            generalize m2c a b c d = x3 at *
            generalize m2d a b c d = x4 at *
            obtain ⟨k0, k1, k2, k3, kf⟩ := cellsF h13
            have f0 := kf 0
            have f1 := kf 1
            have f2 := kf 2
            have f3 := kf 3
            have H13 : Hid _ := setF x1 x2 x3 x4 h13
            have HBS : Hid (∀ x y z v, Below w.heap.size w ((((w3.setCell ⟨w.heap.size + 1, 0, none⟩ x).setCell ⟨w.heap.size + 1, 1, none⟩ y).setCell ⟨w.heap.size + 1, 2, none⟩ z).setCell ⟨w.heap.size + 1, 3, none⟩ v)) := fun x y z v => (((HB3.out.setCell (p := ⟨_, 0, none⟩) (by show _ ≤ w.heap.size + 1; omega) _).setCell (p := ⟨_, 1, none⟩) (by show _ ≤ w.heap.size + 1; omega) _).setCell (p := ⟨_, 2, none⟩) (by show _ ≤ w.heap.size + 1; omega) _).setCell (p := ⟨_, 3, none⟩) (by show _ ≤ w.heap.size + 1; omega) _
            clear kf h13
            go_wp2_with fail
            go_region
            all_goals
              go_wp2_with fail
              exact bodyPost_ret (results_cell_row Tryd.results32 _ _ (w.heap.size + 1) _ _ _ _ rfl (show (World.drew _).heap[_]? = _ from H13.out) Tryd.underlying47 rfl infoF) rfl ⟨x1, x2, x3, x4, HT.out _ _ _ _ rfl rfl rfl rfl, rfl, (HBS.out _ _ _ _).drew⟩
        · have ed := decN d hd
          go_enter Tryd.func32, Tryd.ntmps32
          go_wp2_with (go_at_call 61; refine (wordM4 _ _).mono ?_; rintro e w' ⟨rfl, hw'⟩; obtain rfl := hw'.symm; first | rw [ea] | rw [eb] | rw [ec] | rw [ed])
          refine bodyPost_ret (results_cell_row Tryd.results32 _ _ (w.heap.size + 1) _ _ _ _ rfl (heap_alloc2_new _ _ _) Tryd.underlying47 rfl infoF) rfl ⟨0, 0, 0, 0, ⟨fun _ => ⟨rfl, rfl, rfl, rfl⟩, fun h => absurd h.2.2.2 hd⟩, rfl, HB.out⟩
      · have ec := decN c hc
        go_enter Tryd.func32, Tryd.ntmps32
        go_wp2_with (go_at_call 61; refine (wordM4 _ _).mono ?_; rintro e w' ⟨rfl, hw'⟩; obtain rfl := hw'.symm; first | rw [ea] | rw [eb] | rw [ec])
        refine bodyPost_ret (results_cell_row Tryd.results32 _ _ (w.heap.size + 1) _ _ _ _ rfl (heap_alloc2_new _ _ _) Tryd.underlying47 rfl infoF) rfl ⟨0, 0, 0, 0, ⟨fun _ => ⟨rfl, rfl, rfl, rfl⟩, fun h => absurd h.2.2.1 hc⟩, rfl, HB.out⟩
    · have eb := decN b hb
      go_enter Tryd.func32, Tryd.ntmps32
      go_wp2_with (go_at_call 61; refine (wordM4 _ _).mono ?_; rintro e w' ⟨rfl, hw'⟩; obtain rfl := hw'.symm; first | rw [ea] | rw [eb])
      refine bodyPost_ret (results_cell_row Tryd.results32 _ _ (w.heap.size + 1) _ _ _ _ rfl (heap_alloc2_new _ _ _) Tryd.underlying47 rfl infoF) rfl ⟨0, 0, 0, 0, ⟨fun _ => ⟨rfl, rfl, rfl, rfl⟩, fun h => absurd h.2.1 hb⟩, rfl, HB.out⟩
  · have ea := decN a ha
    go_enter Tryd.func32, Tryd.ntmps32
    go_wp2_with (go_at_call 61; refine (wordM4 _ _).mono ?_; rintro e w' ⟨rfl, hw'⟩; obtain rfl := hw'.symm; first | rw [ea])
    refine bodyPost_ret (results_cell_row Tryd.results32 _ _ (w.heap.size + 1) _ _ _ _ rfl (heap_alloc2_new _ _ _) Tryd.underlying47 rfl infoF) rfl ⟨0, 0, 0, 0, ⟨fun _ => ⟨rfl, rfl, rfl, rfl⟩, fun h => absurd h.1 ha⟩, rfl, HB.out⟩
end Go.Proofs.YtjnfeohcimcgmaaDoor.cc
