/-
  The model's WindowTake in the same epoch, over a slice with a place: what the plain function tells; no old block turns. No condition.
-/
import Derived.Test.YtodcjhckkbmikaaDoorTakeM2
import Derived.Test.YtodcjhckkbmikaaDoorTakeR
namespace Go.Proofs.YtodcjhckkbmikaaDoor.wi
open Go.ChangeShapes Go.WideShapes Go.ChangeAt Go.RowKit
open Classical
set_option linter.unusedVariables false

theorem minM_any (a b : Int) (w : World) : Calls Tryd.prog 15 #[.int .i64 a, .int .i64 b] w fun r w' => r = .returned (.int .i64 (min a b)) ∧ w' = w := by
  by_cases h : a < b
  · rw [Int.min_eq_left (by omega)]
    go_enter Tryd.func15, Tryd.ntmps15
    go_wp2
    go_ret
    exact ⟨rfl, rfl⟩
  · rw [Int.min_eq_right (by omega)]
    go_enter Tryd.func15, Tryd.ntmps15
    go_wp2
    go_ret
    exact ⟨rfl, rfl⟩
theorem maxM_max (a b : Int) (w : World) : Calls Tryd.prog 14 #[.int .i64 a, .int .i64 b] w fun r w' => r = .returned (.int .i64 (max a b)) ∧ w' = w := by
  by_cases h : b < a
  · rw [Int.max_eq_left (by omega)]
    have := maxM_any a b w
    rwa [if_pos h] at this
  · rw [Int.max_eq_right (by omega)]
    have := maxM_any a b w
    rwa [if_neg h] at this
def There (t : Int) (s : List Int) (c : Int) (k : Nat) : Prop := c = t ∨ c ∈ s.take k
theorem there_succ {t : Int} {s : List Int} {c : Int} {k : Nat} (hk : k < s.length) : There t s c (k + 1) ↔ There t s c k ∨ s.getD k 0 = c := by
  unfold There
  rw [List.take_succ_eq_append_getElem hk]
  have e1 : s.getD k 0 = s[k] := by simp [List.getD, List.getElem?_eq_getElem hk]
  rw [e1]
  simp only [List.mem_append, List.mem_singleton]
  constructor
  · rintro (h | h | h)
    · exact .inl (.inl h)
    · exact .inl (.inr h)
    · exact .inr h.symm
  · rintro ((h | h) | h)
    · exact .inl h
    · exact .inr (.inl h)
    · exact .inr (.inr h.symm)
theorem there_end {e t : Int} {s : List Int} {c : Int} (hc : 0 ≤ c) : There t s c s.length ↔ Told e t s e c := by
  unfold There Told
  rw [List.take_length]
  constructor
  · rintro (h | h)
    · exact ⟨rfl, .inl ⟨by omega, h⟩⟩
    · exact ⟨rfl, .inr h⟩
  · rintro ⟨_, h | h⟩
    · exact .inl h.2
    · exact .inr h

/-- what is known while the new window is filled -/
structure InLm (w : World) (e t : Int) (v : Value) (q : Nat) (T : Int) (v' : Value) (l : List Int) (u : World) : Prop where
  base : InMm w e t v u
  out : u.heap[q]? = some (.cells #[.int .i64 e, .int .i64 T, v'] 25 (0, 0))
  row : u.ownsRow (q + 1) 2 1 v' l.length (l.map (Value.int .i64))
  qN : w.heap.size + 1 < q
theorem InLm.cells {w u : World} {e t : Int} {v : Value} {q : Nat} {T : Int} {v' : Value} {l : List Int} (h : InLm w e t v q T v' l u) :
    (u.cell? ⟨w.heap.size, 0, none⟩ = some (.int .i64 e) ∧ u.cell? ⟨w.heap.size, 1, none⟩ = some (.int .i64 t) ∧ u.cell? ⟨w.heap.size, 2, none⟩ = some v) ∧
    (u.cell? ⟨q, 0, none⟩ = some (.int .i64 e) ∧ u.cell? ⟨q, 1, none⟩ = some (.int .i64 T) ∧ u.cell? ⟨q, 2, none⟩ = some v') ∧ u.frozen? ⟨q, 2, none⟩ = false := by
  obtain ⟨a, b, c, _⟩ := win_cells h.base.win
  obtain ⟨x, y, z, f⟩ := win_cells h.out
  exact ⟨⟨a, b, c⟩, ⟨x, y, z⟩, f 2⟩
theorem InLm.up {w u u' : World} {e t : Int} {v : Value} {q : Nat} {T : Int} {v' : Value} {l : List Int} (h : InLm w e t v q T v' l u) (hb : Below u.heap.size u u') : InLm w e t v q T v' l u' :=
  ⟨h.base.up hb, (hb.block _ (heap_lt h.out)).trans h.out, row_up h.row hb, h.qN⟩
theorem InLm.drew {w u : World} {e t : Int} {v : Value} {q : Nat} {T : Int} {v' : Value} {l : List Int} (h : InLm w e t v q T v' l u) : InLm w e t v q T v' l u.drew := ⟨h.base.drew, h.out, h.row, h.qN⟩
theorem InLm.size {w u : World} {e t : Int} {v : Value} {q : Nat} {T : Int} {v' : Value} {l : List Int} (h : InLm w e t v q T v' l u) : q + 1 ≤ u.heap.size := heap_lt h.out
theorem InLm.put {w u u' : World} {e t : Int} {v : Value} {q : Nat} {T : Int} {v' v1 : Value} {l l' : List Int} (h : InLm w e t v q T v' l u) (hb : Below u.heap.size u u') (hrow : u'.ownsRow (q + 1) 2 1 v1 l'.length (l'.map (Value.int .i64))) :
    InLm w e t v q T v1 l' (u'.setCell ⟨q, 2, none⟩ v1) := by
  have h' := h.up hb
  have hg : u'.grownBy (u'.setCell ⟨q, 2, none⟩ v1) (some q) := by
    refine ⟨rfl, rfl, rfl, by simp [World.setCell], fun j _ hne => heap_setCell_other _ _ _ _ (fun hh => hne (by rw [hh]))⟩
  have hqN := h.qN
  refine ⟨⟨h'.base.below.grown hg h'.base.below.size (fun j hj => by cases hj; omega), (hg.block _ (heap_lt h'.base.win) (by simp; omega)).trans h'.base.win, (hg.block _ (heap_lt h'.base.res) (by simp; omega)).trans h'.base.res⟩, ?_, hrow.kept hg (.inr (fun hh => ?_)), h.qN⟩
  · exact heap_setCell_same u' q 2 _ _ v1 h'.out
  · have := row_block' hrow q hh
    omega
theorem take_snoc {s : List Int} {k : Nat} (h : k < s.length) : s.take (k + 1) = s.take k ++ [s.getD k 0] := by
  rw [List.take_succ_eq_append_getElem h]
  simp [List.getD, List.getElem?_eq_getElem h]

set_option maxRecDepth 20000 in
set_option maxHeartbeats 8000000 in
theorem takeM_row (e t : Int) (b0 off cap : Nat) (s : List Int) (c : Int) (w : World) (hb : b0 < w.heap.size) (hR : Row w b0 off s) (h : RightW e t s ∧ RightG 0 e c 0) (ho : ¬ Old e c e t) :
    Calls Tryd.prog 7 #[.agg #[.int .i64 e, .int .i64 t, .slice (some ⟨b0, off, none⟩) s.length cap], .int .i64 e, .int .i64 c] w fun r w' => Below w.heap.size w w' ∧ OutIs w.heap.size (takeA e t s e c) r w' := by
  have HI0 : Hid (InMm w e t (.slice (some ⟨b0, off, none⟩) s.length cap) _) := inMm_start w e t _
  have HV : Hid (∀ u, Below w.heap.size w u → SliceIs u (.slice (some ⟨b0, off, none⟩) s.length cap) s) := fun u hu => SliceIs.up (.inr ⟨b0, off, cap, hb, rfl, hR⟩) hu
  have HRW : Hid (∀ u, Below w.heap.size w u → Row u b0 off s) := fun u hu => hR.below hu hb
  have hs : s.length ≤ maxLen := Nat.le_trans h.1.2.2.1 (by decide)
  have d2 := decide_eq_true h.2.2.1
  have d3 := decide_eq_true h.2.2.2.1
  have ht := h.1.2.1
  have hlen := h.1.2.2.1
  have hc0 := h.2.2.2.1
  have hnl : ¬ e < e := by omega
  have hno : ¬ c < t - 16 := fun hh => ho (.inr ⟨rfl, hh⟩)
  have HTA : Hid (Told e t s e c → takeA e t s e c = ((0, 0, []), 7)) := fun ht => takeA_there h ho ht
  have HSA : Hid (¬ Told e t s e c → takeA e t s e c = ((e, max c t, newSeen t s c), 0)) := fun ht => takeA_same h ho ht hnl
  obtain ⟨A, hA⟩ : ∃ A, A = takeA e t s e c := ⟨_, rfl⟩
  rw [← hA] at HTA HSA ⊢
  clear hA
  go_enter Tryd.func7, Tryd.ntmps7
  go_wp2_with (go_at_call 9; fail)
  refine calls_w (InMm w e t (.slice (some ⟨b0, off, none⟩) s.length cap)) HI0.out ?_
  clear HI0
  intro u0 i0
  refine (windowM_any e t _ s u0 hs (HV.out _ i0.below)).mono ?_
  rintro r w1 ⟨rfl, hb1⟩
  have i1 := i0.up hb1
  clear i0 hb1 HV
  rw [decide_eq_true h.1]
  obtain ⟨x0, x1, x2, _⟩ := win_cells i1.win
  have HI1 : Hid (InMm w e t (.slice (some ⟨b0, off, none⟩) s.length cap) w1) := i1
  clear i1 hR ho
  have HT0 : Hid ((c == t) = decide (There t s c 0)) := by
    show _ = _
    simp [There, BEq.beq]
  go_wp2_with (go_at_call 19; (with_reducible refine (is_any _ _ _ _).mono ?_); rintro r w' ⟨rfl, hw'⟩; obtain rfl := hw'.symm)
  go_loopw [7, 8] (fun th i u => ∃ k : Nat, k ≤ s.length ∧ i = .int .i64 k ∧ th = .bool (decide (There t s c k)) ∧ Hid (InMm w e t (.slice (some ⟨b0, off, none⟩) s.length cap) u)) (fun _ i _ => s.length - (intOf i).toNat)
  case atStart => exact ⟨0, Nat.zero_le _, rfl, by rw [HT0.out], HI1⟩
  case round =>
    clear HI1 x0 x1 x2
    obtain ⟨k, hk, rfl, rfl, HI⟩ := hrel
    obtain ⟨x0, x1, x2, _⟩ := win_cells HI.out.win
    by_cases hlt : k < s.length
    · have hcell := HRW.out wr HI.out.below k hlt
      have HS : Hid (There t s c (k + 1) ↔ There t s c k ∨ s.getD k 0 = c) := there_succ hlt
      obtain ⟨x, hx⟩ : ∃ x, x = s.getD k 0 := ⟨_, rfl⟩
      rw [← hx] at hcell HS
      clear hx
      by_cases hth : There t s c k
      · have e1 : decide (There t s c k) = true := decide_eq_true hth
        have HN : Hid (decide (There t s c (k + 1)) = true) := decide_eq_true (HS.out.2 (.inl hth))
        rw [e1]
        clear hth e1 HS
        go_wp2
        exact ⟨⟨k + 1, by omega, by go_num, by rw [HN.out], HI⟩, by simp [intOf]; omega⟩
      · have e1 : decide (There t s c k) = false := decide_eq_false hth
        by_cases hxc : x = c
        · have hq : (x == c) = true := by simp [hxc]
          have HN : Hid (decide (There t s c (k + 1)) = true) := decide_eq_true (HS.out.2 (.inr hxc))
          rw [e1]
          clear hth e1 HS hxc
          go_wp2
          exact ⟨⟨k + 1, by omega, by go_num, by rw [HN.out], HI⟩, by simp [intOf]; omega⟩
        · have hq : (x == c) = false := by simp [hxc]
          have HN : Hid (decide (There t s c (k + 1)) = false) := decide_eq_false (fun hh => (HS.out.1 hh).elim hth hxc)
          rw [e1]
          clear hth e1 HS hxc
          go_wp2
          exact ⟨⟨k + 1, by omega, by go_num, by rw [HN.out], HI⟩, by simp [intOf]; omega⟩
    · obtain rfl : k = s.length := by omega
      by_cases hth : There t s c s.length
      · have e1 : decide (There t s c s.length) = true := decide_eq_true hth
        have hAA := HTA.out ((there_end hc0.1).1 hth)
        subst hAA
        have HOI : Hid (∀ w', OutIs w.heap.size ((0, 0, []), 7) (.returned (.agg #[.int .i64 0, .int .i64 0, .slice none 0 0, .int .i64 7])) w') := fun w' => out_ill _ _ _
        rw [e1]
        clear hth e1 HTA HSA HT0 HRW
        have hres := HI.out.res
        have HB1 : Hid (Below w.heap.size w wr) := HI.out.below
        clear HI
        go_wp2_with (first | (go_at_call 20; (with_reducible refine (illM_any _ _).mono ?_); rintro r w2 ⟨rfl, hb2⟩; have hres2 := (hb2.block _ (heap_lt hres)).trans hres; have HB2 : Hid (Below w.heap.size w w2) := HB1.out.trans (hb2.mono HB1.out.size); clear hb2) | (refine wpList_store_row rfl 29 _ _ rfl (w.heap.size + 1) _ rfl rfl _ _ hres2 infoWO (by rfl) (by simp [Value.oneCell']) ?_))
        exact bodyPost_ret (results_cell_row Tryd.results7 _ _ (w.heap.size + 1) _ _ _ _ rfl (setRow_heap _ _ _ _ _ _ hres2) Tryd.underlying29 rfl infoWO) rfl ⟨below_setRow HB2.out (by omega) _, HOI.out _⟩
      · have e1 : decide (There t s c s.length) = false := decide_eq_false hth
        have hAA := HSA.out (fun hh => hth ((there_end hc0.1).2 hh))
        rw [← endL_eq] at hAA
        obtain ⟨T, hTT⟩ : ∃ T, T = max c t := ⟨_, rfl⟩
        obtain ⟨lo, hlo⟩ : ∃ lo, lo = min c t := ⟨_, rfl⟩
        have hT1 : -1 ≤ T ∧ T ≤ 2000 := by omega
        have hl1 : -1 ≤ lo ∧ lo ≤ 2000 := by omega
        have HMX : Hid (∀ u, Calls Tryd.prog 14 #[.int .i64 c, .int .i64 t] u fun r w' => r = .returned (.int .i64 T) ∧ w' = u) := fun u => by rw [hTT]; exact maxM_max c t u
        have HMN : Hid (∀ u, Calls Tryd.prog 15 #[.int .i64 c, .int .i64 t] u fun r w' => r = .returned (.int .i64 lo) ∧ w' = u) := fun u => by rw [hlo]; exact minM_any c t u
        rw [← hTT, ← hlo] at hAA
        clear hTT hlo
        subst hAA
        rw [e1]
        clear hth e1 HTA HSA HT0
        have m0 : w.heap.size < wr.heap.size := heap_lt HI.out.win
        have m1 : ¬ w.heap.size = wr.heap.size := by omega
        have m2 : ¬ wr.heap.size = w.heap.size := by omega
        have m3 : w.heap.size + 1 < wr.heap.size := heap_lt HI.out.res
        go_wp2_with (first | (go_at_call 14; (with_reducible refine (HMX.out _).mono ?_); rintro r w' ⟨rfl, hw'⟩; obtain rfl := hw'.symm) | (go_at_call 15; (with_reducible refine (HMN.out _).mono ?_); rintro r w' ⟨rfl, hw'⟩; obtain rfl := hw'.symm))
        have HL0 : Hid (InLm w e t (.slice (some ⟨b0, off, none⟩) s.length cap) wr.heap.size T (.slice none 0 0) (stepL lo T [] (decide (lo < 0)) (s.take 0)).1 (wr.alloc (.cells #[.int .i64 e, .int .i64 T, .slice none 0 0] 25))) := ⟨HI.out.up ((Below.refl _ _).alloc (Nat.le_refl _) _), heap_alloc_new _ _, ⟨rfl, .inl ⟨rfl, rfl⟩⟩, m3⟩
        clear HMX HMN m0 m1 m2 m3 x0 x1 x2 HI
        obtain ⟨q, hq⟩ : ∃ q, q = wr.heap.size := ⟨_, rfl⟩
        rw [← hq] at HL0 ⊢
        clear hq
        go_loopw [11, 12] (fun dn i u => ∃ (k : Nat) (v' : Value), k ≤ s.length ∧ i = .int .i64 k ∧ dn = .bool (stepL lo T [] (decide (lo < 0)) (s.take k)).2 ∧ Hid (InLm w e t (.slice (some ⟨b0, off, none⟩) s.length cap) q T v' (stepL lo T [] (decide (lo < 0)) (s.take k)).1 u)) (fun _ i _ => s.length - (intOf i).toNat)
        case atStart => exact ⟨0, _, Nat.zero_le _, rfl, rfl, HL0⟩
        case round =>
          clear HL0
          obtain ⟨k, v', hk, rfl, rfl, HI⟩ := hrel
          have hll : (stepL lo T [] (decide (lo < 0)) (s.take k)).1.length ≤ 17 := by
            have h1 := stepL_length lo T (s.take k) [] (decide (lo < 0))
            have h2 : (s.take k).length ≤ s.length := by rw [List.length_take]; exact Nat.min_le_right _ _
            have h3 : (if decide (lo < 0) then 0 else 1) ≤ 1 := by split <;> omega
            simp only [List.length_nil, Nat.zero_add] at h1
            omega
          by_cases hlt2 : k < s.length
          · have HST : Hid (stepL lo T [] (decide (lo < 0)) (s.take (k + 1)) = (if (stepL lo T [] (decide (lo < 0)) (s.take k)).2 = false ∧ lo < s.getD k 0 then (putL (putL (stepL lo T [] (decide (lo < 0)) (s.take k)).1 lo T) (s.getD k 0) T, true) else (putL (stepL lo T [] (decide (lo < 0)) (s.take k)).1 (s.getD k 0) T, (stepL lo T [] (decide (lo < 0)) (s.take k)).2))) := by
              show _ = _
              rw [take_snoc hlt2]; exact stepL_snoc lo T _ _ _ _
            obtain ⟨l, d, hP⟩ : ∃ l d, stepL lo T [] (decide (lo < 0)) (s.take k) = (l, d) := ⟨_, _, rfl⟩
            have hcell := HRW.out _ HI.out.base.below k hlt2
            obtain ⟨x, hx⟩ : ∃ x, x = s.getD k 0 := ⟨_, rfl⟩
            rw [hP] at HST HI hll ⊢
            rw [← hx] at HST hcell
            have HC : Hid (∀ u, Below w.heap.size w u → u.cell? ⟨b0, off + k, none⟩ = some (.int .i64 x)) := fun u hu => by rw [hx]; exact HRW.out u hu k hlt2
            clear hP hx
            simp only at hll
            obtain ⟨⟨x0, x1, x2⟩, ⟨y0, y1, y2⟩, f2⟩ := HI.out.cells
            by_cases hcond : d = false ∧ lo < x
            · have HN : Hid (stepL lo T [] (decide (lo < 0)) (s.take (k + 1)) = (putL (putL l lo T) x T, true)) := by
                show _ = _
                rw [HST.out, if_pos hcond]
              obtain ⟨hd, hlx⟩ := hcond
              subst hd
              clear HST
              have n1 : ¬ w.heap.size = q := by have := HI.out.qN; omega
              have n2 : ¬ q = w.heap.size := by have := HI.out.qN; omega
              have n3 : ¬ b0 = q := by have := HI.out.qN; omega
              have n4 : ¬ q = b0 := by have := HI.out.qN; omega
              go_wp2_with (go_at_call 21; fail)
              refine (put_any (q + 1) v' l lo T wr HI.out.row (by omega) (by omega) (by omega) HI.out.size).mono ?_
              rintro r w2 ⟨v1, rfl, hb2, hrow2⟩
              obtain ⟨p1, k1, c1, rfl⟩ := row_shape hrow2
              have i2 := HI.out.up hb2
              have i3 := HI.out.put hb2 hrow2
              have hcell2 := HC.out _ i2.base.below
              clear hcell x0 x1 x2 y0 y1 y2 f2
              obtain ⟨⟨x0, x1, x2⟩, ⟨y0, y1, y2⟩, f2⟩ := i2.cells
              have hp1 := putL_length l lo T
              have HI3 : Hid (InLm w e t (.slice (some ⟨b0, off, none⟩) s.length cap) q T (.slice p1 k1 c1) (putL l lo T) (w2.setCell ⟨q, 2, none⟩ (.slice p1 k1 c1))) := i3
              clear i2 i3 hb2 hrow2 HI
              go_wp2_with fail
              refine wp_w (InLm w e t (.slice (some ⟨b0, off, none⟩) s.length cap) q T (.slice p1 k1 c1) (putL l lo T)) HI3.out ?_
              clear HI3 x0 x1 x2 y0 y1 y2 f2 hcell2
              intro u4 i4
              have HPU : Hid (∀ u, InLm w e t (.slice (some ⟨b0, off, none⟩) s.length cap) q T (.slice p1 k1 c1) (putL l lo T) u → Calls Tryd.prog 21 #[.slice p1 k1 c1, .int .i64 x, .int .i64 T] u fun r w' => ∃ v1, r = .returned v1 ∧ Below u.heap.size u w' ∧ w'.ownsRow (q + 1) 2 1 v1 (putL (putL l lo T) x T).length ((putL (putL l lo T) x T).map (Value.int .i64))) := fun u hu => put_any (q + 1) _ (putL l lo T) x T u hu.row (by omega) (by omega) (by omega) hu.size
              have HNN : Hid ((stepL lo T [] (decide (lo < 0)) (s.take (k + 1))).1 = putL (putL l lo T) x T ∧ (stepL lo T [] (decide (lo < 0)) (s.take (k + 1))).2 = true) := by rw [HN.out]; exact ⟨rfl, rfl⟩
              have HCC : Hid (Calls Tryd.prog 21 #[.slice p1 k1 c1, .int .i64 x, .int .i64 T] u4.drew fun r w' => ∃ p6 k6 c6, r = .returned (.slice p6 k6 c6) ∧ (w'.cell? ⟨w.heap.size, 2, none⟩ = some (.slice (some ⟨b0, off, none⟩) s.length cap) ∧ w'.cell? ⟨b0, off + k, none⟩ = some (.int .i64 x) ∧ w'.cell? ⟨q, 1, none⟩ = some (.int .i64 T) ∧ w'.cell? ⟨q, 2, none⟩ = some (.slice p1 k1 c1) ∧ w'.frozen? ⟨q, 2, none⟩ = false) ∧ InLm w e t (.slice (some ⟨b0, off, none⟩) s.length cap) q T (.slice p6 k6 c6) (stepL lo T [] (decide (lo < 0)) (s.take (k + 1))).1 (w'.setCell ⟨q, 2, none⟩ (.slice p6 k6 c6))) := by
                refine (HPU.out _ i4.drew).mono ?_
                rintro r w6 ⟨v6, rfl, hb6, hrow6⟩
                obtain ⟨p6, k6, c6, rfl⟩ := row_shape hrow6
                have i6 := i4.drew.up hb6
                obtain ⟨⟨_, _, z2⟩, ⟨_, z4, z5⟩, z6⟩ := i6.cells
                exact ⟨p6, k6, c6, rfl, ⟨z2, HC.out _ i6.base.below, z4, z5, z6⟩, by rw [HNN.out.1]; exact i4.drew.put hb6 hrow6⟩
              have hcell := HC.out _ i4.base.below
              obtain ⟨⟨_, _, x2⟩, ⟨_, y1, y2⟩, _⟩ := i4.cells
              clear i4 HPU HC HN
              refine put_region (R := fun p6 k6 c6 w' => InLm w e t (.slice (some ⟨b0, off, none⟩) s.length cap) q T (.slice p6 k6 c6) (stepL lo T [] (decide (lo < 0)) (s.take (k + 1))).1 (w'.setCell ⟨q, 2, none⟩ (.slice p6 k6 c6))) hlt2 hlen n1 n2 n3 n4 x2 hcell y1 y2 HCC.out ?_
              clear HCC x2 y1 y2 hcell
              intro p6 k6 c6 w6 hI6
              have HI5 : Hid (InLm w e t (.slice (some ⟨b0, off, none⟩) s.length cap) q T (.slice p6 k6 c6) (stepL lo T [] (decide (lo < 0)) (s.take (k + 1))).1 (w6.setCell ⟨q, 2, none⟩ (.slice p6 k6 c6))) := hI6
              clear hI6
              go_wp2
              exact ⟨⟨k + 1, _, by omega, by go_num, by rw [HNN.out.2], HI5⟩, by simp [intOf]; omega⟩
            · have HN : Hid (stepL lo T [] (decide (lo < 0)) (s.take (k + 1)) = (putL l x T, d)) := by
                show _ = _
                rw [HST.out, if_neg hcond]
              clear HST
              have n1 : ¬ w.heap.size = q := by have := HI.out.qN; omega
              have n2 : ¬ q = w.heap.size := by have := HI.out.qN; omega
              have n3 : ¬ b0 = q := by have := HI.out.qN; omega
              have n4 : ¬ q = b0 := by have := HI.out.qN; omega
              have HPU : Hid (∀ u, InLm w e t (.slice (some ⟨b0, off, none⟩) s.length cap) q T v' l u → Calls Tryd.prog 21 #[v', .int .i64 x, .int .i64 T] u fun r w' => ∃ v1, r = .returned v1 ∧ Below u.heap.size u w' ∧ w'.ownsRow (q + 1) 2 1 v1 (putL l x T).length ((putL l x T).map (Value.int .i64))) := fun u hu => put_any (q + 1) v' l x T u hu.row (by omega) (by omega) (by omega) hu.size
              have HNN : Hid ((stepL lo T [] (decide (lo < 0)) (s.take (k + 1))).1 = putL l x T ∧ (stepL lo T [] (decide (lo < 0)) (s.take (k + 1))).2 = d) := by rw [HN.out]; exact ⟨rfl, rfl⟩
              obtain ⟨pp, kk, cc', rfl⟩ := row_shape HI.out.row
              cases d
              · have hnx : ¬ lo < x := fun hh => hcond ⟨rfl, hh⟩
                have dx : decide (lo < x) = false := decide_eq_false hnx
                clear hcond hnx HN
                go_wp2_with fail
                have i4 := HI.out
                clear HI x0 x1 x2 y0 y1 y2 f2 hcell
                have HCC : Hid (Calls Tryd.prog 21 #[.slice pp kk cc', .int .i64 x, .int .i64 T] wr.drew fun r w' => ∃ p6 k6 c6, r = .returned (.slice p6 k6 c6) ∧ (w'.cell? ⟨w.heap.size, 2, none⟩ = some (.slice (some ⟨b0, off, none⟩) s.length cap) ∧ w'.cell? ⟨b0, off + k, none⟩ = some (.int .i64 x) ∧ w'.cell? ⟨q, 1, none⟩ = some (.int .i64 T) ∧ w'.cell? ⟨q, 2, none⟩ = some (.slice pp kk cc') ∧ w'.frozen? ⟨q, 2, none⟩ = false) ∧ InLm w e t (.slice (some ⟨b0, off, none⟩) s.length cap) q T (.slice p6 k6 c6) (stepL lo T [] (decide (lo < 0)) (s.take (k + 1))).1 (w'.setCell ⟨q, 2, none⟩ (.slice p6 k6 c6))) := by
                  refine (HPU.out _ i4.drew).mono ?_
                  rintro r w6 ⟨v6, rfl, hb6, hrow6⟩
                  obtain ⟨p6, k6, c6, rfl⟩ := row_shape hrow6
                  have i6 := i4.drew.up hb6
                  obtain ⟨⟨_, _, z2⟩, ⟨_, z4, z5⟩, z6⟩ := i6.cells
                  exact ⟨p6, k6, c6, rfl, ⟨z2, HC.out _ i6.base.below, z4, z5, z6⟩, by rw [HNN.out.1]; exact i4.drew.put hb6 hrow6⟩
                have hcell := HC.out _ i4.base.below
                obtain ⟨⟨_, _, x2⟩, ⟨_, y1, y2⟩, _⟩ := i4.cells
                clear i4 HPU HC
                refine put_region (R := fun p6 k6 c6 w' => InLm w e t (.slice (some ⟨b0, off, none⟩) s.length cap) q T (.slice p6 k6 c6) (stepL lo T [] (decide (lo < 0)) (s.take (k + 1))).1 (w'.setCell ⟨q, 2, none⟩ (.slice p6 k6 c6))) hlt2 hlen n1 n2 n3 n4 x2 hcell y1 y2 HCC.out ?_
                clear HCC x2 y1 y2 hcell
                intro p6 k6 c6 w6 hI6
                have HI5 : Hid (InLm w e t (.slice (some ⟨b0, off, none⟩) s.length cap) q T (.slice p6 k6 c6) (stepL lo T [] (decide (lo < 0)) (s.take (k + 1))).1 (w6.setCell ⟨q, 2, none⟩ (.slice p6 k6 c6))) := hI6
                clear hI6
                go_wp2
                exact ⟨⟨k + 1, _, by omega, by go_num, by rw [HNN.out.2], HI5⟩, by simp [intOf]; omega⟩
              · clear hcond HN
                go_wp2_with fail
                have i4 := HI.out
                clear HI x0 x1 x2 y0 y1 y2 f2 hcell
                have HCC : Hid (Calls Tryd.prog 21 #[.slice pp kk cc', .int .i64 x, .int .i64 T] wr.drew fun r w' => ∃ p6 k6 c6, r = .returned (.slice p6 k6 c6) ∧ (w'.cell? ⟨w.heap.size, 2, none⟩ = some (.slice (some ⟨b0, off, none⟩) s.length cap) ∧ w'.cell? ⟨b0, off + k, none⟩ = some (.int .i64 x) ∧ w'.cell? ⟨q, 1, none⟩ = some (.int .i64 T) ∧ w'.cell? ⟨q, 2, none⟩ = some (.slice pp kk cc') ∧ w'.frozen? ⟨q, 2, none⟩ = false) ∧ InLm w e t (.slice (some ⟨b0, off, none⟩) s.length cap) q T (.slice p6 k6 c6) (stepL lo T [] (decide (lo < 0)) (s.take (k + 1))).1 (w'.setCell ⟨q, 2, none⟩ (.slice p6 k6 c6))) := by
                  refine (HPU.out _ i4.drew).mono ?_
                  rintro r w6 ⟨v6, rfl, hb6, hrow6⟩
                  obtain ⟨p6, k6, c6, rfl⟩ := row_shape hrow6
                  have i6 := i4.drew.up hb6
                  obtain ⟨⟨_, _, z2⟩, ⟨_, z4, z5⟩, z6⟩ := i6.cells
                  exact ⟨p6, k6, c6, rfl, ⟨z2, HC.out _ i6.base.below, z4, z5, z6⟩, by rw [HNN.out.1]; exact i4.drew.put hb6 hrow6⟩
                have hcell := HC.out _ i4.base.below
                obtain ⟨⟨_, _, x2⟩, ⟨_, y1, y2⟩, _⟩ := i4.cells
                clear i4 HPU HC
                refine put_region (R := fun p6 k6 c6 w' => InLm w e t (.slice (some ⟨b0, off, none⟩) s.length cap) q T (.slice p6 k6 c6) (stepL lo T [] (decide (lo < 0)) (s.take (k + 1))).1 (w'.setCell ⟨q, 2, none⟩ (.slice p6 k6 c6))) hlt2 hlen n1 n2 n3 n4 x2 hcell y1 y2 HCC.out ?_
                clear HCC x2 y1 y2 hcell
                intro p6 k6 c6 w6 hI6
                have HI5 : Hid (InLm w e t (.slice (some ⟨b0, off, none⟩) s.length cap) q T (.slice p6 k6 c6) (stepL lo T [] (decide (lo < 0)) (s.take (k + 1))).1 (w6.setCell ⟨q, 2, none⟩ (.slice p6 k6 c6))) := hI6
                clear hI6
                go_wp2
                exact ⟨⟨k + 1, _, by omega, by go_num, by rw [HNN.out.2], HI5⟩, by simp [intOf]; omega⟩
          · obtain rfl : k = s.length := by omega
            rw [List.take_length] at HI hll ⊢
            obtain ⟨l, d, hP⟩ : ∃ l d, stepL lo T [] (decide (lo < 0)) s = (l, d) := ⟨_, _, rfl⟩
            have HEL : Hid (endL lo T s = if d then l else putL l lo T) := by
              show _ = _
              unfold endL
              rw [hP]
            rw [hP] at HI hll ⊢
            clear hP
            simp only at hll
            obtain ⟨⟨x0, x1, x2⟩, ⟨y0, y1, y2⟩, f2⟩ := HI.out.cells
            have n1 : ¬ w.heap.size = q := by have := HI.out.qN; omega
            have n2 : ¬ q = w.heap.size := by have := HI.out.qN; omega
            obtain ⟨pp, kk, cc', rfl⟩ := row_shape HI.out.row
            cases d
            · have HE2 : Hid (endL lo T s = putL l lo T) := by rw [HEL.out]; rfl
              clear HEL
              go_wp2_with (go_at_call 21; fail)
              refine (put_any (q + 1) _ l lo T wr HI.out.row (by omega) (by omega) (by omega) HI.out.size).mono ?_
              rintro r w2 ⟨v1, rfl, hb2, hrow2⟩
              obtain ⟨p1, k1, c1, rfl⟩ := row_shape hrow2
              have i5 := HI.out.put hb2 hrow2
              have i2 := HI.out.up hb2
              clear x0 x1 x2 y0 y1 y2 f2
              obtain ⟨⟨x0, x1, x2⟩, ⟨y0, y1, y2⟩, f2⟩ := i2.cells
              have HI5 : Hid (InLm w e t (.slice (some ⟨b0, off, none⟩) s.length cap) q T (.slice p1 k1 c1) (endL lo T s) (w2.setCell ⟨q, 2, none⟩ (.slice p1 k1 c1))) := by rw [HE2.out]; exact i5
              clear i2 i5 hb2 hrow2 HI
              have HB9 : Hid (Below w.heap.size w (w2.setCell ⟨q, 2, none⟩ (.slice p1 k1 c1))) := HI5.out.base.below
              have HRW9 : Hid ((w2.setCell ⟨q, 2, none⟩ (.slice p1 k1 c1)).ownsRow (w.heap.size + 2) 2 1 (.slice p1 k1 c1) (endL lo T s).length ((endL lo T s).map (Value.int .i64))) := row_le HI5.out.row (by have := HI5.out.qN; omega)
              have hout := HI5.out.out
              have hres := HI5.out.base.res
              clear HI5
              go_wp2_with (first | (refine wpList_load_row rfl 25 _ rfl q rfl _ _ _ _ hout Tryd.underlying25 rfl infoW ?_) | (refine wpList_store_row rfl 29 _ _ rfl (w.heap.size + 1) _ rfl rfl _ _ hres infoWO (by rfl) (by simp [Value.oneCell']) ?_))
              exact bodyPost_ret (results_cell_row Tryd.results7 _ _ (w.heap.size + 1) _ _ _ _ rfl (setRow_heap _ _ _ _ _ _ hres) Tryd.underlying29 rfl infoWO) rfl ⟨below_setRow HB9.out (by omega) _, ⟨_, rfl, row_le (row_setRow HRW9.out (by omega)) (by omega)⟩⟩
            · have HE2 : Hid (endL lo T s = l) := by rw [HEL.out]; rfl
              clear HEL
              have HI5 : Hid (InLm w e t (.slice (some ⟨b0, off, none⟩) s.length cap) q T (.slice pp kk cc') (endL lo T s) wr) := by rw [HE2.out]; exact HI.out
              clear HI
              have HB9 : Hid (Below w.heap.size w wr) := HI5.out.base.below
              have HRW9 : Hid ((wr).ownsRow (w.heap.size + 2) 2 1 (.slice pp kk cc') (endL lo T s).length ((endL lo T s).map (Value.int .i64))) := row_le HI5.out.row (by have := HI5.out.qN; omega)
              have hout := HI5.out.out
              have hres := HI5.out.base.res
              clear HI5
              go_wp2_with (first | (refine wpList_load_row rfl 25 _ rfl q rfl _ _ _ _ hout Tryd.underlying25 rfl infoW ?_) | (refine wpList_store_row rfl 29 _ _ rfl (w.heap.size + 1) _ rfl rfl _ _ hres infoWO (by rfl) (by simp [Value.oneCell']) ?_))
              exact bodyPost_ret (results_cell_row Tryd.results7 _ _ (w.heap.size + 1) _ _ _ _ rfl (setRow_heap _ _ _ _ _ _ hres) Tryd.underlying29 rfl infoWO) rfl ⟨below_setRow HB9.out (by omega) _, ⟨_, rfl, row_le (row_setRow HRW9.out (by omega)) (by omega)⟩⟩
end Go.Proofs.YtodcjhckkbmikaaDoor.wi
