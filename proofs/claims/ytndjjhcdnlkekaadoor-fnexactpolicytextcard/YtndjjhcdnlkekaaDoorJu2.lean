/-
  The model's Judge at every policy, user and line: it tells what the first rule that fits tells; no old block turns. No condition.
-/
import Derived.Test.YtndjjhcdnlkekaaDoorJu0
import Derived.Test.YtndjjhcdnlkekaaDoorGl6
namespace Go.Proofs.YtndjjhcdnlkekaaDoor.rl
open Go.ChangeShapes Go.WideShapes Go.ChangeAt Go.RowKit
open Go.Proofs.YtndjjhcdnlkekaaDoor.sc (ret_b)
open Go.Proofs.YtndjjhcdnlkekaaDoor.wi (heap_lt calls_w wp_w)
open Go.Proofs.YtndjjhcdnlkekaaDoor.gb (fitB GFits fitsM_any)
open Classical
set_option linter.unusedVariables false

set_option maxHeartbeats 8000000 in
theorem judgeMc_any (v : Value) (l : List Ln) (u t : ByteArray) (w : World) (hl : l.length ≤ maxLen) (hz : ∀ r ∈ l, r.2.2.1.size ≤ maxLen ∧ r.2.2.2.size ≤ maxLen) (hv : SliceIs w v l) (hA : Asks l u t) :
    Calls Tryd.prog 48 #[v, .string u, .string t] w fun r w' => (∃ a b, r = .returned (.agg #[.int .i64 a, .int .i64 b]) ∧ JudgeIs l u t a b) ∧ Below w.heap.size w w' := by
  have HI : Hid (∀ x y, Below w.heap.size w (w.alloc (.cells #[x, y] 45)) ∧ rw.At (w.alloc (.cells #[x, y] 45)) w.heap.size #[x, y] 45) := fun x y => ⟨(Below.refl _ _).alloc (Nat.le_refl _) _, rw.At.new _ _ _⟩
  obtain ⟨p, cap, hvs⟩ := hv.shape
  have hl12 : l.length ≤ 12 := hA.1.1
  subst hvs
  have HR : Hid (∀ u1, Below w.heap.size w u1 → ∀ j, j < l.length → ∃ b off, p = some ⟨b, off, none⟩ ∧ u1.cell? ⟨b, off + j * 4, none⟩ = some (.int .i64 (l.getD j ln0).1) ∧ u1.cell? ⟨b, off + j * 4 + 1, none⟩ = some (.int .i64 (l.getD j ln0).2.1) ∧ u1.cell? ⟨b, off + j * 4 + 2, none⟩ = some (.string (l.getD j ln0).2.2.1) ∧ u1.cell? ⟨b, off + j * 4 + 3, none⟩ = some (.string (l.getD j ln0).2.2.2)) := fun u1 h1 j hj => by
    rcases hv.up h1 with ⟨p', c', rfl, _⟩ | ⟨b, off, c', hb, he, hr⟩
    · simp at hj
    · simp only [Value.slice.injEq] at he
      exact ⟨b, off, he.1, hr j hj⟩
  have HK : Hid (∀ k, k < l.length → LnR (l.getD k ln0)) := hA.1.2
  have H60 : Hid (t.size ≤ 60) := hA.2.2
  have HH : Hid (∀ j, j < l.length → Hits u t (l.getD j ln0) → (∀ i, i < j → ¬ Hits u t (l.getD i ln0)) → JudgeIs l u t (l.getD j ln0).1 (l.getD j ln0).2.1) := fun j hj h1 h2 => JudgeIs.hit hA hj h1 h2
  have HN : Hid ((∀ j, j < l.length → ¬ Hits u t (l.getD j ln0)) → JudgeIs l u t 0 0) := fun h => JudgeIs.none hA h
  have HHT : Hid (∀ x : Ln, Hits u t x ↔ (x.2.2.1 = ⟨#[42]⟩ ∨ x.2.2.1 = u) ∧ fitB x.2.2.2 t = true) := fun x => Iff.rfl
  obtain ⟨n, hnn⟩ : ∃ n, n = l.length := ⟨_, rfl⟩
  rw [← hnn] at hl12 HR HK HH HN ⊢
  clear hnn hz hv hA hl
  go_enter Tryd.func48, Tryd.ntmps48
  go_wp2_with fail
  refine wp_w (fun u1 => rw.Bel w u1 ∧ rw.At u1 w.heap.size #[.int .i64 0, .int .i64 0] 45) (HI.out _ _) ?_
  clear HI
  rintro u0 ⟨i0, a0⟩
  go_loopw [7] (fun i u1 => ∃ k : Nat, k ≤ n ∧ i = .int .i64 k ∧ Hid (∀ j, j < k → ¬ Hits u t (l.getD j ln0)) ∧ Hid (rw.Bel w u1 ∧ rw.At u1 w.heap.size #[.int .i64 0, .int .i64 0] 45)) (fun i _ => n - (intOf i).toNat)
  case atStart => exact ⟨0, Nat.zero_le _, rfl, fun j h => by omega, i0, a0⟩
  case round =>
    clear i0 a0
    obtain ⟨k, hk, rfl, HG, HU⟩ := hrel
    by_cases hlt : k < n
    · obtain ⟨b, off, rfl, c1, c2, c3, c4⟩ := HR.out wr HU.out.1 k hlt
      have HRk : Hid (∀ u1, Below w.heap.size w u1 → u1.cell? ⟨b, off + k * 4, none⟩ = some (.int .i64 (l.getD k ln0).1) ∧ u1.cell? ⟨b, off + k * 4 + 1, none⟩ = some (.int .i64 (l.getD k ln0).2.1)) := fun u1 h1 => by
        obtain ⟨b', off', e, h, h', _⟩ := HR.out u1 h1 k hlt
        simp only [Option.some.injEq, Addr.mk.injEq] at e
        obtain ⟨rfl, rfl, _⟩ := e
        exact ⟨h, h'⟩
      have HKk : Hid (LnR (l.getD k ln0)) := HK.out k hlt
      have HHk : Hid (Hits u t (l.getD k ln0) → JudgeIs l u t (l.getD k ln0).1 (l.getD k ln0).2.1) := fun h => HH.out k hlt h HG.out
      have HS : Hid (¬ Hits u t (l.getD k ln0) → ∀ j, j < k + 1 → ¬ Hits u t (l.getD j ln0)) := fun h j hj => by
        by_cases e : j = k
        · rw [e]; exact h
        · exact HG.out j (by omega)
      obtain ⟨x, hx⟩ : ∃ x, x = l.getD k ln0 := ⟨_, rfl⟩
      rw [← hx] at c1 c2 c3 c4 HKk HHk HS HRk
      clear hx
      obtain ⟨x1, x2, x3, x4⟩ := x
      dsimp only at c1 c2 c3 c4
      have hsx := user_star x3
      have hf := fun u1 => fitsM_any x4 t u1 HKk.out.2.2.1.2 H60.out
      have HHx : Hid (Hits u t (x1, x2, x3, x4) ↔ (x3 = ⟨#[42]⟩ ∨ x3 = u) ∧ fitB x4 t = true) := HHT.out _
      obtain ⟨z, hzz⟩ : ∃ z, z = fitB x4 t := ⟨_, rfl⟩
      rw [← hzz] at hf HHx
      clear hzz
      have HJ : Hid (Hits u t (x1, x2, x3, x4) → JudgeIs l u t x1 x2) := HHk.out
      clear HKk HHk HG
      by_cases hs1 : x3 = ⟨#[42]⟩ ∨ x3 = u
      · have ht2 : (x3.toList == [42]) = true ∨ (x3.toList == [42]) = false ∧ (x3.toList == u.toList) = true := by
          by_cases h : x3 = ⟨#[42]⟩
          · rw [hsx, decide_eq_true h]; exact .inl rfl
          · rw [hsx, decide_eq_false h]
            exact .inr ⟨rfl, ss.beqT (hs1.resolve_left h)⟩
        have HX2 : Hid (z = true → JudgeIs l u t x1 x2) := fun h => HJ.out (HHx.out.2 ⟨hs1, h⟩)
        have HX3 : Hid (z = false → ∀ j, j < k + 1 → ¬ Hits u t (l.getD j ln0)) := fun h => HS.out fun h' => by have := (HHx.out.1 h').2; rw [h] at this; cases this
        clear hsx hs1 HHx HS HJ
        rcases ht2 with e1 | ⟨e1, e2⟩
        all_goals
          go_wp2_with (go_at_call 46; fail)
          obtain ⟨i, a⟩ := HU.out
          clear HU c1 c2 c3 c4
          refine (hf _).mono ?_
          rintro r w2 ⟨rfl, hb⟩
          replace i := i.up hb
          replace a := a.up hb
          clear hb hf
          cases z
          · have HQ : Hid (∀ j, j < k + 1 → ¬ Hits u t (l.getD j ln0)) := HX3.out rfl
            have HB : Hid (rw.Bel w w2 ∧ rw.At w2 w.heap.size #[.int .i64 0, .int .i64 0] 45) := ⟨i, a⟩
            clear HX2 HX3 i a HRk
            go_wp2
            exact ⟨⟨k + 1, by omega, by go_num, HQ, HB⟩, by simp [intOf]; omega⟩
          · have HQ : Hid (JudgeIs l u t x1 x2) := HX2.out rfl
            obtain ⟨c1, c2⟩ := HRk.out w2 i
            have d0 := a.cell 0
            have d1 := a.cell 1
            have d2 := fun j => a.frozen j
            have HD : Hid (rw.At ((w2.drew.setCell ⟨w.heap.size, 0, none⟩ (.int .i64 x1)).setCell ⟨w.heap.size, 1, none⟩ (.int .i64 x2)) w.heap.size #[.int .i64 x1, .int .i64 x2] 45 ∧ Below w.heap.size w ((w2.drew.setCell ⟨w.heap.size, 0, none⟩ (.int .i64 x1)).setCell ⟨w.heap.size, 1, none⟩ (.int .i64 x2))) :=
              ⟨((a.up (rw.up_drew _)).set 0 _).set 1 _, ((show Below w.heap.size w w2 from i).drew.setCell (Nat.le_refl _) _).setCell (Nat.le_refl _) _⟩
            clear HX2 HX3 i a HRk
            go_wp2_with fail
            go_region
            go_wp2
            exact bodyPost_ret (results_cell_row Tryd.results48 _ _ w.heap.size _ _ _ _ rfl HD.out.1 Tryd.underlying45 rfl infoV) rfl ⟨⟨x1, x2, rfl, HQ.out⟩, HD.out.2⟩
      · have e1 : (x3.toList == [42]) = false := by rw [hsx]; exact decide_eq_false fun h => hs1 (.inl h)
        have e2 : (x3.toList == u.toList) = false := ss.beqF fun h => hs1 (.inr h)
        have HQ : Hid (∀ j, j < k + 1 → ¬ Hits u t (l.getD j ln0)) := HS.out fun h' => hs1 (HHx.out.1 h').1
        clear hsx hs1 HHx HS HJ hf HRk
        go_wp2
        exact ⟨⟨k + 1, by omega, by go_num, HQ, HU⟩, by simp [intOf]; omega⟩
    · obtain rfl : k = n := by omega
      have HF : Hid (JudgeIs l u t 0 0) := HN.out HG.out
      obtain ⟨i, a⟩ := HU.out
      have d0 := a.cell 0
      have d1 := a.cell 1
      have d2 := fun j => a.frozen j
      have HD : Hid (rw.At ((wr.setCell ⟨w.heap.size, 0, none⟩ (.int .i64 0)).setCell ⟨w.heap.size, 1, none⟩ (.int .i64 0)) w.heap.size #[.int .i64 0, .int .i64 0] 45 ∧ Below w.heap.size w ((wr.setCell ⟨w.heap.size, 0, none⟩ (.int .i64 0)).setCell ⟨w.heap.size, 1, none⟩ (.int .i64 0))) :=
        ⟨(a.set 0 _).set 1 _, ((show Below w.heap.size w wr from i).setCell (Nat.le_refl _) _).setCell (Nat.le_refl _) _⟩
      clear HG HN HH HK HHT HU i a
      go_wp2
      exact bodyPost_ret (results_cell_row Tryd.results48 _ _ w.heap.size _ _ _ _ rfl HD.out.1 Tryd.underlying45 rfl infoV) rfl ⟨⟨0, 0, rfl, HF.out⟩, HD.out.2⟩
theorem vret (w u : World) (i : rw.Bel w u) (a : rw.At u w.heap.size #[.int .i64 0, .int .i64 0] 45) : rw.At ((u.setCell ⟨w.heap.size, 0, none⟩ (.int .i64 0)).setCell ⟨w.heap.size, 1, none⟩ (.int .i64 0)) w.heap.size #[.int .i64 0, .int .i64 0] 45 ∧ Below w.heap.size w ((u.setCell ⟨w.heap.size, 0, none⟩ (.int .i64 0)).setCell ⟨w.heap.size, 1, none⟩ (.int .i64 0)) :=
  ⟨(a.set 0 _).set 1 _, ((show Below w.heap.size w u from i).setCell (Nat.le_refl _) _).setCell (Nat.le_refl _) _⟩
set_option maxHeartbeats 8000000 in
theorem judgeM_any (v : Value) (l : List Ln) (u t : ByteArray) (w : World) (hl : l.length ≤ maxLen) (hz : ∀ r ∈ l, r.2.2.1.size ≤ maxLen ∧ r.2.2.2.size ≤ maxLen) (hv : SliceIs w v l) (hu : u.size ≤ maxLen) (ht : t.size ≤ maxLen) :
    Calls Tryd.prog 27 #[v, .string u, .string t] w fun r w' => (∃ a b, r = .returned (.agg #[.int .i64 a, .int .i64 b]) ∧ JudgeIs l u t a b) ∧ Below w.heap.size w w' := by
  have HI : Hid (rw.Bel w (w.alloc (.cells #[.int .i64 0, .int .i64 0] 45)) ∧ rw.At (w.alloc (.cells #[.int .i64 0, .int .i64 0] 45)) w.heap.size #[.int .i64 0, .int .i64 0] 45) := ⟨(Below.refl _ _).alloc (Nat.le_refl _) _, rw.At.new _ _ _⟩
  have hp := fun u1 (h : Below w.heap.size w u1) => polM_any v l u1 hl hz (hv.up h)
  have hn := fun u1 => nm.spec_any u u1 hu
  have hj := fun u1 (h : Below w.heap.size w u1) (hA : Asks l u t) => judgeMc_any v l u t u1 hl hz (hv.up h) hA
  obtain ⟨p, cap, rfl⟩ := hv.shape
  have hl' := hl
  have hu' := hu
  have ht' := ht
  unfold maxLen at hl' hu' ht'
  have HNo : Hid (¬ Asks l u t → JudgeIs l u t 0 0) := fun h => JudgeIs.no h
  by_cases g1 : (400 : Int) < (l.length : Int)
  · have HF : Hid (JudgeIs l u t 0 0) := HNo.out fun h => by have := h.1.1; omega
    clear hp hn hj HNo hv hz
    go_enter Tryd.func27, Tryd.ntmps27
    go_wp2
    exact bodyPost_ret (results_cell_row Tryd.results27 _ _ w.heap.size _ _ _ _ rfl (rw.At.new w #[.int .i64 0, .int .i64 0] _) Tryd.underlying45 rfl infoV) rfl ⟨⟨0, 0, rfl, HF.out⟩, HI.out.1⟩
  · by_cases g2 : (8000 : Int) < (u.size : Int)
    · have HF : Hid (JudgeIs l u t 0 0) := HNo.out fun h => by
        have h1 := h.2.1
        rw [nm.nameB_long u (by omega)] at h1
        cases h1
      clear hp hn hj HNo hv hz
      go_enter Tryd.func27, Tryd.ntmps27
      go_wp2
      exact bodyPost_ret (results_cell_row Tryd.results27 _ _ w.heap.size _ _ _ _ rfl (rw.At.new w #[.int .i64 0, .int .i64 0] _) Tryd.underlying45 rfl infoV) rfl ⟨⟨0, 0, rfl, HF.out⟩, HI.out.1⟩
    · by_cases h1 : PolR l
      · rw [decide_eq_true h1] at hp
        by_cases h2 : nm.nameB u = true
        · rw [h2] at hn
          by_cases h3 : t.size ≤ 60
          · have h60 : ¬ (60 : Int) < (t.size : Int) := by omega
            have hA : Asks l u t := ⟨h1, h2, h3⟩
            have hj2 := fun u1 h => hj u1 h hA
            clear h1 h2 h3 hA hj HNo hv hz hl hu ht
            go_enter Tryd.func27, Tryd.ntmps27
            go_wp2_with (go_at_call 14; fail)
            refine calls_w (fun u1 => rw.Bel w u1 ∧ rw.At u1 w.heap.size #[.int .i64 0, .int .i64 0] 45) HI.out ?_
            clear HI
            rintro u0 ⟨i0, a0⟩
            refine (hp u0 i0).mono ?_
            rintro r u1 ⟨rfl, hb1⟩
            replace i0 := i0.up hb1
            replace a0 := a0.up hb1
            clear hb1 hp
            have HBB : Hid (rw.Bel w u1 ∧ rw.At u1 w.heap.size #[.int .i64 0, .int .i64 0] 45) := ⟨i0, a0⟩
            have HJ3 : Hid (Calls _ _ _ u1 _) := hj2 u1 i0
            clear i0 a0 hj2
            go_wp2_with (first | (go_at_call 31; (with_reducible refine (hn _).mono ?_); rintro r w' ⟨rfl, hw'⟩; obtain rfl := hw'.symm) | (go_at_call 48; fail))
            refine HJ3.out.mono ?_
            rintro r w2 ⟨⟨x, y, rfl, hJ⟩, hb⟩
            have i := HBB.out.1.up hb
            have a := HBB.out.2.up hb
            have HQ : Hid (JudgeIs l u t x y) := hJ
            have d0 := a.cell 0
            have d1 := a.cell 1
            have d2 := fun j => a.frozen j
            have HD : Hid (rw.At ((w2.setCell ⟨w.heap.size, 0, none⟩ (.int .i64 x)).setCell ⟨w.heap.size, 1, none⟩ (.int .i64 y)) w.heap.size #[.int .i64 x, .int .i64 y] 45 ∧ Below w.heap.size w ((w2.setCell ⟨w.heap.size, 0, none⟩ (.int .i64 x)).setCell ⟨w.heap.size, 1, none⟩ (.int .i64 y))) :=
              ⟨(a.set 0 _).set 1 _, ((show Below w.heap.size w w2 from i).setCell (Nat.le_refl _) _).setCell (Nat.le_refl _) _⟩
            clear hJ hb i a HBB HJ3
            go_wp2
            exact bodyPost_ret (results_cell_row Tryd.results27 _ _ w.heap.size _ _ _ _ rfl HD.out.1 Tryd.underlying45 rfl infoV) rfl ⟨⟨x, y, rfl, HQ.out⟩, HD.out.2⟩
          · have h60 : (60 : Int) < (t.size : Int) := by omega
            have HF : Hid (JudgeIs l u t 0 0) := HNo.out fun h => h3 h.2.2
            clear h1 h2 h3 hj HNo hv hz hl hu ht
            go_enter Tryd.func27, Tryd.ntmps27
            go_wp2_with (go_at_call 14; fail)
            refine calls_w (fun u1 => rw.Bel w u1 ∧ rw.At u1 w.heap.size #[.int .i64 0, .int .i64 0] 45) HI.out ?_
            clear HI
            rintro u0 ⟨i0, a0⟩
            refine (hp u0 i0).mono ?_
            rintro r u1 ⟨rfl, hb1⟩
            replace i0 := i0.up hb1
            replace a0 := a0.up hb1
            clear hb1 hp
            have d0 := a0.cell 0
            have d1 := a0.cell 1
            have d2 := fun j => a0.frozen j
            have HD : Hid _ := vret w u1 i0 a0
            clear i0 a0
            go_wp2_with (go_at_call 31; (with_reducible refine (hn _).mono ?_); rintro r w' ⟨rfl, hw'⟩; obtain rfl := hw'.symm)
            exact bodyPost_ret (results_cell_row Tryd.results27 _ _ w.heap.size _ _ _ _ rfl HD.out.1 Tryd.underlying45 rfl infoV) rfl ⟨⟨0, 0, rfl, HF.out⟩, HD.out.2⟩
        · have HF : Hid (JudgeIs l u t 0 0) := HNo.out fun h => h2 h.2.1
          rw [Bool.eq_false_iff.2 h2] at hn
          clear h1 h2 hj HNo hv hz hl hu ht
          go_enter Tryd.func27, Tryd.ntmps27
          go_wp2_with (go_at_call 14; fail)
          refine calls_w (fun u1 => rw.Bel w u1 ∧ rw.At u1 w.heap.size #[.int .i64 0, .int .i64 0] 45) HI.out ?_
          clear HI
          rintro u0 ⟨i0, a0⟩
          refine (hp u0 i0).mono ?_
          rintro r u1 ⟨rfl, hb1⟩
          replace i0 := i0.up hb1
          replace a0 := a0.up hb1
          clear hb1 hp
          have d0 := a0.cell 0
          have d1 := a0.cell 1
          have d2 := fun j => a0.frozen j
          have HD : Hid _ := vret w u1 i0 a0
          clear i0 a0
          go_wp2_with (go_at_call 31; (with_reducible refine (hn _).mono ?_); rintro r w' ⟨rfl, hw'⟩; obtain rfl := hw'.symm)
          exact bodyPost_ret (results_cell_row Tryd.results27 _ _ w.heap.size _ _ _ _ rfl HD.out.1 Tryd.underlying45 rfl infoV) rfl ⟨⟨0, 0, rfl, HF.out⟩, HD.out.2⟩
      · have HF : Hid (JudgeIs l u t 0 0) := HNo.out fun h => h1 h.1
        rw [decide_eq_false h1] at hp
        clear h1 hj HNo hv hz hl hu ht hn
        go_enter Tryd.func27, Tryd.ntmps27
        go_wp2_with (go_at_call 14; fail)
        refine calls_w (fun u1 => rw.Bel w u1 ∧ rw.At u1 w.heap.size #[.int .i64 0, .int .i64 0] 45) HI.out ?_
        clear HI
        rintro u0 ⟨i0, a0⟩
        refine (hp u0 i0).mono ?_
        rintro r u1 ⟨rfl, hb1⟩
        replace i0 := i0.up hb1
        replace a0 := a0.up hb1
        clear hb1 hp
        have d0 := a0.cell 0
        have d1 := a0.cell 1
        have d2 := fun j => a0.frozen j
        have HD : Hid _ := vret w u1 i0 a0
        clear i0 a0
        go_wp2
        exact bodyPost_ret (results_cell_row Tryd.results27 _ _ w.heap.size _ _ _ _ rfl HD.out.1 Tryd.underlying45 rfl infoV) rfl ⟨⟨0, 0, rfl, HF.out⟩, HD.out.2⟩
end Go.Proofs.YtndjjhcdnlkekaaDoor.rl
