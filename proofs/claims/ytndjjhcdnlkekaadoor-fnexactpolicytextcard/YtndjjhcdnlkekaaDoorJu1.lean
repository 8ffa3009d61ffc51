/-
  The program's Judge at every policy, user and line: it tells what the first rule that fits tells; no old block turns. No condition.
-/
import Derived.Test.YtndjjhcdnlkekaaDoorJu0
import Derived.Test.YtndjjhcdnlkekaaDoorGl5
import Derived.WalkMore
import Derived.Outline
namespace Go.Proofs.YtndjjhcdnlkekaaDoor.rl
open Go.ChangeShapes Go.WideShapes Go.ChangeAt Go.RowKit
open Go.Proofs.YtndjjhcdnlkekaaDoor.sc (ret_b)
open Go.Proofs.YtndjjhcdnlkekaaDoor.wi (heap_lt calls_w wp_w)
open Go.Proofs.YtndjjhcdnlkekaaDoor.gb (fitB GFits fitsI_any)
open Classical
set_option linter.unusedVariables false

/-- Judge at work: its answer's block -/
def InJ (w u : World) : Prop := Below w.heap.size w u ∧ rw.At u w.heap.size #[.int .i64 0, .int .i64 0] 45
theorem InJ.up {w u u' : World} (h : InJ w u) (hb : Below u.heap.size u u') : InJ w u' := ⟨h.1.trans (hb.mono h.1.size), h.2.up hb⟩
/-- and the rule in a variable of its own -/
def InK (w : World) (q : Nat) (x : Ln) (u : World) : Prop := InJ w u ∧ rw.At u q #[.int .i64 x.1, .int .i64 x.2.1, .string x.2.2.1, .string x.2.2.2] 26
theorem InK.up {w u u' : World} {q : Nat} {x : Ln} (h : InK w q x u) (hb : Below u.heap.size u u') : InK w q x u' := ⟨h.1.up hb, h.2.up hb⟩
theorem gfits_of {g t : ByteArray} (h : gb.GlobR g) (h2 : t.size ≤ 60) : decide (GFits g t) = fitB g t := by
  by_cases hf : fitB g t = true
  · rw [hf]; exact decide_eq_true ⟨h, h2, hf⟩
  · rw [Bool.eq_false_iff.2 hf]; exact decide_eq_false fun h' => hf h'.2.2
theorem jret (w u : World) (a b : Int) (h : InJ w u) : rw.At ((u.setCell ⟨w.heap.size, 0, none⟩ (.int .i64 a)).setCell ⟨w.heap.size, 1, none⟩ (.int .i64 b)) w.heap.size #[.int .i64 a, .int .i64 b] 45 ∧ Below w.heap.size w ((u.setCell ⟨w.heap.size, 0, none⟩ (.int .i64 a)).setCell ⟨w.heap.size, 1, none⟩ (.int .i64 b)) :=
  ⟨(h.2.set 0 _).set 1 _, (h.1.setCell (Nat.le_refl _) _).setCell (Nat.le_refl _) _⟩
set_option maxHeartbeats 8000000 in
theorem judgeI_any (v : Value) (l : List Ln) (u t : ByteArray) (w : World) (hl : l.length ≤ maxLen) (hz : ∀ r ∈ l, r.2.2.1.size ≤ maxLen ∧ r.2.2.2.size ≤ maxLen) (hv : SliceIs w v l) (hu : u.size ≤ maxLen) (ht : t.size ≤ maxLen) :
    Calls Tryd.prog 28 #[v, .string u, .string t] w fun r w' => (∃ a b, r = .returned (.agg #[.int .i64 a, .int .i64 b]) ∧ JudgeIs l u t a b) ∧ Below w.heap.size w w' := by
  have HI : Hid (InJ w (w.alloc (.cells #[.int .i64 0, .int .i64 0] 45))) := ⟨(Below.refl _ _).alloc (Nat.le_refl _) _, rw.At.new _ _ _⟩
  have hp := fun u1 (h : Below w.heap.size w u1) => polI_any v l u1 hl hz (hv.up h)
  have hn := fun u1 => nm.impl_any u u1 hu
  obtain ⟨p, cap, hvs⟩ := hv.shape
  have ht' := ht
  unfold maxLen at ht'
  by_cases hA : Asks l u t
  · have h60 : ¬ (60 : Int) < (t.size : Int) := by have := hA.2.2; omega
    rw [decide_eq_true hA.1] at hp
    rw [hA.2.1] at hn
    have hl12 : l.length ≤ 12 := hA.1.1
    have hlm := hl
    unfold maxLen at hlm
    subst hvs
    have HR : Hid (∀ u1, Below w.heap.size w u1 → ∀ j, j < l.length → ∃ b off, p = some ⟨b, off, none⟩ ∧ u1.cell? ⟨b, off + j * 4, none⟩ = some (.int .i64 (l.getD j ln0).1) ∧ u1.cell? ⟨b, off + j * 4 + 1, none⟩ = some (.int .i64 (l.getD j ln0).2.1) ∧ u1.cell? ⟨b, off + j * 4 + 2, none⟩ = some (.string (l.getD j ln0).2.2.1) ∧ u1.cell? ⟨b, off + j * 4 + 3, none⟩ = some (.string (l.getD j ln0).2.2.2)) := fun u1 h1 j hj => by
      rcases hv.up h1 with ⟨p', c', rfl, _⟩ | ⟨b, off, c', hb, he, hr⟩
      · simp at hj
      · simp only [Value.slice.injEq] at he
        exact ⟨b, off, he.1, hr j hj⟩
    have HZ : Hid (∀ k, k < l.length → (l.getD k ln0).2.2.1.size ≤ maxLen ∧ (l.getD k ln0).2.2.2.size ≤ maxLen) := fun k hk => by
      rw [List.getD_eq_getElem?_getD, List.getElem?_eq_getElem hk]; exact hz _ (List.getElem_mem hk)
    have HK : Hid (∀ k, k < l.length → LnR (l.getD k ln0)) := hA.1.2
    have H60 : Hid (t.size ≤ 60) := hA.2.2
    have HH : Hid (∀ j, j < l.length → Hits u t (l.getD j ln0) → (∀ i, i < j → ¬ Hits u t (l.getD i ln0)) → JudgeIs l u t (l.getD j ln0).1 (l.getD j ln0).2.1) := fun j hj h1 h2 => JudgeIs.hit hA hj h1 h2
    have HN : Hid ((∀ j, j < l.length → ¬ Hits u t (l.getD j ln0)) → JudgeIs l u t 0 0) := fun h => JudgeIs.none hA h
    have HHT : Hid (∀ x : Ln, Hits u t x ↔ (x.2.2.1 = ⟨#[42]⟩ ∨ x.2.2.1 = u) ∧ fitB x.2.2.2 t = true) := fun x => Iff.rfl
    obtain ⟨n, hnn⟩ : ∃ n, n = l.length := ⟨_, rfl⟩
    rw [← hnn] at hp hl12 HR HZ HK HH HN hlm ⊢
    clear hnn hz hv hA hl
    go_enter Tryd.func28, Tryd.ntmps28
    go_wp2_with fail
    go_step3
    go_wp2_with (go_at_call 16; fail)
    refine calls_w (InJ w) HI.out ?_
    clear HI
    intro u0 i0
    refine (hp u0 i0.1).mono ?_
    rintro r u1 ⟨rfl, hb1⟩
    have i1 : Hid (InJ w u1) := i0.up hb1
    clear i0 hb1 hp
    go_wp2_with (go_at_call 34; (with_reducible refine (hn _).mono ?_); rintro r w' ⟨rfl, hw'⟩; obtain rfl := hw'.symm)
    go_step3
    go_wp2_with fail
    clear hn
    go_loopw [7, 28] (fun s i u1 => ∃ k : Nat, k ≤ n ∧ i = .int .i64 k ∧ s = .iface 69 (.agg #[]) ∧ Hid (∀ j, j < k → ¬ Hits u t (l.getD j ln0)) ∧ Hid (InJ w u1)) (fun _ i _ => n - (intOf i).toNat)
    case atStart => exact ⟨0, Nat.zero_le _, rfl, rfl, fun j h => by omega, i1⟩
    case round =>
      clear i1
      obtain ⟨k, hk, rfl, rfl, HG, HU⟩ := hrel
      by_cases hlt : k < n
      · obtain ⟨b, off, rfl, c1, c2, c3, c4⟩ := HR.out wr HU.out.1 k hlt
        obtain ⟨hz1, hz2⟩ := HZ.out k hlt
        have HKk : Hid (LnR (l.getD k ln0)) := HK.out k hlt
        have HHk : Hid (Hits u t (l.getD k ln0) → JudgeIs l u t (l.getD k ln0).1 (l.getD k ln0).2.1) := fun h => HH.out k hlt h HG.out
        have HS : Hid (¬ Hits u t (l.getD k ln0) → ∀ j, j < k + 1 → ¬ Hits u t (l.getD j ln0)) := fun h j hj => by
          by_cases e : j = k
          · rw [e]; exact h
          · exact HG.out j (by omega)
        obtain ⟨x, hx⟩ : ∃ x, x = l.getD k ln0 := ⟨_, rfl⟩
        rw [← hx] at c1 c2 c3 c4 hz1 hz2 HKk HHk HS
        clear hx
        obtain ⟨x1, x2, x3, x4⟩ := x
        dsimp only at c1 c2 c3 c4 hz1 hz2
        have hsx := user_star x3
        have HIK : Hid (InK w wr.heap.size (x1, x2, x3, x4) (wr.alloc (.cells #[.int .i64 x1, .int .i64 x2, .string x3, .string x4] 26))) := ⟨HU.out.up (rw.up_alloc _ _), rw.At.new _ _ _⟩
        have hf := fun u1 => fitsI_any x4 t u1 hz2 ht
        rw [gfits_of HKk.out.2.2 H60.out] at hf
        have HHx : Hid (Hits u t (x1, x2, x3, x4) ↔ (x3 = ⟨#[42]⟩ ∨ x3 = u) ∧ fitB x4 t = true) := HHT.out _
        obtain ⟨z, hzz⟩ : ∃ z, z = fitB x4 t := ⟨_, rfl⟩
        rw [← hzz] at hf HHx
        clear hzz
        have hrul := fun u1 => rulingOf_any x1 x2 x3 x4 u1
        simp only [decide_eq_true HKk.out.1] at hrul
        have HKn : Hid (Known x1 x2) := HKk.out.1
        have HJ : Hid (Hits u t (x1, x2, x3, x4) → JudgeIs l u t x1 x2) := HHk.out
        clear HKk HHk hz1 hz2 HG HU
        by_cases hs1 : x3 = ⟨#[42]⟩ ∨ x3 = u
        · have ht2 : (x3.toList == [42]) = true ∨ (x3.toList == [42]) = false ∧ (x3.toList == u.toList) = true := by
            by_cases h : x3 = ⟨#[42]⟩
            · rw [hsx, decide_eq_true h]; exact .inl rfl
            · rw [hsx, decide_eq_false h]
              exact .inr ⟨rfl, ss.beqT (hs1.resolve_left h)⟩
          have HX2 : Hid (z = true → JudgeIs l u t x1 x2) := fun h => HJ.out (HHx.out.2 ⟨hs1, h⟩)
          have HX3 : Hid (z = false → ∀ j, j < k + 1 → ¬ Hits u t (l.getD j ln0)) := fun h => HS.out fun h' => by have := (HHx.out.1 h').2; rw [h] at this; cases this
          clear hsx hs1 HHx HS HJ
          rcases ht2 with e1 | ⟨e1, e2⟩
          all_goals
            go_wp2_with (go_at_call 26; fail)
            obtain ⟨q, hq⟩ : ∃ q, q = wr.heap.size := ⟨_, rfl⟩
            rw [← hq] at HIK ⊢
            refine calls_w (InK w q (x1, x2, x3, x4)) HIK.out ?_
            clear HIK hq c1 c2 c3 c4
            intro u1 i
            refine (hf u1).mono ?_
            rintro r w2 ⟨rfl, hb⟩
            replace i := i.up hb
            clear hb hf
            cases z
            · have HQ : Hid (∀ j, j < k + 1 → ¬ Hits u t (l.getD j ln0)) := HX3.out rfl
              have HB : Hid (InJ w w2) := i.1
              clear HX2 HX3 i
              go_wp2
              exact ⟨⟨k + 1, by omega, by go_num, rfl, HQ, HB⟩, by simp [intOf]; omega⟩
            · have HQ : Hid (JudgeIs l u t x1 x2) := HX2.out rfl
              have d0 := i.2.cell 0
              have d1 := i.2.cell 1
              have d2 := i.2.cell 2
              have d3 := i.2.cell 3
              clear HX2 HX3
              go_wp2_with (go_at_call 33; fail)
              refine calls_w (InJ w) i.1 ?_
              clear i d0 d1 d2 d3
              intro u3 i
              refine (hrul u3).mono ?_
              rintro r w4 ⟨⟨v, rfl, hv⟩, hb⟩
              replace i := i.up hb
              obtain rfl := hv HKn.out
              have hve := fun u5 => verdict_say HKn.out u5
              clear hb hv hrul
              go_wp2_with (go_at_call 49; fail)
              refine calls_w (InJ w) i ?_
              clear i
              intro u5 i
              refine (hve u5).mono ?_
              rintro r w6 ⟨rfl, hb⟩
              replace i := i.up hb
              clear hb hve
              have d0 := i.2.cell 0
              have d1 := i.2.cell 1
              have d2 := fun j => i.2.frozen j
              have HD : Hid _ := jret w w6 x1 x2 i
              clear i
              go_wp2
              try rw [Exit.noGoto_ret]
              exact bodyPost_ret (results_cell_row Tryd.results28 _ _ w.heap.size _ _ _ _ rfl HD.out.1 Tryd.underlying45 rfl infoV) rfl ⟨⟨x1, x2, rfl, HQ.out⟩, HD.out.2⟩
        · have e1 : (x3.toList == [42]) = false := by rw [hsx]; exact decide_eq_false fun h => hs1 (.inl h)
          have e2 : (x3.toList == u.toList) = false := ss.beqF fun h => hs1 (.inr h)
          have HQ : Hid (∀ j, j < k + 1 → ¬ Hits u t (l.getD j ln0)) := HS.out fun h' => hs1 (HHx.out.1 h').1
          have HB : Hid (InJ w (wr.alloc (.cells #[.int .i64 x1, .int .i64 x2, .string x3, .string x4] 26))) := HIK.out.1
          clear hsx hs1 HHx HS HJ HIK hf hrul
          go_wp2
          exact ⟨⟨k + 1, by omega, by go_num, rfl, HQ, HB⟩, by simp [intOf]; omega⟩
      · obtain rfl : k = n := by omega
        have HF : Hid (JudgeIs l u t 0 0) := HN.out HG.out
        have hve := fun u5 => verdict_deny u5
        unfold denyV at hve
        clear HG HN HH HK HZ HHT
        go_wp2_with (go_at_call 49; fail)
        refine calls_w (InJ w) HU.out ?_
        clear HU
        intro u5 i
        refine (hve u5).mono ?_
        rintro r w6 ⟨rfl, hb⟩
        replace i := i.up hb
        clear hb hve
        have d0 := i.2.cell 0
        have d1 := i.2.cell 1
        have d2 := fun j => i.2.frozen j
        have HD : Hid _ := jret w w6 0 0 i
        clear i
        go_wp2
        try rw [Exit.noGoto_ret]
        exact bodyPost_ret (results_cell_row Tryd.results28 _ _ w.heap.size _ _ _ _ rfl HD.out.1 Tryd.underlying45 rfl infoV) rfl ⟨⟨0, 0, rfl, HF.out⟩, HD.out.2⟩
  · have HF : Hid (JudgeIs l u t 0 0) := JudgeIs.no hA
    subst hvs
    have hlm := hl
    unfold maxLen at hlm
    clear hv
    by_cases h1 : PolR l
    · rw [decide_eq_true h1] at hp
      by_cases h2 : nm.nameB u = true
      · have h60 : (60 : Int) < (t.size : Int) := by
          by_cases h : t.size ≤ 60
          · exact absurd ⟨h1, h2, h⟩ hA
          · omega
        rw [h2] at hn
        clear h1 h2 hA hz hl
        go_enter Tryd.func28, Tryd.ntmps28
        go_wp2_with fail
        go_step3
        go_wp2_with (go_at_call 16; fail)
        refine calls_w (InJ w) HI.out ?_
        clear HI
        intro u0 i0
        refine (hp u0 i0.1).mono ?_
        rintro r u1 ⟨rfl, hb1⟩
        replace i0 := i0.up hb1
        clear hb1 hp
        have d0 := i0.2.cell 0
        have d1 := i0.2.cell 1
        have d2 := fun j => i0.2.frozen j
        have HD : Hid _ := jret w u1 0 0 i0
        clear i0
        go_wp2_with (go_at_call 34; (with_reducible refine (hn _).mono ?_); rintro r w' ⟨rfl, hw'⟩; obtain rfl := hw'.symm)
        try rw [Exit.noGoto_ret]
        exact bodyPost_ret (results_cell_row Tryd.results28 _ _ w.heap.size _ _ _ _ rfl HD.out.1 Tryd.underlying45 rfl infoV) rfl ⟨⟨0, 0, rfl, HF.out⟩, HD.out.2⟩
      · rw [Bool.eq_false_iff.2 h2] at hn
        clear h1 h2 hA hz hl
        go_enter Tryd.func28, Tryd.ntmps28
        go_wp2_with fail
        go_step3
        go_wp2_with (go_at_call 16; fail)
        refine calls_w (InJ w) HI.out ?_
        clear HI
        intro u0 i0
        refine (hp u0 i0.1).mono ?_
        rintro r u1 ⟨rfl, hb1⟩
        replace i0 := i0.up hb1
        clear hb1 hp
        have d0 := i0.2.cell 0
        have d1 := i0.2.cell 1
        have d2 := fun j => i0.2.frozen j
        have HD : Hid _ := jret w u1 0 0 i0
        clear i0
        go_wp2_with (go_at_call 34; (with_reducible refine (hn _).mono ?_); rintro r w' ⟨rfl, hw'⟩; obtain rfl := hw'.symm)
        try rw [Exit.noGoto_ret]
        exact bodyPost_ret (results_cell_row Tryd.results28 _ _ w.heap.size _ _ _ _ rfl HD.out.1 Tryd.underlying45 rfl infoV) rfl ⟨⟨0, 0, rfl, HF.out⟩, HD.out.2⟩
    · rw [decide_eq_false h1] at hp
      clear h1 hA hz hl hn
      go_enter Tryd.func28, Tryd.ntmps28
      go_wp2_with fail
      go_step3
      go_wp2_with (go_at_call 16; fail)
      refine calls_w (InJ w) HI.out ?_
      clear HI
      intro u0 i0
      refine (hp u0 i0.1).mono ?_
      rintro r u1 ⟨rfl, hb1⟩
      replace i0 := i0.up hb1
      clear hb1 hp
      have d0 := i0.2.cell 0
      have d1 := i0.2.cell 1
      have d2 := fun j => i0.2.frozen j
      have HD : Hid _ := jret w u1 0 0 i0
      clear i0
      go_wp2
      try rw [Exit.noGoto_ret]
      exact bodyPost_ret (results_cell_row Tryd.results28 _ _ w.heap.size _ _ _ _ rfl HD.out.1 Tryd.underlying45 rfl infoV) rfl ⟨⟨0, 0, rfl, HF.out⟩, HD.out.2⟩
end Go.Proofs.YtndjjhcdnlkekaaDoor.rl
