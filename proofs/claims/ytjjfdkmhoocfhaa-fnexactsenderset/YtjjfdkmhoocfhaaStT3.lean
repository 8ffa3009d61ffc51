/-
  A sender that is set: the model's SenderSet. No condition.
-/
import Derived.Test.YtjjfdkmhoocfhaaStT2
namespace Go.Proofs.Ytjjfdkmhoocfhaa.st
open Go.ChangeShapes Go.WideShapes Go.ChangeAt Go.RowKit
open Go.Proofs.Ytjjfdkmhoocfhaa.wi (heap_lt calls_w wp_w)
open Classical
set_option linter.unusedVariables false

set_option maxHeartbeats 8000000 in
theorem setM_S (v : Value) (l : List Ln) (t : ByteArray) (w : World) (hl : l.length ≤ maxLen) (hz : ∀ r ∈ l, r.2.size ≤ maxLen) (ht : t.size ≤ maxLen) (hv : SliceIs w v l) (hcap : ∀ p cap, v = .slice p l.length cap → l.length ≤ cap) :
    Calls Try.prog 28 #[.agg #[v], .string t] w fun e w' => ∃ al cd, SetS l t al cd ∧ OutPost w al cd e w' := by
  have HI : Hid (InTs w v ((w.alloc (.cells #[v] 49)).alloc (.cells #[.slice none 0 0, .int .i64 0] 57))) := InTs.new
  have hs := fun u (hu : Below w.heap.size w u) => sndM_any v l u hl hz (hv.up hu)
  have ht9 := ht
  unfold maxLen at ht9
  by_cases h0 : 8000 < t.size
  · have HV : Hid (SetS l t [] 2) := ⟨fun _ => ⟨rfl, rfl⟩, fun h => absurd h0 h, fun _ h => by omega, fun _ h => by omega, fun _ h => by omega⟩
    have d1 : rw.At ((w.alloc (.cells #[v] 49)).alloc (.cells #[.slice none 0 0, .int .i64 2] 57)) (w.heap.size + 1) #[.slice none 0 0, .int .i64 2] 57 := by
      have := rw.At.new (w.alloc (.cells #[v] 49)) #[.slice none 0 0, .int .i64 2] 57
      rwa [World.size_alloc] at this
    have HD : Hid (rw.At ((w.alloc (.cells #[v] 49)).alloc (.cells #[.slice none 0 0, .int .i64 2] 57)) (w.heap.size + 1) #[.slice none 0 0, .int .i64 2] 57 ∧ Below w.heap.size w ((w.alloc (.cells #[v] 49)).alloc (.cells #[.slice none 0 0, .int .i64 2] 57))) := ⟨d1, ((Below.refl _ _).alloc (Nat.le_refl _) _).alloc (by simp) _⟩
    clear hs hv HI d1
    go_enter Try.func28, Try.ntmps28
    go_wp2
    obtain ⟨d1, d2⟩ := HD.out
    exact bodyPost_ret (results_cell_row Try.results28 _ _ (w.heap.size + 1) _ #[.slice none 0 0, .int .i64 2] _ _ rfl d1 Try.underlying57 rfl infoSO) rfl ⟨_, _, HV.out, _, rfl, d2, .inl ⟨rfl, rfl⟩, noBlock⟩
  · by_cases s1 : SndR l
    · rw [decide_eq_true s1] at hs
      by_cases h4 : t.size ≤ 400
      · have hne : l ≠ [] := fun e => by have := s1.1.1; rw [e] at this; simp at this
        obtain ⟨b, off, cap, hb, rfl, hR0⟩ := slice_row hv hne
        have hlc : l.length ≤ cap := hcap _ _ rfl
        have hl8 : l.length ≤ 8 := s1.1.2
        have hln : 0 < l.length := s1.1.1
        have h44 : ¬ 400 < t.size := by omega
        have hNr := (s1.2.1 (l.length - 1) (by omega)).1
        go_enter Try.func28, Try.ntmps28
        go_wp2_with (go_at_call 20; fail)
        refine calls_w (InTs w (.slice (some ⟨b, off, none⟩) l.length cap)) HI.out ?_
        clear HI
        intro u i
        refine (hs u i.bel).mono ?_
        rintro r u1 ⟨rfl, hb1⟩
        replace i := i.up hb1
        clear hb1 hs
        have hr1 := hR0.below i.bel hb
        obtain ⟨N, hN⟩ : ∃ N, N = lastN l := ⟨_, rfl⟩
        obtain ⟨T, hT⟩ : ∃ T, T = lastT l := ⟨_, rfl⟩
        have hbu : b < u1.heap.size := Nat.lt_of_lt_of_le hb i.bel.size
        have hwu : w.heap.size + 1 < u1.heap.size := i.res.lt
        obtain ⟨k0, hk0⟩ : ∃ k0, k0 = l.length - 1 := ⟨_, rfl⟩
        have hx0 : u1.cell? ⟨b, off + k0 * 2, none⟩ = some (.int .i64 N) := by rw [hN, hk0]; exact (hr1 _ (by omega)).1
        have hx1 : u1.cell? ⟨b, off + k0 * 2 + 1, none⟩ = some (.string T) := by rw [hT, hk0]; exact (hr1 _ (by omega)).2
        have x0 := i.cell
        have hnk : l.length = k0 + 1 := by omega
        have hsub : IntKind.i64.wrap ((l.length : Int) - 1) = k0 := by rw [IntKind.wrap_i64]; omega
        have hj : (k0 : Int) < (l.length : Int) := by omega
        have hj2 : k0 < l.length := by omega
        obtain ⟨p, hp⟩ : ∃ p, p = u1.heap.size := ⟨_, rfl⟩
        have HX0 : Hid (InTs w (.slice (some ⟨b, off, none⟩) l.length cap) (u1.alloc (.cells #[.int .i64 N, .string T] 28)) ∧ Row (u1.alloc (.cells #[.int .i64 N, .string T] 28)) b off l ∧ rw.At (u1.alloc (.cells #[.int .i64 N, .string T] 28)) u1.heap.size #[.int .i64 N, .string T] 28) := ⟨i.up (rw.up_alloc _ _), hr1.below (rw.up_alloc _ _) hbu, rw.At.new _ _ _⟩
        have x2 : ∀ o, (u1.alloc o).cell? ⟨w.heap.size, 0, none⟩ = some (.slice (some ⟨b, off, none⟩) l.length cap) := fun o => (i.up (rw.up_alloc _ o)).cell
        have HK : Hid (N = lastN l ∧ T = lastT l ∧ 0 ≤ N ∧ N ≤ 1000000) := ⟨hN, hT, by rw [hN]; exact hNr.1, by rw [hN]; exact hNr.2⟩
        have HS1 : Hid (SndR l) := s1
        clear i hr1 hk0 hnk hN hT hNr hv hcap hne s1 hR0
        go_wp2_with (go_at_call 50; fail)
        rw [← hp] at HX0 hwu hbu ⊢
        refine calls_w (fun W => InTs w (.slice (some ⟨b, off, none⟩) l.length cap) W ∧ Row W b off l ∧ rw.At W p #[.int .i64 N, .string T] 28) HX0.out ?_
        clear HX0 x0 x2 hx0 hx1 hp
        rintro u2 ⟨j, hr2, hA⟩
        have hpu : p < u2.heap.size := hA.lt
        refine (copyM_S b off cap l u2 hl8 hlc (by omega) hr2).mono ?_
        rintro r u3 ⟨v3, rfl, hb3, ho3⟩
        replace j := j.up hb3
        replace hA := hA.up hb3
        have hpu3 : p < u3.heap.size := hA.lt
        have hsz3 := hb3.size
        clear hb3 hr2
        obtain ⟨p3, c3, rfl⟩ := ho3.shape
        have hq9 : ∀ k, (Value.slice p3 l.length c3).ownBlock = some k → w.heap.size + 1 < k ∧ p < k ∧ k < u3.heap.size := fun k hk => by
          obtain ⟨h1, cur, h2⟩ := ho3.block k hk
          exact ⟨by omega, by omega, heap_lt h2⟩
        obtain ⟨r0, r1, r2⟩ := j.rcells
        have x0 := j.cell
        have x2 := fun o => (j.up (rw.up_alloc u3 o)).cell
        have y0 := hA.cell 0
        have y1 := hA.cell 1
        have hw3 : w.heap.size + 1 < u3.heap.size := j.res.lt
        have hne4 : (Value.slice p3 l.length c3).ownBlock ≠ some (w.heap.size + 1) := fun e => by have := (hq9 _ e).1; omega
        by_cases hTt : T = t
        · have s2 : (T.toList == t.toList) = true := ss.beqT hTt
          have HV : Hid (SetS l t l 0) := ⟨fun h => absurd h h0, fun _ h => absurd ⟨HS1.out, h4⟩ h, fun _ _ _ => ⟨rfl, rfl⟩, fun _ _ h => absurd (HK.out.2.1.symm.trans hTt) h, fun _ _ h => absurd (HK.out.2.1.symm.trans hTt) h⟩
          obtain ⟨d1, d2⟩ := j.fin (.slice p3 l.length c3) (.int .i64 0)
          have HD : Hid (_ ∧ _) := ⟨d1.up (rw.up_alloc _ (.cells #[.slice p3 l.length c3] 49)), d2.alloc d2.size (.cells #[.slice p3 l.length c3] 49)⟩
          have HX : Hid (OwS u2.heap.size (.slice p3 l.length c3) l ((fillS u3 (w.heap.size + 1) (.slice p3 l.length c3) (.int .i64 0)).alloc (.cells #[.slice p3 l.length c3] 49))) :=
            OwS.up (World.ownsRow.kept (World.ownsRow.kept ho3 (Go.Lib.grownBy_setCell u3 (w.heap.size + 1) 0 _) (.inr hne4)) (Go.Lib.grownBy_setCell _ (w.heap.size + 1) 1 _) (.inr hne4)) (rw.up_alloc _ _)
          clear j hA ho3 d1 d2 HK HS1 hq9 hne4
          go_wp2
          obtain ⟨d1, d2⟩ := HD.out
          exact bodyPost_ret (results_cell_row Try.results28 _ _ (w.heap.size + 1) _ #[.slice p3 l.length c3, .int .i64 0] _ _ rfl d1 Try.underlying57 rfl infoSO) rfl ⟨_, _, HV.out, _, rfl, d2, OwnX.of HX.out, fun b' hb' => by
            obtain ⟨h1, cur, h2⟩ := HX.out.block b' hb'
            exact ⟨by omega, heap_lt h2⟩⟩
        · have s2 : (T.toList == t.toList) = false := ss.beqF hTt
          by_cases hf : N = 1000000 ∨ l.length = 8
          · have HV : Hid (SetS l t [] 9) := ⟨fun h => absurd h h0, fun _ h => absurd ⟨HS1.out, h4⟩ h, fun _ _ h => absurd (HK.out.2.1.trans h) hTt, fun _ _ _ _ => ⟨rfl, rfl⟩, fun _ _ _ h => absurd (HK.out.1 ▸ hf) h⟩
            obtain ⟨d1, d2⟩ := j.fin (.slice none 0 0) (.int .i64 9)
            have HD : Hid (_ ∧ _) := ⟨d1.up (rw.up_alloc _ (.cells #[.slice p3 l.length c3] 49)), d2.alloc d2.size (.cells #[.slice p3 l.length c3] 49)⟩
            obtain ⟨hN1, hN2⟩ := HK.out.2.2
            clear hTt
            by_cases hf1 : N = 1000000
            · have hf2 : (1000000 : Int) ≤ N := by omega
              clear j hA ho3 d1 d2 HK HS1 hq9 hne4 hf hf1
              go_wp2
              obtain ⟨d1, d2⟩ := HD.out
              exact bodyPost_ret (results_cell_row Try.results28 _ _ (w.heap.size + 1) _ #[.slice none 0 0, .int .i64 9] _ _ rfl d1 Try.underlying57 rfl infoSO) rfl ⟨_, _, HV.out, _, rfl, d2, .inl ⟨rfl, rfl⟩, noBlock⟩
            · have hf2 : N < 1000000 := by omega
              have hf3 : l.length = 8 := by omega
              have hf4 : (8 : Int) ≤ (l.length : Int) := by omega
              clear j hA ho3 d1 d2 HK HS1 hq9 hne4 hf hf1 hf3
              go_wp2
              obtain ⟨d1, d2⟩ := HD.out
              exact bodyPost_ret (results_cell_row Try.results28 _ _ (w.heap.size + 1) _ #[.slice none 0 0, .int .i64 9] _ _ rfl d1 Try.underlying57 rfl infoSO) rfl ⟨_, _, HV.out, _, rfl, d2, .inl ⟨rfl, rfl⟩, noBlock⟩
          · have HV : Hid (SetS l t (l ++ [(N + 1, t)]) 0) := ⟨fun h => absurd h h0, fun _ h => absurd ⟨HS1.out, h4⟩ h, fun _ _ h => absurd (HK.out.2.1.trans h) hTt, fun _ _ _ h => absurd h (HK.out.1 ▸ hf), fun _ _ _ _ => ⟨by rw [HK.out.1], rfl⟩⟩
            obtain ⟨hN1, hN2⟩ := HK.out.2.2
            have hf2 : N < 1000000 := by omega
            have hf3 : (l.length : Int) < 8 := by omega
            have hw1 : IntKind.i64.wrap (N + 1) = N + 1 := by rw [IntKind.wrap_i64]; omega
            obtain ⟨i0, hi, hz0, hz1, hz2⟩ := info_parts infoSt
            have hsz5 : (u3.alloc (.cells #[.slice p3 l.length c3] 49)).heap.size = u3.heap.size + 1 := World.size_alloc _ _
            have ho6 := (ho3.up (rw.up_alloc u3 (.cells #[.slice p3 l.length c3] 49))).up (rw.up_alloc _ (.cells #[.int .i64 (N + 1), .string t] 28))
            have gc := cell2 (u3.alloc (.cells #[.slice p3 l.length c3] 49)) (.int .i64 (N + 1)) (.string t) 28
            rw [hsz5] at gc
            have j6 := (j.up (rw.up_alloc u3 (.cells #[.slice p3 l.length c3] 49))).up (rw.up_alloc _ (.cells #[.int .i64 (N + 1), .string t] 28))
            have hQ6 := (rw.At.new u3 #[.slice p3 l.length c3] 49).up (rw.up_alloc _ (.cells #[.int .i64 (N + 1), .string t] 28))
            have hbs : u2.heap.size ≤ ((u3.alloc (.cells #[.slice p3 l.length c3] 49)).alloc (.cells #[.int .i64 (N + 1), .string t] 28)).heap.size := by rw [World.size_alloc, hsz5]; omega
            obtain ⟨W, hW⟩ : ∃ W, W = (u3.alloc (.cells #[.slice p3 l.length c3] 49)).alloc (.cells #[.int .i64 (N + 1), .string t] 28) := ⟨_, rfl⟩
            have hWQ : Hid (∀ w4, W.grownBy w4 (Value.slice p3 l.length c3).ownBlock → InTs w (.slice (some ⟨b, off, none⟩) l.length cap) w4 ∧ rw.At w4 u3.heap.size #[.slice p3 l.length c3] 49) := by
              rw [← hW] at j6 hQ6
              intro w4 hg
              have h1 : ∀ c, c < W.heap.size → (c ≤ w.heap.size + 1 ∨ c = u3.heap.size) → w4.heap[c]? = W.heap[c]? := fun c hc h => hg.block c hc (fun e => by have := hq9 _ e.symm; omega)
              exact ⟨⟨j6.bel.grown hg j6.bel.size (fun i hi => by have := hq9 _ hi; omega), (h1 _ j6.arg.lt (.inl (by omega))).trans j6.arg, (h1 _ j6.res.lt (.inl (by omega))).trans j6.res⟩, (h1 _ hQ6.lt (.inr rfl)).trans hQ6⟩
            rw [hW] at hWQ
            obtain ⟨l7, hl7⟩ : ∃ l7, l7 = l ++ [(N + 1, t)] := ⟨_, rfl⟩
            have HL7 : Hid (l.length + 1 = l7.length ∧ flat l ++ [.int .i64 (N + 1), .string t] = flat l7) := by
              show _ ∧ _
              rw [hl7, List.length_append, flat_app]; exact ⟨rfl, rfl⟩
            rw [← hl7] at HV
            have hl63 : l.length + 1 ≤ 2 ^ 63 - 1 := by omega
            clear hTt hf HK HS1 hW W hq9 j6 hQ6 ho3 hsz5 hl7 j hA
            go_wp2_with (at_builtin; refine wpList_append_own _ rfl (.tmp 47) (.tmp 53) 47 rfl u2.heap.size 28 i0 (.agg #[.int .i64 0, .string ⟨#[]⟩]) 2 24 Try.underlying47 hi hz0 hz1 hz2 rfl (by decide) (.slice p3 l.length c3) l.length (flat l) rfl ho6 ⟨u3.heap.size + 1, 0, none⟩ 1 1 [.int .i64 (N + 1), .string t] rfl rfl (fun j x hj => gc j x hj) (fun y hy => by simp at hy; rcases hy with rfl | rfl <;> rfl) (by unfold maxLen; omega) (by omega) hbs ?_; intro v4 w4 hown hgr hnil; clear hnil; obtain ⟨hi4, hq4⟩ := hWQ.out w4 hgr; have ho4 : OwS u2.heap.size v4 l7 w4 := (by have := hown; rw [HL7.out.1, HL7.out.2] at this; exact this); obtain ⟨p4, c4, hp4⟩ := ho4.shape; subst hp4; obtain ⟨r3, r4, r5⟩ := hi4.rcells; have q3 := hq4.cell 0; have q4 := (fun k => hq4.frozen k); clear hown hgr ho6 gc hWQ HL7 hbs r0 r1 r2 x0 x2 y0 y1 hne4)
            have hnq := ho4.other (by decide) hq4
            have hnr := ho4.other (by decide) hi4.res
            have j5 : InTs w (.slice (some ⟨b, off, none⟩) l.length cap) (w4.setCell ⟨u3.heap.size, 0, none⟩ (.slice p4 l7.length c4)) := ⟨hi4.bel.setCell (p := ⟨u3.heap.size, 0, none⟩) (by simp; omega) _, hi4.arg.far (by omega) 0 _, hi4.res.far (by omega) 0 _⟩
            obtain ⟨d1, d2⟩ := j5.fin (.slice p4 l7.length c4) (.int .i64 0)
            have ho7 : OwS u2.heap.size (.slice p4 l7.length c4) l7 (fillS (w4.setCell ⟨u3.heap.size, 0, none⟩ (.slice p4 l7.length c4)) (w.heap.size + 1) (.slice p4 l7.length c4) (.int .i64 0)) :=
              World.ownsRow.kept (World.ownsRow.kept (World.ownsRow.kept ho4 (Go.Lib.grownBy_setCell w4 u3.heap.size 0 _) (.inr hnq)) (Go.Lib.grownBy_setCell _ (w.heap.size + 1) 0 _) (.inr hnr)) (Go.Lib.grownBy_setCell _ (w.heap.size + 1) 1 _) (.inr hnr)
            exact bodyPost_ret (results_cell_row Try.results28 _ _ (w.heap.size + 1) _ #[(.slice p4 l7.length c4), .int .i64 0] _ _ rfl d1 Try.underlying57 rfl infoSO) rfl ⟨_, _, HV.out, _, rfl, d2, OwnX.of ho7, fun b' hb' => by
              obtain ⟨h1, cur, h2⟩ := ho7.block b' hb'
              exact ⟨by omega, heap_lt h2⟩⟩
      · have HV : Hid (SetS l t [] 1) := ⟨fun h => absurd h h0, fun _ _ => ⟨rfl, rfl⟩, fun _ h => absurd h h4, fun _ h => absurd h h4, fun _ h => absurd h h4⟩
        have h44 : 400 < t.size := by omega
        clear s1
        go_enter Try.func28, Try.ntmps28
        go_wp2_with (go_at_call 20; fail)
        refine calls_w (InTs w (v)) HI.out ?_
        clear HI
        intro u i
        refine (hs u i.bel).mono ?_
        rintro r u1 ⟨rfl, hb1⟩
        replace i := i.up hb1
        clear hb1 hs
        clear hv hcap
        obtain ⟨r0, r1, r2⟩ := i.rcells
        have HD : Hid _ := i.fin (.slice none 0 0) (.int .i64 1)
        clear i
        go_wp2
        obtain ⟨d1, d2⟩ := HD.out
        exact bodyPost_ret (results_cell_row Try.results28 _ _ (w.heap.size + 1) _ #[.slice none 0 0, .int .i64 1] _ _ rfl d1 Try.underlying57 rfl infoSO) rfl ⟨_, _, HV.out, _, rfl, d2, .inl ⟨rfl, rfl⟩, noBlock⟩
    · rw [decide_eq_false s1] at hs
      have HV : Hid (SetS l t [] 1) := ⟨fun h => absurd h h0, fun _ _ => ⟨rfl, rfl⟩, fun h => absurd h s1, fun h => absurd h s1, fun h => absurd h s1⟩
      clear s1
      go_enter Try.func28, Try.ntmps28
      go_wp2_with (go_at_call 20; fail)
      refine calls_w (InTs w (v)) HI.out ?_
      clear HI
      intro u i
      refine (hs u i.bel).mono ?_
      rintro r u1 ⟨rfl, hb1⟩
      replace i := i.up hb1
      clear hb1 hs
      clear hv hcap
      obtain ⟨r0, r1, r2⟩ := i.rcells
      have HD : Hid _ := i.fin (.slice none 0 0) (.int .i64 1)
      clear i
      go_wp2
      obtain ⟨d1, d2⟩ := HD.out
      exact bodyPost_ret (results_cell_row Try.results28 _ _ (w.heap.size + 1) _ #[.slice none 0 0, .int .i64 1] _ _ rfl d1 Try.underlying57 rfl infoSO) rfl ⟨_, _, HV.out, _, rfl, d2, .inl ⟨rfl, rfl⟩, noBlock⟩
end Go.Proofs.Ytjjfdkmhoocfhaa.st
