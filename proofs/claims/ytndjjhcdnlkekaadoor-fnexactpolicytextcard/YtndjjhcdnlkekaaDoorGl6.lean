/-
  The model's l08Fits and GlobFits at every two texts: they tell whether the text fits the glob; no old block turns. No condition.
-/
import Derived.Test.YtndjjhcdnlkekaaDoorGl5
namespace Go.Proofs.YtndjjhcdnlkekaaDoor.gb
open Go.ChangeShapes Go.WideShapes Go.ChangeAt Go.RowKit
open Go.Proofs.YtndjjhcdnlkekaaDoor.sc (prn AllB AllB.not ret_b d_true d_false)
open Go.Proofs.YtndjjhcdnlkekaaDoor.wi (heap_lt calls_w wp_w)
open Classical
set_option linter.unusedVariables false

theorem infoZ : (Tryd.prog.info? 4).map (fun i => (i.zero, i.size, i.bytes)) = some (some (.bool false), 1, 1) := by kernel_rfl
theorem madeB (n : Nat) : madeCells #[Value.bool false] n = bcells (List.replicate n false) := by
  unfold madeCells bcells
  apply Array.ext'
  simp only [List.map_replicate]
  apply List.ext_getElem
  · simp
  · intro i h1 h2
    simp [Nat.mod_one]
theorem make_any (n : Nat) (w : World) (h : n ≤ 60) : (Instr.makeSlice 85 (.int .i64 ((n : Int) + 1)) (.int .i64 ((n : Int) + 1))).run Tryd.prog w = .ok (.slice (some ⟨w.heap.size, 0, none⟩) (n + 1) (n + 1)) (w.alloc (.cells (bcells (List.replicate (n + 1) false)) 4)) := by
  obtain ⟨i0, hi, hz0, hz1, hz2⟩ := info_parts infoZ
  have h := run_make (P := Tryd.prog) w 85 4 i0 (.bool false) Tryd.underlying85 hi hz0 .i64 .i64 ((n : Int) + 1) ((n : Int) + 1) (by omega) (Int.le_refl _) (by rw [hz2]; omega) (by omega)
  have e : ((n : Int) + 1).toNat = n + 1 := by omega
  rw [e, hz1, Nat.mul_one] at h
  rw [← madeB]
  simpa [Value.cells] using h
/-- l08Fits at work: a row of its own -/
structure InM (w : World) (b : Nat) (L : List Bool) (u : World) : Prop where
  bel : Below w.heap.size w u
  r : w.heap.size ≤ b
  x : BBlk u b 4 L
/-- and the next one -/
structure InMM (w : World) (b q : Nat) (R L : List Bool) (u : World) : Prop where
  bel : Below w.heap.size w u
  rb : w.heap.size ≤ b
  rq : w.heap.size ≤ q
  ne : b ≠ q
  x : BBlk u b 4 R
  y : BBlk u q 4 L
theorem InM.next {w u : World} {b : Nat} {R : List Bool} (h : InM w b R u) (L : List Bool) : InMM w b u.heap.size R L (u.alloc (.cells (bcells L) 4)) :=
  ⟨h.bel.alloc h.bel.size _, h.r, h.bel.size, by have := h.x.lt; omega, h.x.up (rw.up_alloc _ _), BBlk.new _ _ _⟩
theorem InMM.set {w u : World} {b q : Nat} {R L : List Bool} (h : InMM w b q R L u) (k : Nat) (z : Bool) : InMM w b q R (L.set k z) (u.setCell ⟨q, k, none⟩ (.bool z)) :=
  ⟨h.bel.setCell (p := ⟨q, k, none⟩) h.rq _, h.rb, h.rq, h.ne, (heap_setCell_other _ _ _ _ h.ne).trans h.x, h.y.set k z⟩
theorem InMM.drew {w u : World} {b q : Nat} {R L : List Bool} (h : InMM w b q R L u) : InMM w b q R L u.drew := ⟨h.bel.drew, h.rb, h.rq, h.ne, h.x, h.y⟩
theorem InMM.last {w u : World} {b q : Nat} {R L : List Bool} (h : InMM w b q R L u) : InM w q L u := ⟨h.bel, h.rq, h.y⟩
theorem rowTo_startN (F : Nat → Bool) (n : Nat) (h : ∀ j, F j = (j == 0)) : rowTo F (n + 1) (n + 1) = true :: List.replicate n false := by
  apply List.ext_getElem
  · simp [rowTo]
  · intro i h1 h2
    cases i with
    | zero => simp [rowTo, h]
    | succ i => rw [List.getElem_cons_succ, List.getElem_replicate]; simp [rowTo, h]
set_option maxHeartbeats 4000000 in
theorem fitsM_any (g t : ByteArray) (w : World) (hg : g.size ≤ 30) (ht : t.size ≤ 60) :
    Calls Tryd.prog 46 #[.string g, .string t] w fun e w' => e = .returned (.bool (fitB g t)) ∧ Below w.heap.size w w' := by
  have hmk := fun u => make_any t.size u ht
  have h00 : (bcells (List.replicate (t.size + 1) false))[0]? = some (.bool false) := by simp [bcells]
  have HS : Hid (∀ i, fits (bat g) (bat t) (i + 1) = stepB (bat g i) (bat t) (fits (bat g) (bat t) i)) := fun i => rfl
  have HZ : Hid (rowTo (fits (bat g) (bat t) 0) (t.size + 1) (t.size + 1) = true :: List.replicate t.size false) := rowTo_startN _ _ fun j => rfl
  have HF : Hid (fits (bat g) (bat t) g.size t.size = fitB g t) := rfl
  obtain ⟨P, hP⟩ : ∃ P, P = fits (bat g) (bat t) := ⟨_, rfl⟩
  rw [← hP] at HF HS HZ
  clear hP
  have HI : Hid (InM w w.heap.size (rowTo (P 0) (t.size + 1) (t.size + 1)) (w.alloc (.cells ((bcells (List.replicate (t.size + 1) false)).setIfInBounds 0 (.bool true)) 4))) := by
    rw [HZ.out, bcells_set]
    exact ⟨(Below.refl _ _).alloc (Nat.le_refl _) _, Nat.le_refl _, BBlk.new _ _ _⟩
  clear HZ
  go_enter Tryd.func46, Tryd.ntmps46
  go_wp2_with fail
  refine wp_w (InM w w.heap.size (rowTo (P 0) (t.size + 1) (t.size + 1))) HI.out ?_
  clear HI h00
  intro u0 i0
  go_loopw [5, 6] (fun f i u => ∃ k b : Nat, k ≤ g.size ∧ i = .int .i64 k ∧ f = .slice (some ⟨b, 0, none⟩) (t.size + 1) (t.size + 1) ∧ Hid (InM w b (rowTo (P k) (t.size + 1) (t.size + 1)) u)) (fun _ i _ => g.size - (intOf i).toNat)
  case atStart => exact ⟨0, _, Nat.zero_le _, rfl, rfl, i0⟩
  case round =>
    clear i0
    obtain ⟨k, b, hk, rfl, rfl, HU⟩ := hrel
    by_cases hlt : k < g.size
    · have hgk := bat_eq hlt
      have HSk : Hid (P (k + 1) = stepB (g[k]'hlt).toNat (bat t) (P k)) := by rw [← hgk]; exact HS.out k
      obtain ⟨G, hG⟩ : ∃ G, G = P (k + 1) := ⟨_, rfl⟩
      have HG : Hid (G = P (k + 1)) := hG
      obtain ⟨F, hF⟩ : ∃ F, F = P k := ⟨_, rfl⟩
      rw [← hF] at HU HSk
      rw [← hG] at HSk
      have HN : Hid (InMM w b wr.heap.size (rowTo F (t.size + 1) (t.size + 1)) (rowTo G (t.size + 1) 0) (wr.alloc (.cells (bcells (List.replicate (t.size + 1) false)) 4))) := by
        rw [rowTo_none]; exact HU.out.next _
      clear hG hF HU hgk
      by_cases h42 : ((g[k]'hlt).toNat : Int) = 42
      · have HX0 : Hid (G 0 = F 0) := by rw [HSk.out, show (g[k]'hlt).toNat = 42 by omega]; exact stepB_star0 _ _
        have HX1 : Hid (∀ m, G (m + 1) = (F (m + 1) || G m)) := fun m => by rw [HSk.out, show (g[k]'hlt).toNat = 42 by omega]; exact stepB_star _ _ _
        clear HSk
        go_wp2_with fail
        obtain ⟨q, hq⟩ : ∃ q, q = wr.heap.size := ⟨_, rfl⟩
        rw [← hq] at HN ⊢
        refine wp_w (InMM w b q (rowTo F (t.size + 1) (t.size + 1)) (rowTo G (t.size + 1) 0)) HN.out ?_
        clear HN hq
        intro u1 i1
        go_loopw [8] (fun j u => ∃ m : Nat, m ≤ t.size + 1 ∧ j = .int .i64 m ∧ Hid (InMM w b q (rowTo F (t.size + 1) (t.size + 1)) (rowTo G (t.size + 1) m) u)) (fun j _ => t.size + 1 - (intOf j).toNat)
        case atStart => exact ⟨0, Nat.zero_le _, rfl, i1⟩
        case round =>
          clear i1
          obtain ⟨m, hm, rfl, HU⟩ := hrel
          by_cases hml : m < t.size + 1
          · have ca := HU.out.x.cell m (by rw [rowTo_len]; exact hml)
            have cy := HU.out.y.cell m (by rw [rowTo_len]; exact hml)
            have hf := HU.out.y.frozen m
            rw [rowTo_get F _ hml, decide_eq_true hml, Bool.true_and] at ca
            have HN : Hid (∀ z, z = G m → InMM w b q (rowTo F (t.size + 1) (t.size + 1)) (rowTo G (t.size + 1) (m + 1)) (wr.setCell ⟨q, m, none⟩ (.bool z))) := fun z hz => by
              have := HU.out.set m z
              rw [hz, rowTo_set G hml] at this
              rw [hz]; exact this
            generalize (rowTo G (t.size + 1) m).getD m false = y at cy
            by_cases h0 : 0 < m
            · have cp := HU.out.y.cell (m - 1) (by rw [rowTo_len]; omega)
              rw [rowTo_get G _ (by omega), decide_eq_true (by omega), Bool.true_and] at cp
              have HE : Hid (G m = (F m || G (m - 1))) := by
                have := HX1.out (m - 1)
                rwa [show m - 1 + 1 = m by omega] at this
              rw [HE.out] at HN
              generalize F m = f at ca HN
              generalize G (m - 1) = z at cp HN
              have h01 : (0 : Int) < (m : Int) := by omega
              clear HU HE
              cases f
              all_goals
                go_wp2
                exact ⟨⟨m + 1, by omega, by go_num, HN.out _ (by simp)⟩, by simp [intOf]; omega⟩
            · have HE : Hid (G m = F m) := by rw [show m = 0 by omega]; exact HX0.out
              rw [HE.out] at HN
              generalize F m = f at ca HN
              have h01 : ¬ (0 : Int) < (m : Int) := by omega
              clear HU HE h0
              cases f
              all_goals
                go_wp2
                exact ⟨⟨m + 1, by omega, by go_num, HN.out _ (by simp)⟩, by simp [intOf]; omega⟩
          · obtain rfl : m = t.size + 1 := by omega
            have HL : Hid (InM w q (rowTo (P (k + 1)) (t.size + 1) (t.size + 1)) wr) := by rw [← HG.out]; exact HU.out.last
            clear HU HX0 HX1 hml
            go_wp2
            exact ⟨⟨k + 1, q, by omega, by go_num, rfl, HL⟩, by simp [intOf]; omega⟩
      · have hne : (g[k]'hlt).toNat ≠ 42 := by omega
        have HX0 : Hid (G 0 = false) := by rw [HSk.out]; exact stepB_no0 hne _ _
        have HX1 : Hid (∀ m, (g[k]'hlt).toNat = 63 ∨ (g[k]'hlt).toNat = bat t m → G (m + 1) = F m) := fun m h => by rw [HSk.out]; exact stepB_one hne h _
        have HX2 : Hid (∀ m, (g[k]'hlt).toNat ≠ 63 → (g[k]'hlt).toNat ≠ bat t m → G (m + 1) = false) := fun m h h' => by rw [HSk.out]; exact stepB_no hne h h' _
        clear HSk hne
        go_wp2_with fail
        obtain ⟨q, hq⟩ : ∃ q, q = wr.heap.size := ⟨_, rfl⟩
        rw [← hq] at HN ⊢
        refine wp_w (InMM w b q (rowTo F (t.size + 1) (t.size + 1)) (rowTo G (t.size + 1) 0)) HN.out ?_
        clear HN hq
        intro u1 i1
        go_loopw [8] (fun j u => ∃ m : Nat, m ≤ t.size + 1 ∧ j = .int .i64 m ∧ Hid (InMM w b q (rowTo F (t.size + 1) (t.size + 1)) (rowTo G (t.size + 1) m) u)) (fun j _ => t.size + 1 - (intOf j).toNat)
        case atStart => exact ⟨0, Nat.zero_le _, rfl, i1⟩
        case round =>
          clear i1
          obtain ⟨m, hm, rfl, HU⟩ := hrel
          by_cases hml : m < t.size + 1
          · by_cases h0 : 0 < m
            · have ca := HU.out.x.cell (m - 1) (by rw [rowTo_len]; omega)
              rw [rowTo_get F _ (by omega), decide_eq_true (by omega), Bool.true_and] at ca
              have i := HU.out
              have hmt : m - 1 < t.size := by omega
              have ht1 := bat_eq hmt
              have h01 : (0 : Int) < (m : Int) := by omega
              have HY1 := HX1.out (m - 1)
              have HY2 := HX2.out (m - 1)
              rw [show m - 1 + 1 = m by omega, ht1] at HY1 HY2
              have HN : Hid (∀ z u, InMM w b q (rowTo F (t.size + 1) (t.size + 1)) (rowTo G (t.size + 1) m) u → z = G m → InMM w b q (rowTo F (t.size + 1) (t.size + 1)) (rowTo G (t.size + 1) (m + 1)) (u.setCell ⟨q, m, none⟩ (.bool z))) := fun z u hu hz => by
                have := hu.set m z
                rw [hz, rowTo_set G hml] at this
                rw [hz]; exact this
              clear HU ht1
              have ca' := ca
              have cy := i.y.cell m (by rw [rowTo_len]; exact hml)
              have hf := i.y.frozen m
              have j : InMM w b q (rowTo F (t.size + 1) (t.size + 1)) (rowTo G (t.size + 1) m) wr.drew := i.drew
              generalize (rowTo G (t.size + 1) m).getD m false = y at cy
              have HF : Hid (((g[k]'hlt).toNat = 63 ∨ (g[k]'hlt).toNat = (t[m - 1]'hmt).toNat → G m = F (m - 1)) ∧ ((g[k]'hlt).toNat ≠ 63 → (g[k]'hlt).toNat ≠ (t[m - 1]'hmt).toNat → G m = false)) := ⟨HY1, HY2⟩
              clear HY1 HY2 ca i HX0 HX1 HX2
              generalize F (m - 1) = f at ca' HF
              cases f
              · have HV : Hid (false = G m) := by
                  by_cases h : (g[k]'hlt).toNat = 63 ∨ (g[k]'hlt).toNat = (t[m - 1]'hmt).toNat
                  · exact (HF.out.1 h).symm
                  · exact (HF.out.2 (fun e => h (.inl e)) (fun e => h (.inr e))).symm
                have HJ : Hid _ := HN.out _ _ j HV.out
                clear HF HV HN j
                go_wp2_with fail
                go_region
                go_wp2
                exact ⟨⟨m + 1, by omega, by go_num, HJ.out⟩, by simp [intOf]; omega⟩
              · by_cases h63 : ((g[k]'hlt).toNat : Int) = 63
                · have HV : Hid (true = G m) := (HF.out.1 (.inl (by omega))).symm
                  have HJ : Hid _ := HN.out _ _ j HV.out
                  clear HF HV HN j
                  go_wp2_with fail
                  go_region
                  go_wp2
                  exact ⟨⟨m + 1, by omega, by go_num, HJ.out⟩, by simp [intOf]; omega⟩
                · have hq : (((g[k]'hlt).toNat : Int) == 63) = false := beq_eq_false_iff_ne.2 h63
                  have hix : ∀ w, (Instr.index 9 (.string t) (.int .i64 ((m : Int) - 1))).run Tryd.prog w = .ok (.int .u8 (t[m - 1]'hmt).toNat) w := fun w => by
                    have e : ((m : Int) - 1).toNat = m - 1 := by omega
                    rw [run_index_string _ _ _ _ _ Tryd.underlying9, dif_pos ⟨by omega, by omega⟩]
                    simp only [e]
                  by_cases hb : (g[k]'hlt).toNat = (t[m - 1]'hmt).toNat
                  · have hq2 : (((g[k]'hlt).toNat : Int) == ((t[m - 1]'hmt).toNat : Int)) = true := beq_iff_eq.2 (by omega)
                    have HV : Hid (true = G m) := (HF.out.1 (.inr hb)).symm
                    have HJ : Hid _ := HN.out _ _ j HV.out
                    clear HF HV HN j hb
                    go_wp2_with fail
                    go_region
                    go_wp2
                    exact ⟨⟨m + 1, by omega, by go_num, HJ.out⟩, by simp [intOf]; omega⟩
                  · have hq2 : (((g[k]'hlt).toNat : Int) == ((t[m - 1]'hmt).toNat : Int)) = false := beq_eq_false_iff_ne.2 (by omega)
                    have HV : Hid (false = G m) := (HF.out.2 (by omega) hb).symm
                    have HJ : Hid _ := HN.out _ _ j HV.out
                    clear HF HV HN j hb
                    go_wp2_with fail
                    go_region
                    go_wp2
                    exact ⟨⟨m + 1, by omega, by go_num, HJ.out⟩, by simp [intOf]; omega⟩
            · have HE : Hid (InMM w b q (rowTo F (t.size + 1) (t.size + 1)) (rowTo G (t.size + 1) (m + 1)) wr) := by
                rw [rowTo_skip G (by rw [show m = 0 by omega]; exact HX0.out)]; exact HU.out
              have h01 : ¬ (0 : Int) < (m : Int) := by omega
              clear HU h0
              go_wp2
              exact ⟨⟨m + 1, by omega, by go_num, HE⟩, by simp [intOf]; omega⟩
          · obtain rfl : m = t.size + 1 := by omega
            have HL : Hid (InM w q (rowTo (P (k + 1)) (t.size + 1) (t.size + 1)) wr) := by rw [← HG.out]; exact HU.out.last
            clear HU HX0 HX1 HX2 hml
            go_wp2
            exact ⟨⟨k + 1, q, by omega, by go_num, rfl, HL⟩, by simp [intOf]; omega⟩
    · obtain rfl : k = g.size := by omega
      have cx := HU.out.x.cell t.size (by rw [rowTo_len]; omega)
      rw [rowTo_get _ _ (by omega), decide_eq_true (by omega), HF.out, Bool.true_and] at cx
      have HB : Hid (Below w.heap.size w wr) := HU.out.bel
      clear HU HS HF
      go_wp2
      go_ret
      exact ⟨rfl, HB.out⟩
end Go.Proofs.YtndjjhcdnlkekaaDoor.gb
