/-
  The program's GlobFits at every two texts: it tells whether the text fits the glob; no old block turns. No condition.
-/
import Derived.Test.YtndjjhcdnlkekaaDoorGl4
namespace Go.Proofs.YtndjjhcdnlkekaaDoor.gb
open Go.ChangeShapes Go.WideShapes Go.ChangeAt Go.RowKit
open Go.Proofs.YtndjjhcdnlkekaaDoor.sc (prn AllB AllB.not ret_b d_true d_false)
open Go.Proofs.YtndjjhcdnlkekaaDoor.wi (heap_lt calls_w wp_w)
open Classical
set_option linter.unusedVariables false
set_option linter.unusedSimpArgs false

theorem wpList_build_to {P : Program} {ops : Array Oper} {rest : List Oper} {o : Oper} {a : Act} {w : World} {Q : Exit → Act → World → Prop} (hg : o.guard = none) (t : TypeId) (parts : Array (Nat × Operand)) (ho : o.op = .build t parts) (cs : Array Value)
    (hf : P.built t (parts.map fun (i, x) => (i, a.eval x)).toList = some cs) (h : wpList P ops Q rest (a.put o.dst (.agg cs)) w) : wpList P ops Q (o :: rest) a w :=
  wpList_build hg t parts ho (by rw [hf]; rfl) (by rw [hf]; exact h)
theorem builtB : Tryd.prog.built 66 [(0, .bool true)] = some (bcells (true :: List.replicate 60 false)) := by kernel_rfl
theorem rowTo_start (F : Nat → Bool) (n : Nat) (h : ∀ j, F j = (j == 0)) : rowTo F 61 (n + 1) = true :: List.replicate 60 false := by
  apply List.ext_getElem
  · simp [rowTo]
  · intro i h1 h2
    cases i with
    | zero => simp [rowTo, h]
    | succ i => rw [List.getElem_cons_succ, List.getElem_replicate]; simp [rowTo, h]
theorem BBlk.drw {u : World} {g : Nat} {T : TypeId} {L : List Bool} (h : BBlk u g T L) : u.drew.heap[g]? = some (.cells (bcells L) T (0, 0)) := h
/-- GlobFits at work: its row's block -/
structure InF (w w1 : World) (L : List Bool) (u : World) : Prop where
  b : Below w.heap.size w u
  r : w.heap.size ≤ w1.heap.size
  x : BBlk u w1.heap.size 66 L
theorem InF.up {w w1 u u' : World} {L : List Bool} (h : InF w w1 L u) (hb : Below u.heap.size u u') : InF w w1 L u' := ⟨h.b.trans (hb.mono h.b.size), h.r, h.x.up hb⟩
theorem InF.put {w w1 u : World} {L : List Bool} (h : InF w w1 L u) (M : List Bool) : InF w w1 M (u.setRow w1.heap.size (bcells M)) := ⟨below_setRow h.b h.r _, h.r, setRow_heap _ _ _ _ _ _ h.x⟩
theorem InF.new {w w1 : World} (h : Below w.heap.size w w1) (old : Array Value) (L : List Bool) : InF w w1 L ((w1.alloc (.cells old 66)).setRow w1.heap.size (bcells L)) :=
  ⟨below_setRow (h.alloc h.size _) h.size _, h.size, setRow_heap _ _ _ _ _ _ (heap_alloc_new _ _)⟩
set_option maxHeartbeats 4000000 in
set_option maxRecDepth 100000 in
theorem fitsI_any (g t : ByteArray) (w : World) (hg : g.size ≤ maxLen) (ht : t.size ≤ maxLen) :
    Calls Tryd.prog 26 #[.string g, .string t] w fun e w' => e = .returned (.bool (decide (GFits g t))) ∧ Below w.heap.size w w' := by
  have hc := globI_any g w hg
  have HB0 : Hid (Below w.heap.size w w) := Below.refl _ _
  unfold maxLen at hg ht
  by_cases h1 : GlobR g
  · rw [decide_eq_true h1] at hc
    by_cases h2 : t.size ≤ 60
    · have h3 : (t.size : Int) ≤ 60 := by omega
      have HF : Hid (fits (bat g) (bat t) g.size t.size = decide (GFits g t)) := by
        show _ = _
        by_cases h : fits (bat g) (bat t) g.size t.size = true
        · rw [h, decide_eq_true (show GFits g t from ⟨h1, h2, h⟩)]
        · rw [decide_eq_false (fun h' : GFits g t => h h'.2.2)]; simpa using h
      have HS : Hid (∀ i, fits (bat g) (bat t) (i + 1) = stepB (bat g i) (bat t) (fits (bat g) (bat t) i)) := fun i => rfl
      have HZ : Hid (rowTo (fits (bat g) (bat t) 0) 61 (t.size + 1) = true :: List.replicate 60 false) := rowTo_start _ _ fun j => rfl
      obtain ⟨P, hP⟩ : ∃ P, P = fits (bat g) (bat t) := ⟨_, rfl⟩
      rw [← hP] at HF HS HZ
      clear hP
      have hg30 : (g.size : Int) ≤ 30 := by have := h1.1; omega
      clear h1
      go_enter Tryd.func26, Tryd.ntmps26
      go_wp2_with (first | (go_at_call 35; (with_reducible refine hc.mono ?_); rintro r w1 ⟨rfl, hb1⟩; have HB1 : Hid (Below w.heap.size w w1) := hb1; clear hb1) | (refine wpList_build_to rfl 66 _ rfl (bcells (true :: List.replicate 60 false)) (by simp [Act.eval]; exact builtB) ?_) | (refine wpList_store_row rfl 66 _ _ rfl w1.heap.size _ rfl rfl _ _ (heap_alloc_new _ _) (infoL (true :: List.replicate 60 false) rfl) (by simp [bcells]) (bcells_one _) ?_))
      refine wp_w (InF w w1 (rowTo (P 0) 61 (t.size + 1))) (by rw [HZ.out]; exact InF.new HB1.out _ _) ?_
      clear HZ
      intro u0 i0
      go_loopw [18] (fun i u => ∃ k : Nat, k ≤ g.size ∧ i = .int .i64 k ∧ Hid (InF w w1 (rowTo (P k) 61 (t.size + 1)) u)) (fun i _ => g.size - (intOf i).toNat)
      case atStart => exact ⟨0, Nat.zero_le _, rfl, i0⟩
      case round =>
        clear i0
        obtain ⟨k, hk, rfl, HU⟩ := hrel
        by_cases hlt : k < g.size
        · have i := HU.out
          have hgk := bat_eq hlt
          have hbe : ∀ u, Calls Tryd.prog 47 #[.agg (bcells (rowTo (P k) 61 (t.size + 1))), .int .u8 (bat g k), .string t] u fun e w' => e = .returned (.agg (bcells (rowTo (P (k + 1)) 61 (t.size + 1)))) ∧ Below u.heap.size u w' := fun u => by rw [HS.out k]; exact behind_any (P k) (bat g k) t u h2
          have hR := rowTo_len (P k) 61 (t.size + 1)
          have hR2 := rowTo_len (P (k + 1)) 61 (t.size + 1)
          rw [hgk] at hbe
          clear hgk HU
          generalize rowTo (P k) 61 (t.size + 1) = R at i hbe hR
          obtain ⟨R2, hE⟩ : ∃ R2, R2 = rowTo (P (k + 1)) 61 (t.size + 1) := ⟨_, rfl⟩
          rw [← hE] at hbe hR2
          have HE : Hid (R2 = rowTo (P (k + 1)) 61 (t.size + 1)) := hE
          clear hE
          have HS : Hid (∀ u, InF w w1 R u → rw.Bel w u) := fun u h => h.b
          go_wp2_with fail
          -- REGION
          refine wp_region_noPanic ?_
          refine wp_region_held_drew (S := fun u => rw.Bel w u) (by kernel_rfl) (HS.out _ (i.up (rw.up_drew _))) (fun _ => ?_)
          refine rw.region_w (fun u => InF w w1 R u) (i.up (rw.up_drew _)) ?_
          clear i
          intro u i
          have hHeld : (rw.Bel w u) := HS.out u i
          refine wpAnyH_take (i := 1) (oi := { dst := some 22, op := Op.move (Operand.tmp 0), type := 9, pos := "l08_policy.go:201", after := #[], guard := none }) (v := ?_) rfl (by kernel_rfl) (by kernel_rfl) (by kernel_rfl) (fun _ _ _ h => h) (Or.inl ⟨by rfl, ?_⟩) hHeld ?_
          rotate_left
          · rintro w z0; go_simp; (try with_reducible rfl)
          try simp only [Act.put, List.setIfInBounds_toArray, List.set_cons_zero, List.set_cons_succ]
          refine wpAnyH_take (i := 2) (oi := { dst := some 23, op := Op.move (Operand.tmp 6), type := 3, pos := "l08_policy.go:201", after := #[], guard := none }) (v := ?_) rfl (by kernel_rfl) (by kernel_rfl) (by kernel_rfl) (fun _ _ _ h => h) (Or.inl ⟨by rfl, ?_⟩) hHeld ?_
          rotate_left
          · rintro w z0; go_simp; (try with_reducible rfl)
          try simp only [Act.put, List.setIfInBounds_toArray, List.set_cons_zero, List.set_cons_succ]
          refine wpAnyH_take (i := 3) (oi := { dst := some 24, op := Op.index 9 (Operand.tmp 22) (Operand.tmp 23), type := 5, pos := "l08_policy.go:201", after := #[{ on := 1, ground := Ground.data }, { on := 2, ground := Ground.data }], guard := none }) (v := ?_) rfl (by kernel_rfl) (by kernel_rfl) (by kernel_rfl) (fun _ _ _ h => h) (Or.inl ⟨by rfl, ?_⟩) hHeld ?_
          rotate_left
          · rintro w z0; go_simp; (try with_reducible rfl)
          try simp only [Act.put, List.setIfInBounds_toArray, List.set_cons_zero, List.set_cons_succ]
          refine wpAnyH_take (i := 4) (oi := { dst := some 25, op := Op.move (Operand.tmp 1), type := 9, pos := "l08_policy.go:201", after := #[], guard := none }) (v := ?_) rfl (by kernel_rfl) (by kernel_rfl) (by kernel_rfl) (fun _ _ _ h => h) (Or.inl ⟨by rfl, ?_⟩) hHeld ?_
          rotate_left
          · rintro w z0; go_simp; (try with_reducible rfl)
          try simp only [Act.put, List.setIfInBounds_toArray, List.set_cons_zero, List.set_cons_succ]
          refine wpAnyH_ready (rs := [0]) (by kernel_rfl) (by simp) ?_
          refine AllReadyH.cons rfl (fun K hK => ?_) AllReadyH.nil
          rw [if_pos (by rfl)]
          refine wp_load_row 66 _ rfl w1.heap.size rfl _ _ _ _ i.x Tryd.underlying66 rfl (infoL _ hR) ?_
          refine hK.out _ _ (HS.out _ i) (fun _ => ?_)
          clear hK K hHeld
          have hHeld : rw.Bel w u := HS.out u i
          try simp only [Act.put, List.setIfInBounds_toArray, List.set_cons_zero, List.set_cons_succ]
          refine wpAnyH_ready (rs := [5]) (by kernel_rfl) (by simp) ?_
          refine AllReadyH.cons rfl (fun K hK => ?_) AllReadyH.nil
          go_simp
          go_at_call 47
          refine (hbe u).mono ?_
          rintro r7 w7 ⟨rfl, hb⟩
          go_wp2_with fail
          refine hK.out _ _ (HS.out _ (i.up hb)) (fun _ => ?_)
          clear hK K hHeld
          try simp only [Act.put, List.setIfInBounds_toArray, List.set_cons_zero, List.set_cons_succ]
          refine rw.region_w (fun u => InF w w1 R u) (i.up hb) ?_
          clear i hb
          intro u i
          have hHeld : (rw.Bel w u) := HS.out u i
          refine wpAnyH_ready (rs := [6]) (by kernel_rfl) (by simp) ?_
          refine AllReadyH.cons rfl (fun K hK => ?_) AllReadyH.nil
          rw [if_pos (by rfl)]
          refine wp_store_row 66 _ _ rfl w1.heap.size _ rfl rfl _ _ i.x (infoL _ hR2) (by simp [bcells, hR, hR2]) (bcells_one _) ?_
          have j : InF w w1 R2 (u.setRow w1.heap.size (bcells R2)) := i.put R2
          refine hK.out _ _ j.b (fun _ => ?_)
          clear hK K hHeld
          try simp only [Act.put, List.setIfInBounds_toArray, List.set_cons_zero, List.set_cons_succ]
          refine wpAnyH_done (by kernel_rfl) ?_ _
          refine NoPanic.normal ?_
          have HJ : Hid _ := j
          clear i j
          go_wp2
          exact ⟨⟨k + 1, by omega, by go_num, by rw [← HE.out]; exact HJ.out⟩, by simp [intOf]; omega⟩
          -- END
        · obtain rfl : k = g.size := by omega
          have cx := HU.out.x.cell t.size (by rw [rowTo_len]; omega)
          rw [rowTo_get _ _ (by omega), decide_eq_true (by omega), HF.out, Bool.true_and] at cx
          have HB : Hid (Below w.heap.size w wr) := HU.out.b
          clear HU HS HF
          obtain ⟨z, hz⟩ : ∃ z, z = decide (GFits g t) := ⟨_, rfl⟩
          rw [← hz] at cx
          have HZ : Hid (z = decide (GFits g t)) := hz
          clear hz
          go_wp2
          go_ret
          exact ⟨ret_b HZ.out, HB.out⟩
    · have h3 : ¬ (t.size : Int) ≤ 60 := by omega
      have HF : Hid (false = decide (GFits g t)) := (decide_eq_false (fun h : GFits g t => h2 h.2.1)).symm
      clear h1 h2
      go_enter Tryd.func26, Tryd.ntmps26
      go_wp2_with (go_at_call 35; (with_reducible refine hc.mono ?_); rintro r w1 ⟨rfl, hb1⟩; have HB1 : Hid (Below w.heap.size w w1) := hb1; clear hb1)
      go_ret
      exact ⟨ret_b HF.out, HB1.out⟩
  · rw [decide_eq_false h1] at hc
    have HF : Hid (false = decide (GFits g t)) := (decide_eq_false (fun h : GFits g t => h1 h.1)).symm
    clear h1
    go_enter Tryd.func26, Tryd.ntmps26
    go_wp2_with (go_at_call 35; (with_reducible refine hc.mono ?_); rintro r w1 ⟨rfl, hb1⟩; have HB1 : Hid (Below w.heap.size w w1) := hb1; clear hb1)
    go_ret
    exact ⟨ret_b HF.out, HB1.out⟩
end Go.Proofs.YtndjjhcdnlkekaaDoor.gb
