/-
  The program's method block: of sixteen numbers of 32 bits, where the table of places lies in its variable, the 64 bytes of the plain function; no old block turns.
-/
import Derived.Test.YtneahcoakbbdaaaDoorChaIC
namespace Go.Proofs.YtneahcoakbbdaaaDoor.cc
open Go.ChangeShapes Go.WideShapes Go.ChangeAt Go.RowKit
open Go.Proofs.YtneahcoakbbdaaaDoor.sh (U bits_U wr_U byteAt)
set_option linter.unusedVariables false

theorem run_index_u {P : Program} {t e : TypeId} {n : Nat} (l : List Int) (k : Nat) (w : World) (hu : P.underlying t = some (.array n e)) (hz : ∀ w, (sizeOf e).run P w = .ok 1 w) (ha : ∀ w, (isAgg e).run P w = .ok false w) (hl : l.length = n) (hk : k < n) :
    (Instr.index t (.agg (cellsU l)) (.int .i64 (k : Int))).run P w = .ok (.int .u32 (l.getD k 0)) w := by
  have h1 : (0 : Int) ≤ k ∧ (k : Int) < (n : Int) := by omega
  obtain ⟨x, h2⟩ : ∃ x, l[k]? = some x := ⟨_, List.getElem?_eq_getElem (by omega)⟩
  rw [List.getD_eq_getElem?_getD, h2]
  simp [cellsU, Instr.index, run_underlying hu, asIntOf, hk, h2, go_sem, hz, ha]
theorem sizeU (w : World) : (sizeOf 85).run Tryd.prog w = .ok 1 w := by kernel_rfl
theorem aggU (w : World) : (isAgg 85).run Tryd.prog w = .ok false w := by kernel_rfl
def blockG (F : List Int) (k : Nat) : List Int := blockF F k
theorem own_b {w : World} {base : Nat} {e : TypeId} {size : Nat} {v : Value} {n : Nat} {xs : List Value} (h : w.ownsRow base e size v n xs) : Hid (∀ k, v.ownBlock = some k → base ≤ k) := fun k hk => (h.lt k hk).1
theorem own_below {w u : World} {base : Nat} {e : TypeId} {size : Nat} {v : Value} {n : Nat} {xs : List Value} (h : w.ownsRow base e size v n xs) (hb : Below w.heap.size w u) : u.ownsRow base e size v n xs := by
  refine h.kept (row := none) ⟨hb.os, hb.tape, hb.output, hb.size, fun k hk _ => hb.block k hk⟩ ?_
  cases v.ownBlock with
  | none => exact Or.inl rfl
  | some q => exact Or.inr (by simp)
def nextK (l : List Int) (k : Nat) : List Int := mixK l (k + 1)
/-- one proof for all orders that come to one state -/
theorem share {T G : Prop} (f : T → G) (h : T) : G := f h
theorem listed_eq {P : Program} {md : Region.Mode} {ops : Array Oper} {Q : Exit → Act → World → Prop} {f : Nat} {L L' : Array Bool} {a : Act} {w : World} (h : wpAny P md ops Q f L a w) (e : L = L') : wpAny P md ops Q f L' a w := e ▸ h

set_option maxRecDepth 20000 in
set_option maxHeartbeats 16000000 in
theorem blockI_any (F : List Int) (w : World) (hF : F.length = 16) (hU : AllU F) (hM : Mixes w) :
    Calls Tryd.prog 85 #[.agg (cellsU F)] w fun e w' => e = .returned (.string (strOfNums (blockF F 16))) ∧ Below w.heap.size w w' := by
  obtain ⟨i0, hi, hz0, hz1, hz2⟩ := info_parts infoB
  have HU : Hid (AllU F) := hU
  have HM : Hid (Mixes w) := hM
  have hgl := hM.lt
  clear hU hM
  have hsF := cellsU_size F
  have HI0 : Hid (InMix w F F (((w.alloc (.cells (cellsU F) 110)).alloc (.cells (cells16 []) 110)).setRow (w.heap.size + 1) (cellsU F))) := by
    have hb := below_setRow (g := w.heap.size + 1) (((Below.refl w.heap.size w).alloc (Nat.le_refl _) (.cells (cellsU F) 110)).alloc (((Below.refl w.heap.size w).alloc (Nat.le_refl _) _).size) (.cells (cells16 []) 110)) (by omega) (cellsU F)
    refine ⟨hb, by simp [World.setRow], ?_, setRow_heap _ _ _ _ _ _ (heap_alloc2_new _ _ _)⟩
    refine (Below.block (below_setRow (B := w.heap.size + 1) (Below.refl _ _) (Nat.le_refl _) _) _ (by omega)).trans (heap_alloc2_old _ _ _)
  go_enter Tryd.func85, Tryd.ntmps85
  go_wp2_with (first | (refine wpList_load_row rfl 110 _ rfl w.heap.size rfl _ _ _ _ (heap_alloc_new _ _) Tryd.underlying110 rfl (infoU _ hF) ?_) | (refine wpList_store_row rfl 110 _ _ rfl (w.heap.size + 1) _ rfl rfl _ _ (heap_alloc2_new _ _ _) (infoU _ hF) ((cells16_size [] (by decide)).trans ((cellsU_size F).trans hF).symm) (cellsU_one _) ?_))
  go_loopw [5, 6, 7, 8, 9, 14, 16, 17] (fun _ _ _ _ _ i _ _ u => ∃ m : Nat, m ≤ 10 ∧ i = .int .i64 m ∧ Hid (InMix w F (turns m F) u)) (fun _ _ _ _ _ i _ _ _ => 10 - (intOf i).toNat)
  case atStart => exact ⟨0, by omega, rfl, HI0⟩
  case round =>
    clear HI0
    obtain ⟨m, hm, rfl, HI⟩ := hrel
    by_cases hlt : m < 10
    · obtain ⟨l0, hl0⟩ : ∃ l, l = turns m F := ⟨_, rfl⟩
      have HL : Hid (l0 = turns m F) := hl0
      rw [← hl0] at HI
      have Hlen : Hid (l0.length = 16) := by show _ = _; rw [hl0, turns_length]; exact hF
      have HU0 : Hid (AllU l0) := by show AllU _; rw [hl0]; exact turns_U _ HU.out
      clear hl0
      obtain ⟨tM, frM, hMw⟩ := HM.out.below HI.out.1 hgl
      go_wp2_with (refine wpList_load_row rfl 128 _ rfl 4 rfl _ _ _ _ hMw Tryd.underlying128 rfl infoP ?_)
      clear hMw
      go_loopw [5, 6, 7, 8, 9, 17] (fun _ _ _ _ _ i u => ∃ k : Nat, k ≤ 8 ∧ i = .int .i64 k ∧ Hid (InMix w F (mixK l0 k) u)) (fun _ _ _ _ _ i _ => 8 - (intOf i).toNat)
      case atStart => exact ⟨0, by omega, rfl, HI⟩
      case round =>
        clear HI
        obtain ⟨k, hk, rfl, HI⟩ := hrel
        by_cases hlt8 : k < 8
        · have hidx := fun u => idx_pl u k hlt8
          obtain ⟨⟨ha, hb, hc, hd⟩, hab, hac, had, hbc, hbd, hcd⟩ := pl_ok k hlt8
          obtain ⟨l, hl⟩ : ∃ l, l = mixK l0 k := ⟨_, rfl⟩
          have HLK : Hid (l = mixK l0 k) := hl
          have Hln : l.length = 16 := by rw [hl, mixK_length]; exact Hlen.out
          have HUl : Hid (AllU l) := by show AllU _; rw [hl]; exact mixK_U HU0.out _
          rw [← hl] at HI
          clear hl
          have HQ := quarter_sets l (plN k 0) (plN k 1) (plN k 2) (plN k 3) (by omega) (by omega) (by omega) (by omega) hab hac had hbc hbd hcd
          have HQQ : Hid _ := HQ
          clear HQ
          have HKK : Hid (nextK l0 k = quarter l (plN k 0) (plN k 1) (plN k 2) (plN k 3)) := by show _ = _; rw [HLK.out]; rfl
          unfold pl4 at hidx
          go_wp2_with (refine wpList_store_row rfl 127 _ _ rfl wr.heap.size _ rfl rfl _ _ (heap_alloc_new _ _) info4 rfl (by rfl) ?_)
          clear hidx HLK HL HM
          generalize plN k 0 = a at *
          generalize plN k 1 = b at *
          generalize plN k 2 = c at *
          generalize plN k 3 = d at *
          obtain ⟨q, hq⟩ : ∃ q, q = wr.heap.size := ⟨_, rfl⟩
          rw [← hq]
          have hq2 : w.heap.size + 2 ≤ q := by rw [hq]; exact HI.out.2.1
          refine wp_w (fun u => InMix w F l u ∧ u.heap[q]? = some (.cells #[.int .i64 (a : Int), .int .i64 (b : Int), .int .i64 (c : Int), .int .i64 (d : Int)] 127 (0, 0))) ⟨HI.out.alloc _, by rw [hq]; exact heap_alloc_new _ _⟩ ?_
          rintro u ⟨hIu, hqu⟩
          clear HI hq
          have HIu : Hid (InMix w F l u) := hIu
          have q0 : u.cell? ⟨q, 0, none⟩ = some (.int .i64 (a : Int)) := by rw [cell_of_row _ _ _ _ _ _ hqu]; rfl
          have q1 : u.cell? ⟨q, 1, none⟩ = some (.int .i64 (b : Int)) := by rw [cell_of_row _ _ _ _ _ _ hqu]; rfl
          have q2 : u.cell? ⟨q, 2, none⟩ = some (.int .i64 (c : Int)) := by rw [cell_of_row _ _ _ _ _ _ hqu]; rfl
          have q3 : u.cell? ⟨q, 3, none⟩ = some (.int .i64 (d : Int)) := by rw [cell_of_row _ _ _ _ _ _ hqu]; rfl
          clear hqu hIu
          go_quiet (fail)
          go_wp2_with fail
          clear q0 q1 q2 q3
          refine wp_w (fun u => InMix w F l u) (show InMix w F l (u.drewN nq) from ⟨below_drewN HIu.out.1 _, HIu.out.2.1, HIu.out.2.2.1, HIu.out.2.2.2⟩) ?_
          intro u1 hIu1
          have HI1 : Hid (InMix w F l u1) := hIu1
          obtain ⟨_, _, _, hrow⟩ := hIu1
          have va : u1.cell? ⟨w.heap.size + 1, a, none⟩ = some (.int .u32 (l.getD a 0)) := by rw [cell_of_row _ _ _ _ _ _ hrow, cellsU_at _ _ (by omega)]
          have vb : u1.cell? ⟨w.heap.size + 1, b, none⟩ = some (.int .u32 (l.getD b 0)) := by rw [cell_of_row _ _ _ _ _ _ hrow, cellsU_at _ _ (by omega)]
          have vc : u1.cell? ⟨w.heap.size + 1, c, none⟩ = some (.int .u32 (l.getD c 0)) := by rw [cell_of_row _ _ _ _ _ _ hrow, cellsU_at _ _ (by omega)]
          have vd : u1.cell? ⟨w.heap.size + 1, d, none⟩ = some (.int .u32 (l.getD d 0)) := by rw [cell_of_row _ _ _ _ _ _ hrow, cellsU_at _ _ (by omega)]
          have fa : u1.frozen? ⟨w.heap.size + 1, a, none⟩ = false := frozen_of_row _ _ _ _ _ hrow
          have fb : u1.frozen? ⟨w.heap.size + 1, b, none⟩ = false := frozen_of_row _ _ _ _ _ hrow
          have fc : u1.frozen? ⟨w.heap.size + 1, c, none⟩ = false := frozen_of_row _ _ _ _ _ hrow
          have fd : u1.frozen? ⟨w.heap.size + 1, d, none⟩ = false := frozen_of_row _ _ _ _ _ hrow
          have HUa : U (l.getD a 0) := getD_U HUl.out a
          have HUb : U (l.getD b 0) := getD_U HUl.out b
          have HUc : U (l.getD c 0) := getD_U HUl.out c
          have HUd : U (l.getD d 0) := getD_U HUl.out d
          have na0 : (0 : Int) ≤ (a : Int) := by omega
          have na1 : (a : Int) < 16 := by omega
          have nb0 : (0 : Int) ≤ (b : Int) := by omega
          have nb1 : (b : Int) < 16 := by omega
          have nc0 : (0 : Int) ≤ (c : Int) := by omega
          have nc1 : (c : Int) < 16 := by omega
          have nd0 : (0 : Int) ≤ (d : Int) := by omega
          have nd1 : (d : Int) < 16 := by omega
          clear hrow HIu
          generalize l.getD a 0 = xa at *
          generalize l.getD b 0 = xb at *
          generalize l.getD c 0 = xc at *
          generalize l.getD d 0 = xd at *
          refine wp_region_any (by kernel_rfl) ?_
          change wpAny _ _ _ _ _ _ _ (World.drew _)
          refine wpAny_take (i := 0) (v := ?_) rfl (by kernel_rfl) (by kernel_rfl) (by kernel_rfl) (fun _ _ _ h => h) (Or.inl ⟨by rfl, ?_⟩) ?_
          rotate_left
          · intro w; go_simp; try with_reducible rfl
          refine wpAny_take (i := 1) (v := ?_) rfl (by kernel_rfl) (by kernel_rfl) (by kernel_rfl) (fun _ _ _ h => h) (Or.inl ⟨by rfl, ?_⟩) ?_
          rotate_left
          · intro w; go_simp; try with_reducible rfl
          refine wpAny_take (i := 2) (v := ?_) rfl (by kernel_rfl) (by kernel_rfl) (by kernel_rfl) (fun _ _ _ h => h) (Or.inl ⟨by rfl, ?_⟩) ?_
          rotate_left
          · intro w; go_simp; try with_reducible rfl
          refine wpAny_take (i := 3) (v := ?_) rfl (by kernel_rfl) (by kernel_rfl) (by kernel_rfl) (fun _ _ _ h => h) (Or.inl ⟨by rfl, ?_⟩) ?_
          rotate_left
          · intro w; go_simp; try with_reducible rfl
          refine wpAny_take (i := 4) (v := ?_) rfl (by kernel_rfl) (by kernel_rfl) (by kernel_rfl) (fun _ _ _ h => h) (Or.inl ⟨by rfl, ?_⟩) ?_
          rotate_left
          · intro w; go_simp; try with_reducible rfl
          refine wpAny_take (i := 5) (v := ?_) rfl (by kernel_rfl) (by kernel_rfl) (by kernel_rfl) (fun _ _ _ h => h) (Or.inl ⟨by rfl, ?_⟩) ?_
          rotate_left
          · intro w; go_simp; try with_reducible rfl
          refine wpAny_take (i := 7) (v := ?_) rfl (by kernel_rfl) (by kernel_rfl) (by kernel_rfl) (fun _ _ _ h => h) (Or.inl ⟨by rfl, ?_⟩) ?_
          rotate_left
          · intro w; go_simp; try with_reducible rfl
          refine wpAny_take (i := 8) (v := ?_) rfl (by kernel_rfl) (by kernel_rfl) (by kernel_rfl) (fun _ _ _ h => h) (Or.inl ⟨by rfl, ?_⟩) ?_
          rotate_left
          · intro w; go_simp; try with_reducible rfl
          refine wpAny_take (i := 10) (v := ?_) rfl (by kernel_rfl) (by kernel_rfl) (by kernel_rfl) (fun _ _ _ h => h) (Or.inl ⟨by rfl, ?_⟩) ?_
          rotate_left
          · intro w; go_simp; try with_reducible rfl
          refine wpAny_take (i := 11) (v := ?_) rfl (by kernel_rfl) (by kernel_rfl) (by kernel_rfl) (fun _ _ _ h => h) (Or.inl ⟨by rfl, ?_⟩) ?_
          rotate_left
          · intro w; go_simp; try with_reducible rfl
          refine wpAny_take (i := 13) (v := ?_) rfl (by kernel_rfl) (by kernel_rfl) (by kernel_rfl) (fun _ _ _ h => h) (Or.inl ⟨by rfl, ?_⟩) ?_
          rotate_left
          · intro w; go_simp; try with_reducible rfl
          refine wpAny_take (i := 14) (v := ?_) rfl (by kernel_rfl) (by kernel_rfl) (by kernel_rfl) (fun _ _ _ h => h) (Or.inl ⟨by rfl, ?_⟩) ?_
          rotate_left
          · intro w; go_simp; try with_reducible rfl
          apply share
          case f =>
            intro REST
            refine wpAny_ready (rs := [6, 9, 12, 15]) (by kernel_rfl) (by simp) ?_
            refine AllReady.cons rfl (fun K hK => ?_) ?_
            · go_simp
              refine hK _ _ ?_
              clear hK K
              refine wpAny_ready (rs := [9, 12, 15]) (by kernel_rfl) (by simp) ?_
              refine AllReady.cons rfl (fun K hK => ?_) ?_
              · go_simp
                refine hK _ _ ?_
                clear hK K
                refine wpAny_ready (rs := [12, 15]) (by kernel_rfl) (by simp) ?_
                refine AllReady.cons rfl (fun K hK => ?_) ?_
                · go_simp
                  refine hK _ _ ?_
                  clear hK K
                  refine wpAny_ready (rs := [15]) (by kernel_rfl) (by simp) ?_
                  refine AllReady.cons rfl (fun K hK => ?_) ?_
                  · go_simp
                    refine hK _ _ ?_
                    clear hK K
                    exact REST
                  exact AllReady.nil
                refine AllReady.cons rfl (fun K hK => ?_) ?_
                · go_simp
                  refine hK _ _ ?_
                  clear hK K
                  refine wpAny_ready (rs := [12]) (by kernel_rfl) (by simp) ?_
                  refine AllReady.cons rfl (fun K hK => ?_) ?_
                  · go_simp
                    refine hK _ _ ?_
                    clear hK K
                    exact listed_eq REST (by kernel_rfl)
                  exact AllReady.nil
                exact AllReady.nil
              refine AllReady.cons rfl (fun K hK => ?_) ?_
              · go_simp
                refine hK _ _ ?_
                clear hK K
                refine wpAny_ready (rs := [9, 15]) (by kernel_rfl) (by simp) ?_
                refine AllReady.cons rfl (fun K hK => ?_) ?_
                · go_simp
                  refine hK _ _ ?_
                  clear hK K
                  refine wpAny_ready (rs := [15]) (by kernel_rfl) (by simp) ?_
                  refine AllReady.cons rfl (fun K hK => ?_) ?_
                  · go_simp
                    refine hK _ _ ?_
                    clear hK K
                    exact listed_eq REST (by kernel_rfl)
                  exact AllReady.nil
                refine AllReady.cons rfl (fun K hK => ?_) ?_
                · go_simp
                  refine hK _ _ ?_
                  clear hK K
                  refine wpAny_ready (rs := [9]) (by kernel_rfl) (by simp) ?_
                  refine AllReady.cons rfl (fun K hK => ?_) ?_
                  · go_simp
                    refine hK _ _ ?_
                    clear hK K
                    exact listed_eq REST (by kernel_rfl)
                  exact AllReady.nil
                exact AllReady.nil
              refine AllReady.cons rfl (fun K hK => ?_) ?_
              · go_simp
                refine hK _ _ ?_
                clear hK K
                refine wpAny_ready (rs := [9, 12]) (by kernel_rfl) (by simp) ?_
                refine AllReady.cons rfl (fun K hK => ?_) ?_
                · go_simp
                  refine hK _ _ ?_
                  clear hK K
                  refine wpAny_ready (rs := [12]) (by kernel_rfl) (by simp) ?_
                  refine AllReady.cons rfl (fun K hK => ?_) ?_
                  · go_simp
                    refine hK _ _ ?_
                    clear hK K
                    exact listed_eq REST (by kernel_rfl)
                  exact AllReady.nil
                refine AllReady.cons rfl (fun K hK => ?_) ?_
                · go_simp
                  refine hK _ _ ?_
                  clear hK K
                  refine wpAny_ready (rs := [9]) (by kernel_rfl) (by simp) ?_
                  refine AllReady.cons rfl (fun K hK => ?_) ?_
                  · go_simp
                    refine hK _ _ ?_
                    clear hK K
                    exact listed_eq REST (by kernel_rfl)
                  exact AllReady.nil
                exact AllReady.nil
              exact AllReady.nil
            refine AllReady.cons rfl (fun K hK => ?_) ?_
            · go_simp
              refine hK _ _ ?_
              clear hK K
              refine wpAny_ready (rs := [6, 12, 15]) (by kernel_rfl) (by simp) ?_
              refine AllReady.cons rfl (fun K hK => ?_) ?_
              · go_simp
                refine hK _ _ ?_
                clear hK K
                refine wpAny_ready (rs := [12, 15]) (by kernel_rfl) (by simp) ?_
                refine AllReady.cons rfl (fun K hK => ?_) ?_
                · go_simp
                  refine hK _ _ ?_
                  clear hK K
                  refine wpAny_ready (rs := [15]) (by kernel_rfl) (by simp) ?_
                  refine AllReady.cons rfl (fun K hK => ?_) ?_
                  · go_simp
                    refine hK _ _ ?_
                    clear hK K
                    exact listed_eq REST (by kernel_rfl)
                  exact AllReady.nil
                refine AllReady.cons rfl (fun K hK => ?_) ?_
                · go_simp
                  refine hK _ _ ?_
                  clear hK K
                  refine wpAny_ready (rs := [12]) (by kernel_rfl) (by simp) ?_
                  refine AllReady.cons rfl (fun K hK => ?_) ?_
                  · go_simp
                    refine hK _ _ ?_
                    clear hK K
                    exact listed_eq REST (by kernel_rfl)
                  exact AllReady.nil
                exact AllReady.nil
              refine AllReady.cons rfl (fun K hK => ?_) ?_
              · go_simp
                refine hK _ _ ?_
                clear hK K
                refine wpAny_ready (rs := [6, 15]) (by kernel_rfl) (by simp) ?_
                refine AllReady.cons rfl (fun K hK => ?_) ?_
                · go_simp
                  refine hK _ _ ?_
                  clear hK K
                  refine wpAny_ready (rs := [15]) (by kernel_rfl) (by simp) ?_
                  refine AllReady.cons rfl (fun K hK => ?_) ?_
                  · go_simp
                    refine hK _ _ ?_
                    clear hK K
                    exact listed_eq REST (by kernel_rfl)
                  exact AllReady.nil
                refine AllReady.cons rfl (fun K hK => ?_) ?_
                · go_simp
                  refine hK _ _ ?_
                  clear hK K
                  refine wpAny_ready (rs := [6]) (by kernel_rfl) (by simp) ?_
                  refine AllReady.cons rfl (fun K hK => ?_) ?_
                  · go_simp
                    refine hK _ _ ?_
                    clear hK K
                    exact listed_eq REST (by kernel_rfl)
                  exact AllReady.nil
                exact AllReady.nil
              refine AllReady.cons rfl (fun K hK => ?_) ?_
              · go_simp
                refine hK _ _ ?_
                clear hK K
                refine wpAny_ready (rs := [6, 12]) (by kernel_rfl) (by simp) ?_
                refine AllReady.cons rfl (fun K hK => ?_) ?_
                · go_simp
                  refine hK _ _ ?_
                  clear hK K
                  refine wpAny_ready (rs := [12]) (by kernel_rfl) (by simp) ?_
                  refine AllReady.cons rfl (fun K hK => ?_) ?_
                  · go_simp
                    refine hK _ _ ?_
                    clear hK K
                    exact listed_eq REST (by kernel_rfl)
                  exact AllReady.nil
                refine AllReady.cons rfl (fun K hK => ?_) ?_
                · go_simp
                  refine hK _ _ ?_
                  clear hK K
                  refine wpAny_ready (rs := [6]) (by kernel_rfl) (by simp) ?_
                  refine AllReady.cons rfl (fun K hK => ?_) ?_
                  · go_simp
                    refine hK _ _ ?_
                    clear hK K
                    exact listed_eq REST (by kernel_rfl)
                  exact AllReady.nil
                exact AllReady.nil
              exact AllReady.nil
            refine AllReady.cons rfl (fun K hK => ?_) ?_
            · go_simp
              refine hK _ _ ?_
              clear hK K
              refine wpAny_ready (rs := [6, 9, 15]) (by kernel_rfl) (by simp) ?_
              refine AllReady.cons rfl (fun K hK => ?_) ?_
              · go_simp
                refine hK _ _ ?_
                clear hK K
                refine wpAny_ready (rs := [9, 15]) (by kernel_rfl) (by simp) ?_
                refine AllReady.cons rfl (fun K hK => ?_) ?_
                · go_simp
                  refine hK _ _ ?_
                  clear hK K
                  refine wpAny_ready (rs := [15]) (by kernel_rfl) (by simp) ?_
                  refine AllReady.cons rfl (fun K hK => ?_) ?_
                  · go_simp
                    refine hK _ _ ?_
                    clear hK K
                    exact listed_eq REST (by kernel_rfl)
                  exact AllReady.nil
                refine AllReady.cons rfl (fun K hK => ?_) ?_
                · go_simp
                  refine hK _ _ ?_
                  clear hK K
                  refine wpAny_ready (rs := [9]) (by kernel_rfl) (by simp) ?_
                  refine AllReady.cons rfl (fun K hK => ?_) ?_
                  · go_simp
                    refine hK _ _ ?_
                    clear hK K
                    exact listed_eq REST (by kernel_rfl)
                  exact AllReady.nil
                exact AllReady.nil
              refine AllReady.cons rfl (fun K hK => ?_) ?_
              · go_simp
                refine hK _ _ ?_
                clear hK K
                refine wpAny_ready (rs := [6, 15]) (by kernel_rfl) (by simp) ?_
                refine AllReady.cons rfl (fun K hK => ?_) ?_
                · go_simp
                  refine hK _ _ ?_
                  clear hK K
                  refine wpAny_ready (rs := [15]) (by kernel_rfl) (by simp) ?_
                  refine AllReady.cons rfl (fun K hK => ?_) ?_
                  · go_simp
                    refine hK _ _ ?_
                    clear hK K
                    exact listed_eq REST (by kernel_rfl)
                  exact AllReady.nil
                refine AllReady.cons rfl (fun K hK => ?_) ?_
                · go_simp
                  refine hK _ _ ?_
                  clear hK K
                  refine wpAny_ready (rs := [6]) (by kernel_rfl) (by simp) ?_
                  refine AllReady.cons rfl (fun K hK => ?_) ?_
                  · go_simp
                    refine hK _ _ ?_
                    clear hK K
                    exact listed_eq REST (by kernel_rfl)
                  exact AllReady.nil
                exact AllReady.nil
              refine AllReady.cons rfl (fun K hK => ?_) ?_
              · go_simp
                refine hK _ _ ?_
                clear hK K
                refine wpAny_ready (rs := [6, 9]) (by kernel_rfl) (by simp) ?_
                refine AllReady.cons rfl (fun K hK => ?_) ?_
                · go_simp
                  refine hK _ _ ?_
                  clear hK K
                  refine wpAny_ready (rs := [9]) (by kernel_rfl) (by simp) ?_
                  refine AllReady.cons rfl (fun K hK => ?_) ?_
                  · go_simp
                    refine hK _ _ ?_
                    clear hK K
                    exact listed_eq REST (by kernel_rfl)
                  exact AllReady.nil
                refine AllReady.cons rfl (fun K hK => ?_) ?_
                · go_simp
                  refine hK _ _ ?_
                  clear hK K
                  refine wpAny_ready (rs := [6]) (by kernel_rfl) (by simp) ?_
                  refine AllReady.cons rfl (fun K hK => ?_) ?_
                  · go_simp
                    refine hK _ _ ?_
                    clear hK K
                    exact listed_eq REST (by kernel_rfl)
                  exact AllReady.nil
                exact AllReady.nil
              exact AllReady.nil
            refine AllReady.cons rfl (fun K hK => ?_) ?_
            · go_simp
              refine hK _ _ ?_
              clear hK K
              refine wpAny_ready (rs := [6, 9, 12]) (by kernel_rfl) (by simp) ?_
              refine AllReady.cons rfl (fun K hK => ?_) ?_
              · go_simp
                refine hK _ _ ?_
                clear hK K
                refine wpAny_ready (rs := [9, 12]) (by kernel_rfl) (by simp) ?_
                refine AllReady.cons rfl (fun K hK => ?_) ?_
                · go_simp
                  refine hK _ _ ?_
                  clear hK K
                  refine wpAny_ready (rs := [12]) (by kernel_rfl) (by simp) ?_
                  refine AllReady.cons rfl (fun K hK => ?_) ?_
                  · go_simp
                    refine hK _ _ ?_
                    clear hK K
                    exact listed_eq REST (by kernel_rfl)
                  exact AllReady.nil
                refine AllReady.cons rfl (fun K hK => ?_) ?_
                · go_simp
                  refine hK _ _ ?_
                  clear hK K
                  refine wpAny_ready (rs := [9]) (by kernel_rfl) (by simp) ?_
                  refine AllReady.cons rfl (fun K hK => ?_) ?_
                  · go_simp
                    refine hK _ _ ?_
                    clear hK K
                    exact listed_eq REST (by kernel_rfl)
                  exact AllReady.nil
                exact AllReady.nil
              refine AllReady.cons rfl (fun K hK => ?_) ?_
              · go_simp
                refine hK _ _ ?_
                clear hK K
                refine wpAny_ready (rs := [6, 12]) (by kernel_rfl) (by simp) ?_
                refine AllReady.cons rfl (fun K hK => ?_) ?_
                · go_simp
                  refine hK _ _ ?_
                  clear hK K
                  refine wpAny_ready (rs := [12]) (by kernel_rfl) (by simp) ?_
                  refine AllReady.cons rfl (fun K hK => ?_) ?_
                  · go_simp
                    refine hK _ _ ?_
                    clear hK K
                    exact listed_eq REST (by kernel_rfl)
                  exact AllReady.nil
                refine AllReady.cons rfl (fun K hK => ?_) ?_
                · go_simp
                  refine hK _ _ ?_
                  clear hK K
                  refine wpAny_ready (rs := [6]) (by kernel_rfl) (by simp) ?_
                  refine AllReady.cons rfl (fun K hK => ?_) ?_
                  · go_simp
                    refine hK _ _ ?_
                    clear hK K
                    exact listed_eq REST (by kernel_rfl)
                  exact AllReady.nil
                exact AllReady.nil
              refine AllReady.cons rfl (fun K hK => ?_) ?_
              · go_simp
                refine hK _ _ ?_
                clear hK K
                refine wpAny_ready (rs := [6, 9]) (by kernel_rfl) (by simp) ?_
                refine AllReady.cons rfl (fun K hK => ?_) ?_
                · go_simp
                  refine hK _ _ ?_
                  clear hK K
                  refine wpAny_ready (rs := [9]) (by kernel_rfl) (by simp) ?_
                  refine AllReady.cons rfl (fun K hK => ?_) ?_
                  · go_simp
                    refine hK _ _ ?_
                    clear hK K
                    exact listed_eq REST (by kernel_rfl)
                  exact AllReady.nil
                refine AllReady.cons rfl (fun K hK => ?_) ?_
                · go_simp
                  refine hK _ _ ?_
                  clear hK K
                  refine wpAny_ready (rs := [6]) (by kernel_rfl) (by simp) ?_
                  refine AllReady.cons rfl (fun K hK => ?_) ?_
                  · go_simp
                    refine hK _ _ ?_
                    clear hK K
                    exact listed_eq REST (by kernel_rfl)
                  exact AllReady.nil
                exact AllReady.nil
              exact AllReady.nil
            exact AllReady.nil
          refine wpAny_ready (rs := [16]) (by kernel_rfl) (by simp) ?_
          refine AllReady.cons rfl (fun K hK => ?_) AllReady.nil
          go_simp
          go_wp2_with (go_at_call 97; refine (four_any xa xb xc xd _ HUa HUb HUc HUd).mono ?_; rintro e w' ⟨rfl, hw'⟩; obtain rfl := hw'.symm)
          clear HUa HUb HUc HUd
          refine wpAny_take (i := 17) (v := ?_) rfl (by kernel_rfl) (by kernel_rfl) (by kernel_rfl) (fun _ _ _ h => h) (Or.inl ⟨by rfl, ?_⟩) ?_
          rotate_left
          · intro w; go_simp; try with_reducible rfl
          refine wpAny_take (i := 18) (v := ?_) rfl (by kernel_rfl) (by kernel_rfl) (by kernel_rfl) (fun _ _ _ h => h) (Or.inl ⟨by rfl, ?_⟩) ?_
          rotate_left
          · intro w; go_simp; try with_reducible rfl
          refine wpAny_take (i := 19) (v := ?_) rfl (by kernel_rfl) (by kernel_rfl) (by kernel_rfl) (fun _ _ _ h => h) (Or.inl ⟨by rfl, ?_⟩) ?_
          rotate_left
          · intro w; go_simp; try with_reducible rfl
          refine wpAny_take (i := 20) (v := ?_) rfl (by kernel_rfl) (by kernel_rfl) (by kernel_rfl) (fun _ _ _ h => h) (Or.inl ⟨by rfl, ?_⟩) ?_
          rotate_left
          · intro w; go_simp; try with_reducible rfl
          refine wpAny_take (i := 21) (v := ?_) rfl (by kernel_rfl) (by kernel_rfl) (by kernel_rfl) (fun _ _ _ h => h) (Or.inl ⟨by rfl, ?_⟩) ?_
          rotate_left
          · intro w; go_simp; try with_reducible rfl
          refine wpAny_take (i := 22) (v := ?_) rfl (by kernel_rfl) (by kernel_rfl) (by kernel_rfl) (fun _ _ _ h => h) (Or.inl ⟨by rfl, ?_⟩) ?_
          rotate_left
          · intro w; go_simp; try with_reducible rfl
          refine wpAny_ready (rs := [23]) (by kernel_rfl) (by simp) ?_
          refine AllReady.cons rfl (fun K hK => ?_) AllReady.nil
          go_simp
          refine hK _ _ ?_
          clear hK K
          refine wpAny_take (i := 24) (v := ?_) rfl (by kernel_rfl) (by kernel_rfl) (by kernel_rfl) (fun _ _ _ h => h) (Or.inl ⟨by rfl, ?_⟩) ?_
          rotate_left
          · intro w; go_simp; try with_reducible rfl
          refine wpAny_ready (rs := [25]) (by kernel_rfl) (by simp) ?_
          refine AllReady.cons rfl (fun K hK => ?_) AllReady.nil
          go_simp
          refine hK _ _ ?_
          clear hK K
          refine wpAny_take (i := 26) (v := ?_) rfl (by kernel_rfl) (by kernel_rfl) (by kernel_rfl) (fun _ _ _ h => h) (Or.inl ⟨by rfl, ?_⟩) ?_
          rotate_left
          · intro w; go_simp; try with_reducible rfl
          refine wpAny_ready (rs := [27]) (by kernel_rfl) (by simp) ?_
          refine AllReady.cons rfl (fun K hK => ?_) AllReady.nil
          go_simp
          refine hK _ _ ?_
          clear hK K
          refine wpAny_take (i := 28) (v := ?_) rfl (by kernel_rfl) (by kernel_rfl) (by kernel_rfl) (fun _ _ _ h => h) (Or.inl ⟨by rfl, ?_⟩) ?_
          rotate_left
          · intro w; go_simp; try with_reducible rfl
          refine wpAny_ready (rs := [29]) (by kernel_rfl) (by simp) ?_
          refine AllReady.cons rfl (fun K hK => ?_) AllReady.nil
          go_simp
          refine hK _ _ ?_
          clear hK K
          refine wpAny_done (by kernel_rfl) ?_ _
          have HI2 : Hid (InMix w F (nextK l0 k) _) := (show InMix w F (nextK l0 k) _ by rw [HKK.out, HQQ.out]; exact (HI1.out.set4 a b c d (m2a xa xb xc xd) (m2b xa xb xc xd) (m2c xa xb xc xd) (m2d xa xb xc xd)).drew)
          clear HI1 HKK HQQ va vb vc vd fa fb fc fd
          go_wp2
          go_roundw
          case rel => exact ⟨k + 1, by omega, by go_num, HI2⟩
          case measure => simp [intOf]; omega
        · obtain rfl : k = 8 := by omega
          go_wp2
          go_roundw
          case rel => exact ⟨m + 1, by omega, by go_num, by show InMix _ _ _ _; rw [show turns (m + 1) F = mixK l0 8 by rw [HL.out]; rfl]; exact HI.out⟩
          case measure => simp [intOf]; omega
    · obtain rfl : m = 10 := by omega
      obtain ⟨R, hR⟩ : ∃ l, l = turns 10 F := ⟨_, rfl⟩
      have HRL : Hid (R = turns 10 F) := hR
      have hRl : R.length = 16 := by rw [hR, turns_length]; exact hF
      have HRU : Hid (AllU R) := by show AllU _; rw [hR]; exact turns_U _ HU.out
      rw [← hR] at HI
      clear hR
      obtain ⟨hBw, hsw, h0w, h1w⟩ := HI.out
      clear HI HM
      have HBw : Hid (Below w.heap.size w wr) := hBw
      have hBs : w.heap.size ≤ wr.heap.size := hBw.size
      clear hBw
      go_wp2_with (refine wpList_make_own _ rfl _ _ 91 rfl wr.heap.size 5 i0 (.int .u8 0) 1 Tryd.underlying91 hi hz0 hz1 .i64 .i64 _ 64 rfl rfl rfl (by rw [hz2]; omega) (by decide) (Nat.le_refl _) ?_)
      intro w1 hown1 hgr1
      have HB1 : Hid (Below wr.heap.size wr w1) := ⟨hgr1.os, hgr1.tape, hgr1.output, hgr1.size, fun k hk => hgr1.block k hk (by simp)⟩
      have h0r : w1.heap[w.heap.size]? = some (.cells (cellsU F) 110 (0, 0)) := (HB1.out.block _ (by omega)).trans h0w
      have h1r : w1.heap[w.heap.size + 1]? = some (.cells (cellsU R) 110 (0, 0)) := (HB1.out.block _ (by omega)).trans h1w
      clear h1w hgr1
      have H0w : Hid (wr.heap[w.heap.size]? = some (.cells (cellsU F) 110 (0, 0))) := h0w
      clear h0w
      go_wp2_with (refine wpList_load_row rfl 110 _ rfl (w.heap.size + 1) rfl _ _ _ _ h1r Tryd.underlying110 rfl (infoU _ hRl) ?_)
      clear h1r h0r
      go_loopw [10, 11, 12, 58] (fun v _ _ i u => ∃ k : Nat, k ≤ 16 ∧ i = .int .i64 k ∧ u.ownsRow wr.heap.size 5 1 v (4 * k) ((blockF F k).map (Value.int .u8)) ∧ Hid (Below wr.heap.size wr u)) (fun _ _ _ i _ => 16 - (intOf i).toNat)
      case atStart => exact ⟨0, by omega, rfl, hown1, HB1⟩
      case round =>
        clear HB1 hown1
        obtain ⟨k, hk, rfl, hown, HB⟩ := hrel
        rename World => v0
        by_cases hlt16 : k < 16
        · have hidx : ∀ u, (Instr.index 110 (.agg (cellsU R)) (.int .i64 (k : Int))).run Tryd.prog u = .ok (.int .u32 (R.getD k 0)) u := fun u => run_index_u R k u Tryd.underlying110 sizeU aggU hRl hlt16
          have HH0 : v0.heap[w.heap.size]? = some (.cells (cellsU F) 110 (0, 0)) := (HB.out.block _ (by omega)).trans H0w.out
          have hc : v0.cell? ⟨w.heap.size, k, none⟩ = some (.int .u32 (F.getD k 0)) := by rw [cell_of_row _ _ _ _ _ _ HH0, cellsU_at _ _ (by omega)]
          have HN : Hid (blockG F (k + 1) = blockF F k ++ lowBytes (sh.wr (R.getD k 0 + F.getD k 0))) := by show _ = _; rw [HRL.out]; exact blockF_succ F k
          have Hx : U (R.getD k 0) := getD_U HRU.out k
          have Hy : U (F.getD k 0) := getD_U HU.out k
          have HO := own_b hown
          have hbs : wr.heap.size ≤ v0.heap.size := HB.out.size
          obtain ⟨x0, x1⟩ := Hx
          obtain ⟨y0, y1⟩ := Hy
          clear HH0
          generalize R.getD k 0 = x at *
          generalize F.getD k 0 = y at *
          have e1 : IntKind.u64.wrap ((x + y) % 4294967296) = (x + y) % 4294967296 := by rw [IntKind.wrap_u64]; omega
          have hsz : (⟨(lowL ((x + y) % 4294967296) 4).toArray⟩ : ByteArray).size = 4 := by show (List.toArray _).size = 4; rw [List.size_toArray, lowL_length]
          go_wp2_with (first | (go_at_call 62; refine (low_any _ 4 _ (by omega) (by omega) (by decide)).mono ?_; rintro e w2 ⟨rfl, hb2⟩; have hown2 := own_below hown hb2; have HB2 : Hid (Below wr.heap.size wr w2) := HB.out.trans (hb2.mono hbs); have hbs2 : wr.heap.size ≤ w2.heap.size := HB2.out.size; clear hown HB hb2 hc) | (at_builtin; refine Go.Lib.wpList_append_own_string _ rfl _ _ 91 9 rfl wr.heap.size 5 i0 Tryd.underlying91 Tryd.underlying9 hi hz0 hz1 hz2 _ (4 * k) _ rfl hown2 _ rfl (by unfold maxLen; rw [hsz]; omega) (by rw [hsz]; omega) hbs2 ?_))
          intro v' w3 hown3 hgr3 _
          try rw [hsz] at hown3
          have HO3 : Hid (w3.ownsRow wr.heap.size 5 1 v' (4 * (k + 1)) ((blockG F (k + 1)).map (Value.int .u8))) := by
            show World.ownsRow _ _ _ _ _ _ _
            rw [HN.out, List.map_append, ← strLow]
            unfold sh.wr
            rw [IntKind.wrap_u32]
            exact hown3
          have HB3 : Hid (Below wr.heap.size wr w3) := HB2.out.grown hgr3 hbs2 HO.out
          clear hown3 hgr3 hown2 HB2 HN hsz
          go_wp2
          go_roundw
          case rel => exact ⟨k + 1, by omega, by go_num, HO3.out, HB3⟩
          case measure => simp [intOf]; omega
        · obtain rfl : k = 16 := by omega
          have hcv := convI (by decide) hown
          go_wp2
          go_ret
          exact ⟨rfl, HBw.out.trans (HB.out.mono hBs)⟩
end Go.Proofs.YtneahcoakbbdaaaDoor.cc
