/-
  The model's digest of a text is the plain digest; no old block turns.
-/
import Derived.Test.YtcfekhahibklfaaDoorMg10
import Derived.Test.YtcfekhahibklfaaDoorShaMBlock
namespace Go.Proofs.YtcfekhahibklfaaDoor.sh
open Go.ChangeShapes Go.WideShapes Go.ChangeAt Go.RowKit sa
set_option linter.unusedVariables false

def lenIn : Value → Nat
  | .slice _ n _ => n
  | _ => 0
theorem gap_least (n z : Nat) (h : z < gap n) : ¬ (n + 1 + z) % 64 = 56 := by unfold gap at h; omega
theorem len8_take (n : Nat) : ∀ k, k < 8 → (len8 n).take (k + 1) = (len8 n).take k ++ [sh.byteOf (8 * n) (56 - 8 * k)]
  | 0, _ => rfl | 1, _ => rfl | 2, _ => rfl | 3, _ => rfl | 4, _ => rfl | 5, _ => rfl | 6, _ => rfl | 7, _ => rfl
  | k + 8, h => by omega

set_option maxHeartbeats 2000000 in
theorem startM_any (w : World) : Calls Tryd.prog 82 #[] w fun e w' => ∃ v, e = .returned v ∧ StAt w' v start ∧ Below w.heap.size w w' := by
  go_enter Tryd.func82, Tryd.ntmps82
  go_wp2
  go_ret
  refine ⟨_, rfl, ⟨w.heap.size, 8, rfl, fun i hi => ?_⟩, (Below.refl _ _).alloc (Nat.le_refl _) _⟩
  rw [cell_of_row _ _ _ _ _ _ (heap_alloc_new _ _)]
  match i, hi with
  | 0, _ => rfl
  | 1, _ => rfl
  | 2, _ => rfl
  | 3, _ => rfl
  | 4, _ => rfl
  | 5, _ => rfl
  | 6, _ => rfl
  | 7, _ => rfl

set_option maxRecDepth 20000 in
set_option maxHeartbeats 16000000 in
theorem all_any (s : ByteArray) (w : World) (hs : s.size ≤ 20000) :
    Calls Tryd.prog 73 #[.string s] w fun e w' => e = .returned (.string (shaB s.data.toList)) ∧ Below w.heap.size w w' := by
  obtain ⟨i0, hi, hz0, hz1, hz2⟩ := info_parts info5
  obtain ⟨cap, W, hcv, hrow, hBW⟩ := row_of_text s w
  have hsl : s.data.toList.length = s.size := by simp
  have hWl := hBW.size
  go_enter Tryd.func73, Tryd.ntmps73
  go_wp2_with (at_builtin; go_must (refine wpList_append_row rfl _ _ rfl w.heap.size _ s.data.toList 128 rfl (hrow.alloc _) ⟨W.heap.size, 0, none⟩ 1 rfl (cell_one_new _ _ _) (by omega) (by simp; omega) ?_))
  intro v1 w1 hR1 hB1
  have hC1 : Below w.heap.size w w1 := (hBW.alloc hWl _).trans (hB1.mono (Nat.le_refl _))
  clear hcv hrow hBW hB1
  go_wp2_with fail
  go_loopw [3] (fun v u => ∃ z : Nat, z ≤ gap s.size ∧ Row8 w.heap.size u v ((s.data.toList ++ [128]) ++ List.replicate z 0) ∧ Below w.heap.size w u) (fun v _ => s.size + 100 - lenIn v)
  case atStart => exact ⟨0, by omega, by simpa using hR1, hC1⟩
  case round =>
    clear hR1 hC1
    obtain ⟨z, hz, hR, hB⟩ := hrel
    have hgl := gap_lt s.size
    have hbs := hB.size
    by_cases hlt : z < gap s.size
    · have hne := gap_least s.size z hlt
      have HR : Hid _ := hR
      obtain ⟨g, c, hv, hg, hlc, hcell, hsp⟩ := hR
      have hlen : ((s.data.toList ++ [128]) ++ List.replicate z (0 : UInt8)).length = s.size + 1 + z := by simp; omega
      rw [hlen] at hv
      subst hv
      have HL : Hid (List.replicate (z + 1) (0 : UInt8) = List.replicate z 0 ++ [0]) := List.replicate_succ'
      clear hcell hsp hlc hg
      go_wp2_with (at_builtin; go_must (refine wpList_append_row rfl _ _ rfl w.heap.size _ ((s.data.toList ++ [128]) ++ List.replicate z 0) 0 rfl (Row8.alloc HR.out _) ⟨wr.heap.size, 0, none⟩ 1 rfl (cell_one_new _ _ _) (by omega) (by simp; omega) ?_))
      intro v2 w2 hR2 hB2
      have HR2 : Hid (Row8 w.heap.size w2 v2 ((s.data.toList ++ [128]) ++ List.replicate (z + 1) 0)) := by show Row8 _ _ _ _; rw [HL.out]; simpa using hR2
      have HB2 : Hid (Below w.heap.size w w2) := (hB.alloc hbs _).trans hB2
      clear hR2 hB2
      go_wp2
      go_roundw
      case rel => exact ⟨z + 1, by omega, HR2.out, HB2.out⟩
      case measure =>
        obtain ⟨_, _, hv2, _⟩ := HR2.out
        rw [hv2]
        simp [lenIn]; omega
    · obtain rfl : z = gap s.size := by omega
      have he := gap_mod s.size
      have HR : Hid (Row8 w.heap.size wr _ ((s.data.toList ++ [128]) ++ List.replicate (gap s.size) 0)) := hR
      obtain ⟨g, c, hv, hg, hlc, hcell, hsp⟩ := hR
      have hlen : ((s.data.toList ++ [128]) ++ List.replicate (gap s.size) (0 : UInt8)).length = s.size + 1 + gap s.size := by simp; omega
      rw [hlen] at hv
      subst hv
      clear hcell hsp hlc hg
      obtain ⟨X, hX⟩ : ∃ X : List UInt8, X = (s.data.toList ++ [128]) ++ List.replicate (gap s.size) 0 := ⟨_, rfl⟩
      have HX : Hid (X = (s.data.toList ++ [128]) ++ List.replicate (gap s.size) 0) := hX
      clear hX
      have HRX : Hid (Row8 w.heap.size wr (.slice (some ⟨g, 0, none⟩) (s.size + 1 + gap s.size) c) X) := by rw [HX.out]; exact HR.out
      have hXl : X.length = s.size + 1 + gap s.size := by rw [HX.out, hlen]
      clear HR hlen
      have HB : Hid (Below w.heap.size w wr) := hB
      clear hB
      have HPD : Hid (padded s.data.toList = X ++ len8 s.size) := by show _ = _; rw [HX.out]; unfold padded; rw [show s.data.toList.length = s.size by simp]
      have hbf : (((s.size : Int) + 1 + (gap s.size : Int)) % 64 != 56) = false := by
        simp; omega
      go_wp2
      clear he hbf
      go_loopw [3, 5] (fun v i u => ∃ k : Nat, k ≤ 8 ∧ i = .int .i64 (56 - 8 * (k : Int)) ∧ Row8 w.heap.size u v (X ++ (len8 s.size).take k) ∧ Below w.heap.size w u) (fun _ i _ => (intOf i + 8).toNat)
      case atStart => exact ⟨0, by omega, rfl, by simpa using HRX.out, HB.out⟩
      case round =>
        clear HRX HB
        obtain ⟨k, hk, rfl, hR, hB⟩ := hrel
        have hbs := hB.size
        have HR : Hid _ := hR
        obtain ⟨g2, c2, hv, hg, hlc, hcell, hsp⟩ := hR
        have hlen : (X ++ (len8 s.size).take k).length = s.size + 1 + gap s.size + k := by
          have : (len8 s.size).length = 8 := rfl
          simp [hXl, this]; omega
        rw [hlen] at hv
        subst hv
        by_cases hlt : k < 8
        · have HT' : Hid ((len8 s.size).take (k + 1) = (len8 s.size).take k ++ [sh.byteOf (8 * s.size) (56 - 8 * k)]) := len8_take s.size k hlt
          have hsh : (56 - 8 * (k : Int)).toNat = 56 - 8 * k := by omega
          have hby : ((sh.byteOf (8 * (s.size : Int)) (56 - 8 * k)).toNat : Int) = 8 * (s.size : Int) / 2 ^ (56 - 8 * k) % 256 := byteOf_toNat _ _
          clear hcell hsp hlc hg
          go_wp2_with (at_builtin; go_must (refine wpList_append_row rfl _ _ rfl w.heap.size _ (X ++ (len8 s.size).take k) (sh.byteOf (8 * s.size) (56 - 8 * k)) rfl (Row8.alloc HR.out _) ⟨wr.heap.size, 0, none⟩ 1 rfl (by rw [hby]; exact cell_one_new _ _ _) (by omega) (by simp; omega) ?_))
          intro v2 w2 hR2 hB2
          have HR2 : Hid (Row8 w.heap.size w2 v2 (X ++ (len8 s.size).take (k + 1))) := by show Row8 _ _ _ _; rw [HT'.out]; simpa using hR2
          have HB2 : Hid (Below w.heap.size w w2) := (hB.alloc hbs _).trans hB2
          clear hR2 hB2
          go_wp2
          go_roundw
          case rel =>
            exact ⟨k + 1, by omega, by go_num, HR2.out, HB2.out⟩
          case measure => simp [intOf]; omega
        · obtain rfl : k = 8 := by omega
          obtain ⟨P, hP⟩ : ∃ P : List UInt8, P = padded s.data.toList := ⟨_, rfl⟩
          have HP : Hid (P = padded s.data.toList) := hP
          have hPX : P = X ++ (len8 s.size).take 8 := by rw [hP, HPD.out]; rfl
          rw [← hPX] at hcell hlen
          have hPm : P.length % 64 = 0 := by rw [hP]; exact padded_mod _
          have hlc2 : P.length ≤ c2 := by rw [hPX]; exact hlc
          clear hP hPX hsp hlc HR
          have hgw : g2 < wr.heap.size := block_lt_of_cell (hcell 0 (by omega))
          go_wp2_with fail
          refine (startM_any wr).mono ?_
          rintro e w3 ⟨v3, rfl, hS3, hB3⟩
          have hC3 : Below w.heap.size w w3 := hB.trans (hB3.mono hbs)
          have hcell3 : ∀ j (h : j < P.length), w3.cell? ⟨g2, j, none⟩ = some (.int .u8 (P[j].toNat : Int)) := fun j h => by rw [hB3.cell (p := ⟨g2, j, none⟩) hgw]; exact hcell j h
          have HC3 : Hid (∀ j (h : j < P.length), w3.cell? ⟨g2, j, none⟩ = some (.int .u8 (P[j].toNat : Int))) := hcell3
          have hg3 : g2 < w3.heap.size := Nat.lt_of_lt_of_le hgw hB3.size
          have HBC : Hid (Below w.heap.size w w3) := hC3
          clear hcell hcell3 hB3 hB hC3 hgw
          obtain ⟨N, hN⟩ : ∃ N, s.size + 1 + gap s.size + 8 = N := ⟨_, rfl⟩
          rw [hN] at hlen ⊢
          rw [hlen] at hlc2
          have hNl : N ≤ 21000 := by omega
          clear hN hXl
          go_wp2_with fail
          go_loopw [6, 7] (fun vs i u => ∃ (m : Nat) (st : St), 64 * m ≤ N ∧ i = .int .i64 (64 * (m : Int)) ∧ st.ok ∧ StAt u vs st ∧ Hid (take start P = take st (P.drop (64 * m))) ∧ Below w3.heap.size w3 u) (fun _ i _ => N - (intOf i).toNat)
          case atStart => exact ⟨0, start, by omega, rfl, start_ok, hS3, rfl, Below.refl _ _⟩
          case round =>
            clear hS3
            obtain ⟨m, st, hm, rfl, hst, hSt, HTK, hB⟩ := hrel
            have hbs := hB.size
            by_cases hlt : 64 * m < N
            · have hfit : 64 * m + 64 ≤ N := by omega
              have hc : ∀ j (h : j < P.length), wr.cell? ⟨g2, j, none⟩ = some (.int .u8 (P[j].toNat : Int)) := fun j h => by rw [hB.cell (p := ⟨g2, j, none⟩) hg3]; exact HC3.out j h
              have hpart := row_part (B := 0) (cap := 0) hc (64 * m) 64 (c2 - 64 * m) (by omega)
              have hsz : (⟨((P.drop (64 * m)).take 64).toArray⟩ : ByteArray).size = 64 := by simp [ByteArray.size]; omega
              clear hc
              have HSt : Hid (StAt wr _ st) := hSt
              obtain ⟨q, cq, rfl, hq⟩ := hSt
              clear hq
              have HE : Hid (take start P = take (block st ((P.drop (64 * m)).take 64)) (P.drop (64 * (m + 1)))) := by
                show _ = _
                rw [HTK.out, take_ge (l := P.drop (64 * m)) (by simp; omega), List.drop_drop, show 64 * m + 64 = 64 * (m + 1) by omega]
              go_wp2_with (go_at_call 83; refine (blockM_any st _ _ wr hst hsz HSt.out).mono ?_; rintro e w4 ⟨v4, rfl, hS4, hB4⟩; have HS4 : Hid (StAt w4 v4 (block st ((P.drop (64 * m)).take 64))) := hS4; have HB4 : Hid (Below w3.heap.size w3 w4) := hB.trans (hB4.mono hbs); clear hS4 hB4)
              go_roundw
              case rel =>
                exact ⟨m + 1, _, by omega, by go_num, block_ok _ _, HS4.out, HE, HB4.out⟩
              case measure => simp [intOf]; omega
            · have hme : 64 * m = N := by omega
              have HEND : Hid ((take start P).1 = st) := by
                show _ = _
                rw [HTK.out, take_lt (by simp; omega)]
              have HBD : Hid (Below w.heap.size w wr) := HBC.out.trans (hB.mono HBC.out.size)
              have HSt : Hid (∀ i, i < 8 → ∃ x : Int, x = st.nums.getD i 0) := fun i _ => ⟨_, rfl⟩
              obtain ⟨q, cq, rfl, hq⟩ := hSt
              have HQ : Hid (∀ i, i < 8 → wr.cell? ⟨q, i, none⟩ = some (.int .i64 (st.nums.getD i 0))) := hq
              have hql : q < wr.heap.size := block_lt_of_cell (hq 0 (by omega))
              clear hq hB HSt
              have HSHA : Hid (strOfNums (toldN st 8) = shaB s.data.toList) := by
                show _ = _
                rw [toldN_all, ← HEND.out, HP.out]; rfl
              go_wp2_with fail
              have ho5 : (wr.alloc (.cells #[] 5)).ownsRow wr.heap.size 5 1 (.slice (some ⟨wr.heap.size, 0, none⟩) 0 0) (4 * 0) ((toldN st 0).map (Value.int .u8)) := ⟨rfl, Or.inr ⟨wr.heap.size, 0, #[], rfl, Nat.le_refl _, heap_alloc_new _ _, Nat.le_refl _, Nat.zero_le _, rfl, rfl⟩⟩
              have hb5 : Below wr.heap.size wr (wr.alloc (.cells #[] 5)) := (Below.refl _ _).alloc (Nat.le_refl _) _
              refine wp_world (fun u => u.ownsRow wr.heap.size 5 1 (.slice (some ⟨wr.heap.size, 0, none⟩) 0 0) (4 * 0) ((toldN st 0).map (Value.int .u8)) ∧ Below wr.heap.size wr u) ⟨ho5, hb5⟩ ?_
              clear ho5 hb5
              rintro w5 ⟨ho5, hb5⟩
              obtain ⟨w9, hw9⟩ : ∃ w9 : World, w9 = wr := ⟨_, rfl⟩
              subst hw9
              go_loopw [8, 9, 10] (fun v i _ u => ∃ k : Nat, k ≤ 8 ∧ i = .int .i64 k ∧ u.ownsRow w9.heap.size 5 1 v (4 * k) ((toldN st k).map (Value.int .u8)) ∧ Below w9.heap.size w9 u) (fun _ i _ _ => 8 - (intOf i).toNat)
              case atStart => exact ⟨0, by omega, rfl, ho5, hb5⟩
              case round =>
                clear ho5 hb5
                obtain ⟨k, hk, rfl, hown, hB⟩ := hrel
                have hbs : w9.heap.size ≤ wr.heap.size := hB.size
                have HO := own_base hown
                by_cases hlt : k < 8
                · have hc : wr.cell? ⟨q, k, none⟩ = some (.int .i64 (st.nums.getD k 0)) := by rw [hB.cell (p := ⟨q, k, none⟩) hql]; exact HQ.out k hlt
                  obtain ⟨x0, x1⟩ := nums_U hst k hlt
                  have HT' : Hid (toldN st (k + 1) = toldN st k ++ tellN (st.nums.getD k 0)) := toldN_succ st k hlt
                  generalize st.nums.getD k 0 = x at *
                  go_wp2_with (at_builtin; go_must (refine wpList_append_own _ rfl _ _ 22 rfl w9.heap.size 5 i0 (.int .u8 0) 1 1 Tryd.underlying22 hi hz0 hz1 hz2 rfl (by decide) _ _ _ rfl (hown.alloc _) ⟨wr.heap.size, 0, none⟩ 4 4 [_, _, _, _] rfl rfl (cell_four_new _ _ _ _ _ _) (fun x hx => by simp at hx; rcases hx with rfl | rfl | rfl | rfl <;> rfl) (by unfold maxLen; omega) (by omega) (by simp; omega) ?_))
                  intro v' w6 hown' hgrow _
                  have HO2 : Hid _ := hown'
                  have HB2 : Hid (Below w9.heap.size w9 w6) := (hB.alloc hbs _).grown hgrow (by simp; omega) HO.out
                  clear hown' hgrow
                  go_wp2
                  go_roundw
                  case rel =>
                    refine ⟨k + 1, by omega, by go_num, ?_, HB2.out⟩
                    have e0 : x / 16777216 % 256 = x / 16777216 := by omega
                    rw [HT'.out, List.map_append, show 4 * (k + 1) = 4 * k + 4 by omega]
                    show World.ownsRow _ _ _ _ _ _ ((toldN st k).map (Value.int .u8) ++ [.int .u8 (x / 16777216 % 256), .int .u8 (x / 65536 % 256), .int .u8 (x / 256 % 256), .int .u8 (x % 256)])
                    rw [e0]
                    exact HO2.out
                  case measure => simp [intOf]; omega
                · obtain rfl : k = 8 := by omega
                  have hconv := conv_owned hown
                  have HBE : Hid (Below w.heap.size w wr) := HBD.out.trans (hB.mono HBD.out.size)
                  clear hB hown
                  go_wp2
                  go_ret
                  exact ⟨ret_str HSHA.out, HBE.out⟩
end Go.Proofs.YtcfekhahibklfaaDoor.sh
