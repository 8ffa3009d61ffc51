/-
  The program's 64 numbers of a block: of 64 bytes it hands back the numbers that the plain function tells; no old block turns.
-/
import Derived.Test.YtcfekhahibklfaaDoorShaRound
namespace Go.Proofs.YtcfekhahibklfaaDoor.sh
open Go.ChangeShapes Go.WideShapes Go.ChangeAt Go.RowKit
set_option linter.unusedVariables false

/-- numbers in a row of 64 cells, the rest 0 -/
def cells64 (l : List Int) : Array Value := ((l ++ List.replicate (64 - l.length) 0).map (Value.int .u32)).toArray
theorem cells64_size (l : List Int) (h : l.length ≤ 64) : (cells64 l).size = 64 := by simp [cells64]; omega
theorem cells64_at (l : List Int) (i : Nat) (h : i < 64) (hl : l.length ≤ 64) : (cells64 l)[i]? = some (.int .u32 (l.getD i 0)) := by
  simp only [cells64, List.getElem?_toArray, List.getElem?_map]
  rcases Nat.lt_or_ge i l.length with h' | h'
  · rw [List.getElem?_append_left h', List.getD_eq_getElem?_getD, List.getElem?_eq_getElem h']; rfl
  · rw [List.getElem?_append_right h', List.getElem?_replicate, if_pos (by omega), List.getD_eq_getElem?_getD, List.getElem?_eq_none h']; rfl
theorem cells64_set (l : List Int) (x : Int) (h : l.length < 64) : (cells64 l).setIfInBounds l.length (.int .u32 x) = cells64 (l ++ [x]) := by
  obtain ⟨m, hm⟩ : ∃ m, 64 - l.length = m + 1 := ⟨63 - l.length, by omega⟩
  have hm' : 64 - (l ++ [x]).length = m := by simp; omega
  unfold cells64
  rw [hm, hm']
  apply Array.ext'
  simp [List.replicate_succ]
theorem cells64_full (l : List Int) (h : l.length = 64) : cells64 l = (l.map (Value.int .u32)).toArray := by simp [cells64, h]

theorem cells64_one (l : List Int) : (cells64 l).all (·.oneCell') = true := by
  unfold cells64
  refine all_oneCell_toArray fun v hv => ?_
  obtain ⟨x, _, rfl⟩ := List.mem_map.1 hv
  rfl
theorem info64 : (Tryd.prog.info? 123).map (·.size) = some 64 := by kernel_rfl
theorem byteAt_of (s : ByteArray) (i : Nat) (h : i < s.size) : byteAt s.data.toList i = (s[i].toNat : Int) := by
  unfold byteAt
  rw [List.getD_eq_getElem?_getD, List.getElem?_eq_getElem (by simpa using h)]
  rfl

theorem wordAt_of (s : ByteArray) (k : Nat) (h : 4 * k + 3 < s.size) : wordAt s.data.toList k = bits .or .u32 (bits .or .u32 (bits .or .u32 ((s[4 * k].toNat : Int) % 4294967296 * 16777216 % 4294967296) ((s[4 * k + 1].toNat : Int) % 4294967296 * 65536 % 4294967296)) ((s[4 * k + 2].toNat : Int) % 4294967296 * 256 % 4294967296)) ((s[4 * k + 3].toNat : Int) % 4294967296) := by
  have b0 := s[4 * k].toNat_lt
  have b1 := s[4 * k + 1].toNat_lt
  have b2 := s[4 * k + 2].toNat_lt
  have b3 := s[4 * k + 3].toNat_lt
  have x0 : (s[4 * k].toNat : Int) % 4294967296 * 16777216 % 4294967296 = wr ((s[4 * k].toNat : Int) * 2 ^ 24) := by unfold wr; rw [IntKind.wrap_u32]; omega
  have x1 : (s[4 * k + 1].toNat : Int) % 4294967296 * 65536 % 4294967296 = wr ((s[4 * k + 1].toNat : Int) * 2 ^ 16) := by unfold wr; rw [IntKind.wrap_u32]; omega
  have x2 : (s[4 * k + 2].toNat : Int) % 4294967296 * 256 % 4294967296 = wr ((s[4 * k + 2].toNat : Int) * 2 ^ 8) := by unfold wr; rw [IntKind.wrap_u32]; omega
  have x3 : (s[4 * k + 3].toNat : Int) % 4294967296 = s[4 * k + 3].toNat := by omega
  unfold wordAt word
  rw [byteAt_of s _ (by omega), byteAt_of s _ (by omega), byteAt_of s _ (by omega), byteAt_of s _ (by omega), x0, x1, x2, x3]
theorem word_U (l : List Int) (hl : ∀ x ∈ l, U x) (i : Nat) : U (l.getD i 0) := by
  rw [List.getD_eq_getElem?_getD]
  cases e : l[i]? with
  | none => exact ⟨by decide, by decide⟩
  | some x => exact hl x (List.mem_of_getElem? e)

set_option maxRecDepth 20000 in
set_option maxHeartbeats 8000000 in
theorem words_any (s : ByteArray) (w : World) (hs : s.size = 64) :
    Calls Tryd.prog 89 #[.string s] w fun e w' => e = .returned (.agg ((words s.data.toList 64).map (Value.int .u32)).toArray) ∧ Below w.heap.size w w' := by
  go_enter Tryd.func89, Tryd.ntmps89
  go_wp2
  go_loopw [4, 10] (fun _ i u => ∃ k : Nat, k ≤ 16 ∧ i = .int .i64 k ∧ Below w.heap.size w u ∧ Hid (u.heap[w.heap.size]? = some (.cells (cells64 []) 123 (0, 0))) ∧ Hid (u.heap[w.heap.size + 1]? = some (.cells (cells64 (words s.data.toList k)) 123 (0, 0)))) (fun _ i _ => 16 - (intOf i).toNat)
  case atStart => exact ⟨0, by omega, rfl, ((Below.refl _ _).alloc (Nat.le_refl _) _).alloc (((Below.refl _ _).alloc (Nat.le_refl _) _).size) _, heap_alloc2_old _ _ _, heap_alloc2_new _ _ _⟩
  case round =>
    obtain ⟨k, hk, rfl, hB, H0, H1⟩ := hrel
    by_cases hlt : k < 16
    · have hc : wr.cell? ⟨w.heap.size + 1, k, none⟩ = some (.int .u32 0) := by
        rw [cell_of_row _ _ _ _ _ _ H1.out, cells64_at _ _ (by omega) (by rw [words_length]; omega), List.getD_eq_getElem?_getD, List.getElem?_eq_none (by rw [words_length]; omega)]; rfl
      have hf : wr.frozen? ⟨w.heap.size + 1, k, none⟩ = false := frozen_of_row _ _ _ _ _ H1.out
      have e0 : IntKind.i64.wrap (4 * (k : Int)) = 4 * (k : Int) := by rw [IntKind.wrap_i64]; omega
      have e1 : IntKind.i64.wrap (4 * (k : Int) + 1) = 4 * (k : Int) + 1 := by rw [IntKind.wrap_i64]; omega
      have e2 : IntKind.i64.wrap (4 * (k : Int) + 2) = 4 * (k : Int) + 2 := by rw [IntKind.wrap_i64]; omega
      have e3 : IntKind.i64.wrap (4 * (k : Int) + 3) = 4 * (k : Int) + 3 := by rw [IntKind.wrap_i64]; omega
      have i0 : 0 ≤ 4 * (k : Int) ∧ 4 * (k : Int) < 64 := by omega
      have i1 : 0 ≤ 4 * (k : Int) + 1 ∧ 4 * (k : Int) + 1 < 64 := by omega
      have i2 : 0 ≤ 4 * (k : Int) + 2 ∧ 4 * (k : Int) + 2 < 64 := by omega
      have i3 : 0 ≤ 4 * (k : Int) + 3 ∧ 4 * (k : Int) + 3 < 64 := by omega
      have HW : Hid (∀ x, x = wordAt s.data.toList k → Below w.heap.size w (wr.setCell ⟨w.heap.size + 1, k, none⟩ (.int .u32 x)).drew ∧ Hid ((wr.setCell ⟨w.heap.size + 1, k, none⟩ (.int .u32 x)).drew.heap[w.heap.size]? = some (.cells (cells64 []) 123 (0, 0))) ∧ Hid ((wr.setCell ⟨w.heap.size + 1, k, none⟩ (.int .u32 x)).drew.heap[w.heap.size + 1]? = some (.cells (cells64 (words s.data.toList (k + 1))) 123 (0, 0)))) := by
        intro x hx
        refine ⟨(hB.setCell (by show _ ≤ w.heap.size + 1; omega) _).drew, ?_, ?_⟩
        · exact (heap_setCell_other _ _ _ _ (by show w.heap.size ≠ w.heap.size + 1; omega)).trans H0.out
        · refine (heap_setCell_same _ _ _ _ _ _ H1.out).trans ?_
          rw [words_succ_lo _ _ hlt, ← cells64_set _ _ (by rw [words_length]; omega), words_length, hx]
      have HV : Hid (wordAt s.data.toList k = bits .or .u32 (bits .or .u32 (bits .or .u32 ((s[4 * k].toNat : Int) % 4294967296 * 16777216 % 4294967296) ((s[4 * k + 1].toNat : Int) % 4294967296 * 65536 % 4294967296)) ((s[4 * k + 2].toNat : Int) % 4294967296 * 256 % 4294967296)) ((s[4 * k + 3].toNat : Int) % 4294967296)) := by
        exact wordAt_of s k (by omega)
      clear H0 H1
      go_wp2
      go_region
      go_wp2
      go_roundw
      case rel => exact ⟨k + 1, by omega, by go_num, HW.out _ HV.out.symm⟩
      case measure => simp [intOf]; omega
    · obtain rfl : k = 16 := by omega
      go_wp2
      go_loopw [5, 6, 7, 8, 9] (fun i _ _ _ _ u => ∃ j : Nat, j ≤ 48 ∧ i = .int .i64 ((j : Int) + 16) ∧ Below w.heap.size w u ∧ Hid (u.heap[w.heap.size]? = some (.cells (cells64 []) 123 (0, 0))) ∧ Hid (u.heap[w.heap.size + 1]? = some (.cells (cells64 (words s.data.toList (j + 16))) 123 (0, 0)))) (fun i _ _ _ _ _ => 64 - (intOf i).toNat)
      case atStart => exact ⟨0, by omega, rfl, hB, H0, H1⟩
      case round =>
        clear hB H0 H1
        obtain ⟨j, hj, rfl, hB, H0, H1⟩ := hrel
        by_cases hlt : j < 48
        · have hat : ∀ i, i < 64 → wr.cell? ⟨w.heap.size + 1, i, none⟩ = some (.int .u32 ((words s.data.toList (j + 16)).getD i 0)) := fun i hi => by
            rw [cell_of_row _ _ _ _ _ _ H1.out, cells64_at _ _ hi (by rw [words_length]; omega)]
          have hu : ∀ i, U ((words s.data.toList (j + 16)).getD i 0) := word_U _ (words_U _ _)
          have e15 : IntKind.i64.wrap ((j : Int) + 16 - 15) = (j : Int) + 1 := by rw [IntKind.wrap_i64]; omega
          have e2 : IntKind.i64.wrap ((j : Int) + 16 - 2) = (j : Int) + 14 := by rw [IntKind.wrap_i64]; omega
          have e16 : IntKind.i64.wrap ((j : Int) + 16 - 16) = (j : Int) := by rw [IntKind.wrap_i64]; omega
          have e7 : IntKind.i64.wrap ((j : Int) + 16 - 7) = (j : Int) + 9 := by rw [IntKind.wrap_i64]; omega
          have c15 := hat (j + 1) (by omega)
          have c2 := hat (j + 14) (by omega)
          have c16 := hat j (by omega)
          have c7 := hat (j + 9) (by omega)
          have cc := hat (j + 16) (by omega)
          have hf : wr.frozen? ⟨w.heap.size + 1, j + 16, none⟩ = false := frozen_of_row _ _ _ _ _ H1.out
          have hy1 := hu (j + 1)
          have hy2 := hu (j + 14)
          clear hat hu
          have HW : Hid (∀ x n, x = next (words s.data.toList (j + 16)) → Below w.heap.size w ((wr.drewN n).setCell ⟨w.heap.size + 1, j + 16, none⟩ (.int .u32 x)) ∧ Hid (((wr.drewN n).setCell ⟨w.heap.size + 1, j + 16, none⟩ (.int .u32 x)).heap[w.heap.size]? = some (.cells (cells64 []) 123 (0, 0))) ∧ Hid (((wr.drewN n).setCell ⟨w.heap.size + 1, j + 16, none⟩ (.int .u32 x)).heap[w.heap.size + 1]? = some (.cells (cells64 (words s.data.toList (j + 1 + 16))) 123 (0, 0)))) := by
            intro x n hx
            refine ⟨(below_drewN hB n).setCell (by show _ ≤ w.heap.size + 1; omega) _, ?_, ?_⟩
            · exact (heap_setCell_other _ _ _ _ (by show w.heap.size ≠ w.heap.size + 1; omega)).trans H0.out
            · refine (heap_setCell_same (wr.drewN n) _ _ _ _ _ H1.out).trans ?_
              rw [show j + 1 + 16 = (j + 16) + 1 by omega, words_succ_hi _ (j + 16) (by omega), ← cells64_set _ _ (by rw [words_length]; omega), words_length, hx]
          have HN : Hid (next (words s.data.toList (j + 16)) = sh.wr (sh.wr (sh.wr ((words s.data.toList (j + 16)).getD j 0 + s0 ((words s.data.toList (j + 16)).getD (j + 1) 0)) + (words s.data.toList (j + 16)).getD (j + 9) 0) + s1 ((words s.data.toList (j + 16)).getD (j + 14) 0))) := by
            show _ = _
            unfold next
            rw [words_length, show j + 16 - 16 = j by omega, show j + 16 - 15 = j + 1 by omega, show j + 16 - 7 = j + 9 by omega, show j + 16 - 2 = j + 14 by omega]
          clear H0 H1
          generalize (words s.data.toList (j + 16)).getD (j + 1) 0 = y1 at *
          generalize (words s.data.toList (j + 16)).getD (j + 14) 0 = y2 at *
          generalize (words s.data.toList (j + 16)).getD (j + 9) 0 = y3 at *
          generalize (words s.data.toList (j + 16)).getD j 0 = y4 at *
          go_wp2
          go_quiet (fail)
          go_wp2_with (go_at_call 91; refine (right_any _ _ _ ⟨by decide, by decide⟩ ‹_›).mono ?_; rintro e w' ⟨rfl, rfl⟩)
          go_region
          go_wp2
          go_roundw
          case rel =>
            (repeat apply Exists.intro)
            refine ⟨⟨j + 1, by omega, by go_num, HW.out _ _ ?_⟩, rfl⟩
            rw [HN.out]
            simp only [s0, s1, sh.wr, IntKind.wrap_u32, sh.xor, show ((2 : Int) ^ 3) = 8 by decide, show ((2 : Int) ^ 10) = 1024 by decide]
            omega
          case measure => simp [intOf]; omega
        · obtain rfl : j = 48 := by omega
          go_wp2_with (first | (refine wpList_load_row rfl 123 _ rfl (w.heap.size + 1) rfl _ _ _ _ H1.out Tryd.underlying123 rfl (info64.trans (congrArg some (cells64_size _ (by rw [words_length]; omega)).symm)) ?_) | (refine wpList_store_row rfl 123 _ _ rfl w.heap.size _ rfl rfl _ _ H0.out (info64.trans (congrArg some (cells64_size _ (by rw [words_length]; omega)).symm)) ((cells64_size [] (by decide)).trans (cells64_size _ (by rw [words_length]; omega)).symm) (cells64_one _) ?_))
          refine bodyPost_ret (results_cell_row Tryd.results89 _ _ w.heap.size _ _ _ _ rfl (setRow_heap _ _ _ _ _ _ H0.out) Tryd.underlying123 rfl (info64.trans (congrArg some (cells64_size _ (by rw [words_length]; omega)).symm))) rfl ⟨?_, below_setRow hB (Nat.le_refl _) _⟩
          rw [cells64_full _ (words_length _ _)]
end Go.Proofs.YtcfekhahibklfaaDoor.sh
