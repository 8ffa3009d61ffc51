/-
  The program's sixteen numbers at first, of a key of 32 bytes, a counter and a nonce of 12: those of the plain function; no old block turns.
-/
import Derived.Test.YtneahcoakbbdaaaDoorChaIA
import Derived.Test.YtneahcoakbbdaaaDoorChaText
import Derived.Test.YtneahcoakbbdaaaDoorJoin
namespace Go.Proofs.YtneahcoakbbdaaaDoor.cc
open Go.ChangeShapes Go.WideShapes Go.ChangeAt Go.RowKit
open Go.Proofs.YtneahcoakbbdaaaDoor.sh (U bits_U wr_U byteAt)
set_option linter.unusedVariables false

def cells16 (l : List Int) : Array Value := ((l ++ List.replicate (16 - l.length) 0).map (Value.int .u32)).toArray
theorem cells16_size (l : List Int) (h : l.length ≤ 16) : (cells16 l).size = 16 := by simp [cells16]; omega
theorem cells16_at (l : List Int) (i : Nat) (hi : i < 16) (hl : l.length ≤ 16) : (cells16 l)[i]? = some (.int .u32 (l.getD i 0)) := by
  unfold cells16
  rw [List.getElem?_toArray, List.getElem?_map]
  rcases Nat.lt_or_ge i l.length with h' | h'
  · rw [List.getElem?_append_left h', List.getD_eq_getElem?_getD, List.getElem?_eq_getElem h']; rfl
  · rw [List.getElem?_append_right h', List.getElem?_replicate, if_pos (by omega), List.getD_eq_getElem?_getD, List.getElem?_eq_none h']; rfl
theorem cells16_set (l : List Int) (x : Int) (h : l.length < 16) : (cells16 l).setIfInBounds l.length (.int .u32 x) = cells16 (l ++ [x]) := by
  obtain ⟨m, hm⟩ : ∃ m, 16 - l.length = m + 1 := ⟨15 - l.length, by omega⟩
  have hm' : 16 - (l ++ [x]).length = m := by simp; omega
  unfold cells16
  rw [hm, hm']
  apply Array.ext'
  simp [List.replicate_succ]
theorem cells16_full (l : List Int) (h : l.length = 16) : cells16 l = (l.map (Value.int .u32)).toArray := by simp [cells16, h]
theorem cells16_one (l : List Int) : (cells16 l).all (·.oneCell') = true := by
  unfold cells16
  refine all_oneCell_toArray fun v hv => ?_
  obtain ⟨x, _, rfl⟩ := List.mem_map.1 hv
  rfl
theorem info16 : (Tryd.prog.info? 110).map (·.size) = some 16 := by kernel_rfl
theorem infoc (l : List Int) (h : l.length ≤ 16) : (Tryd.prog.info? 110).map (·.size) = some (cells16 l).size := info16.trans (congrArg some (cells16_size _ h).symm)
theorem byteOf (s : ByteArray) (i : Nat) (h : i < s.size) : byteAt s.data.toList i = (s[i].toNat : Int) := by
  unfold byteAt
  rw [List.getD_eq_getElem?_getD, List.getElem?_eq_getElem (by simpa using h)]
  rfl
theorem lowOf (s : ByteArray) (k : Nat) (h : 4 * k + 3 < s.size) : lowAt s.data.toList k = bits .or .u32 (bits .or .u32 (bits .or .u32 ((s[4 * k].toNat : Int) % 4294967296) ((s[4 * k + 1].toNat : Int) % 4294967296 * 256 % 4294967296)) ((s[4 * k + 2].toNat : Int) % 4294967296 * 65536 % 4294967296)) ((s[4 * k + 3].toNat : Int) % 4294967296 * 16777216 % 4294967296) := by
  have b0 := s[4 * k].toNat_lt
  have b1 := s[4 * k + 1].toNat_lt
  have b2 := s[4 * k + 2].toNat_lt
  have b3 := s[4 * k + 3].toNat_lt
  have x3 : (s[4 * k + 3].toNat : Int) % 4294967296 * 16777216 % 4294967296 = sh.wr ((s[4 * k + 3].toNat : Int) * 2 ^ 24) := by unfold sh.wr; rw [IntKind.wrap_u32]; omega
  have x2 : (s[4 * k + 2].toNat : Int) % 4294967296 * 65536 % 4294967296 = sh.wr ((s[4 * k + 2].toNat : Int) * 2 ^ 16) := by unfold sh.wr; rw [IntKind.wrap_u32]; omega
  have x1 : (s[4 * k + 1].toNat : Int) % 4294967296 * 256 % 4294967296 = sh.wr ((s[4 * k + 1].toNat : Int) * 2 ^ 8) := by unfold sh.wr; rw [IntKind.wrap_u32]; omega
  have x0 : (s[4 * k].toNat : Int) % 4294967296 = s[4 * k].toNat := by omega
  unfold lowAt lowWord
  rw [byteOf s _ (by omega), byteOf s _ (by omega), byteOf s _ (by omega), byteOf s _ (by omega), x0, x1, x2, x3]
theorem lows_next (b : List UInt8) (k : Nat) : lows b (k + 1) = lows b k ++ [lowAt b k] := by simp [lows, List.range_succ]
theorem lows_len (b : List UInt8) (k : Nat) : (lows b k).length = k := by simp [lows]

theorem joined4 (a b c d : ByteArray) (u : World) (h : a.size + b.size + c.size + d.size ≤ 1099511627776) :
    Calls Tryd.prog 31 #[.slice (some ⟨u.heap.size, 0, none⟩) 4 4] (u.alloc (.cells #[.string a, .string b, .string c, .string d] 9)) fun e w' => e = .returned (.string ⟨(a.data.toList ++ b.data.toList ++ c.data.toList ++ d.data.toList).toArray⟩) ∧ Below u.heap.size u w' := by
  refine (jo.joined_any [a, b, c, d] u.heap.size 4 (u.alloc (.cells #[.string a, .string b, .string c, .string d] 9)) (by simp) (by simp) (by simp [jo.total]; omega) (fun i hi => ?_)).mono ?_
  · match i, hi with
    | 0, _ => simp
    | 1, _ => simp
    | 2, _ => simp
    | 3, _ => simp
  · rintro e w' ⟨rfl, hb⟩
    refine ⟨?_, ((Below.refl _ _).alloc (Nat.le_refl _) _).trans (hb.mono (by simp))⟩
    simp [jo.joinB, jo.bytesOf]
theorem heap_lt {w : World} {p : Nat} {o : Obj} (h : w.heap[p]? = some o) : p < w.heap.size := by
  rcases Nat.lt_or_ge p w.heap.size with h' | h'
  · exact h'
  · simp [Array.getElem?_eq_none h'] at h
theorem calls_w {P : Program} {f : Nat} {args : Array Value} {w : World} {Q : Ending → World → Prop} (I : World → Prop) (hI : I w) (h : ∀ u, I u → Calls P f args u Q) : Calls P f args w Q := h w hI
def expandB : ByteArray := ⟨#[101, 120, 112, 97, 110, 100, 32, 51, 50, 45, 98, 121, 116, 101, 32, 107]⟩

set_option maxRecDepth 20000 in
set_option maxHeartbeats 8000000 in
theorem new_any (key nonce : ByteArray) (n : Int) (w : World) (hk : key.size = 32) (hn : nonce.size = 12) (hc : U n) :
    Calls Tryd.prog 84 #[.string key, .int .i64 n, .string nonce] w fun e w' => e = .returned (.agg ((first key.data.toList n nonce.data.toList).map (Value.int .u32)).toArray) ∧ Below w.heap.size w w' := by
  have hkl : key.data.toList.length = 32 := by simpa using hk
  have hnl : nonce.data.toList.length = 12 := by simpa using hn
  obtain ⟨T, hT⟩ : ∃ T : ByteArray, T = ⟨(expandB.data.toList ++ key.data.toList ++ lowL n 4 ++ nonce.data.toList).toArray⟩ := ⟨_, rfl⟩
  have hTs : T.size = 64 := by
    rw [hT]; show (List.toArray _).size = 64
    rw [List.size_toArray]; simp [hkl, hnl, lowL_length, expandB]
  have HF : Hid (lows T.data.toList 16 = first key.data.toList n nonce.data.toList) := by
    show _ = _
    rw [hT]; exact first_join _ _ _ hkl hnl hc
  have HT : Hid (T = ⟨(expandB.data.toList ++ key.data.toList ++ lowL n 4 ++ nonce.data.toList).toArray⟩) := hT
  have HJ : Hid (expandB.size + key.size + (⟨(lowL n 4).toArray⟩ : ByteArray).size + nonce.size ≤ 1099511627776) := by
    show _ ≤ _
    have : (⟨(lowL n 4).toArray⟩ : ByteArray).size = 4 := by show (List.toArray _).size = 4; rw [List.size_toArray, lowL_length]
    rw [this, hk, hn]; decide
  clear hT hkl hnl
  obtain ⟨c0, c1⟩ := hc
  have e0 : IntKind.u64.wrap n = n := by rw [IntKind.wrap_u64]; omega
  go_enter Tryd.func84, Tryd.ntmps84
  go_wp2_with (first | (go_at_call 62; fail) | (go_at_call 31; fail))
  refine calls_w (fun u => Below w.heap.size w u ∧ u.heap[w.heap.size]? = some (.cells (cells16 []) 110 (0, 0))) ⟨(Below.refl _ _).alloc (Nat.le_refl _) _, heap_alloc_new _ _⟩ ?_
  rintro u0 ⟨hB0, h0⟩
  refine (low_any n 4 u0 (by omega) (by omega) (by decide)).mono ?_
  rintro e w1 ⟨rfl, hb1⟩
  have HB1 : Hid (Below w.heap.size w w1) := hB0.trans (hb1.mono hB0.size)
  have H1 : Hid (w1.heap[w.heap.size]? = some (.cells (cells16 []) 110 (0, 0))) := (hb1.block _ (heap_lt h0)).trans h0
  clear hb1 h0 hB0
  go_wp2_with (go_at_call 31; fail)
  refine (joined4 expandB key _ nonce w1 HJ.out).mono ?_
  rintro e w2 ⟨rfl, hb2⟩
  have HB2 : Hid (Below w.heap.size w w2) := HB1.out.trans (hb2.mono HB1.out.size)
  have H2 : Hid (w2.heap[w.heap.size]? = some (.cells (cells16 []) 110 (0, 0))) := (hb2.block _ (heap_lt H1.out)).trans H1.out
  have hlt2 : w.heap.size < w2.heap.size := heap_lt H2.out
  clear hb2 H1 HB1 HJ
  rw [← HT.out]
  clear HT
  go_wp2
  go_loopw [9, 17] (fun _ i u => ∃ k : Nat, k ≤ 16 ∧ i = .int .i64 k ∧ Hid (Below w.heap.size w u) ∧ Hid (u.heap[w.heap.size]? = some (.cells (cells16 []) 110 (0, 0))) ∧ Hid (u.heap[w2.heap.size]? = some (.cells (cells16 (lows T.data.toList k)) 110 (0, 0)))) (fun _ i _ => 16 - (intOf i).toNat)
  case atStart => exact ⟨0, by omega, rfl, HB2.out.alloc HB2.out.size _, (Below.heap_alloc _ _ _ hlt2).trans H2.out, heap_alloc_new _ _⟩
  case round =>
    clear HB2 H2
    obtain ⟨k, hk', rfl, HB, H0, H1⟩ := hrel
    by_cases hlt : k < 16
    · have hc : wr.cell? ⟨w2.heap.size, k, none⟩ = some (.int .u32 0) := by
        rw [cell_of_row _ _ _ _ _ _ H1.out, cells16_at _ _ (by omega) (by rw [lows_len]; omega), List.getD_eq_getElem?_getD, List.getElem?_eq_none (by rw [lows_len]; omega)]; rfl
      have hf : wr.frozen? ⟨w2.heap.size, k, none⟩ = false := frozen_of_row _ _ _ _ _ H1.out
      have e0 : IntKind.i64.wrap (4 * (k : Int)) = 4 * (k : Int) := by rw [IntKind.wrap_i64]; omega
      have e1 : IntKind.i64.wrap (4 * (k : Int) + 1) = 4 * (k : Int) + 1 := by rw [IntKind.wrap_i64]; omega
      have e2 : IntKind.i64.wrap (4 * (k : Int) + 2) = 4 * (k : Int) + 2 := by rw [IntKind.wrap_i64]; omega
      have e3 : IntKind.i64.wrap (4 * (k : Int) + 3) = 4 * (k : Int) + 3 := by rw [IntKind.wrap_i64]; omega
      have i0 : 0 ≤ 4 * (k : Int) ∧ 4 * (k : Int) < 64 := by omega
      have i1 : 0 ≤ 4 * (k : Int) + 1 ∧ 4 * (k : Int) + 1 < 64 := by omega
      have i2 : 0 ≤ 4 * (k : Int) + 2 ∧ 4 * (k : Int) + 2 < 64 := by omega
      have i3 : 0 ≤ 4 * (k : Int) + 3 ∧ 4 * (k : Int) + 3 < 64 := by omega
      have HW : Hid (∀ x, x = lowAt T.data.toList k → Hid (Below w.heap.size w (wr.setCell ⟨w2.heap.size, k, none⟩ (.int .u32 x)).drew) ∧ Hid ((wr.setCell ⟨w2.heap.size, k, none⟩ (.int .u32 x)).drew.heap[w.heap.size]? = some (.cells (cells16 []) 110 (0, 0))) ∧ Hid ((wr.setCell ⟨w2.heap.size, k, none⟩ (.int .u32 x)).drew.heap[w2.heap.size]? = some (.cells (cells16 (lows T.data.toList (k + 1))) 110 (0, 0)))) := by
        intro x hx
        refine ⟨(HB.out.setCell (by show _ ≤ w2.heap.size; omega) _).drew, ?_, ?_⟩
        · exact (heap_setCell_other _ _ _ _ (by show w.heap.size ≠ w2.heap.size; omega)).trans H0.out
        · refine (heap_setCell_same _ _ _ _ _ _ H1.out).trans ?_
          rw [lows_next, ← cells16_set _ _ (by rw [lows_len]; omega), lows_len, hx]
      have HV : Hid (lowAt T.data.toList k = _) := lowOf T k (by omega)
      clear H0 H1 HB
      go_wp2
      go_region
      go_wp2
      go_roundw
      case rel => exact ⟨k + 1, by omega, by go_num, HW.out _ HV.out.symm⟩
      case measure => simp [intOf]; omega
    · obtain rfl : k = 16 := by omega
      go_wp2_with (first | (refine wpList_load_row rfl 110 _ rfl w2.heap.size rfl _ _ _ _ H1.out Tryd.underlying110 rfl (infoc _ (by rw [lows_len]; omega)) ?_) | (refine wpList_store_row rfl 110 _ _ rfl w.heap.size _ rfl rfl _ _ H0.out (infoc _ (by rw [lows_len]; omega)) ((cells16_size [] (by decide)).trans (cells16_size _ (by rw [lows_len]; omega)).symm) (cells16_one _) ?_))
      refine bodyPost_ret (results_cell_row Tryd.results84 _ _ w.heap.size _ _ _ _ rfl (setRow_heap _ _ _ _ _ _ H0.out) Tryd.underlying110 rfl (infoc _ (by rw [lows_len]; omega))) rfl ⟨?_, below_setRow HB.out (Nat.le_refl _) _⟩
      rw [cells16_full _ (lows_len _ _), HF.out]
end Go.Proofs.YtneahcoakbbdaaaDoor.cc
