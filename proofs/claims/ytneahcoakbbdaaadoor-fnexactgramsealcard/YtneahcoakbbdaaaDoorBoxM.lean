/-
  The model's parts of a box: the nonce of a number, the test of key and number, what hides a text and what stands behind it: what the plain functions tell; no old block turns.
-/
import Derived.Test.YtneahcoakbbdaaaDoorBoxPlain
import Derived.Test.YtneahcoakbbdaaaDoorShaMM
import Derived.Test.YtneahcoakbbdaaaDoorChaCipher
import Derived.Test.YtneahcoakbbdaaaDoorChaIA
namespace Go.Proofs.YtneahcoakbbdaaaDoor.cc
open Go.ChangeShapes Go.WideShapes Go.ChangeAt Go.RowKit
open Go.Proofs.YtneahcoakbbdaaaDoor.sh (U macB macB_size macM_any)
open Go.Lib (byteCells)
set_option linter.unusedVariables false

/-- the nonce on the way: the first m bytes of the number are told -/
def nonceTo (n : Int) (m : Nat) : List UInt8 := [0, 0, 0, 0] ++ lowTo n 8 m
theorem nonceTo_length (n : Int) (m : Nat) (h : m ≤ 8) : (nonceTo n m).length = 12 := by simp [nonceTo, lowTo_length n 8 m h]
theorem nonceTo_set (n : Int) (m : Nat) (h : m < 8) (y : UInt8) (hy : y = UInt8.ofNat (n / 256 ^ m % 256).toNat) : (nonceTo n m).set (4 + m) y = nonceTo n (m + 1) := by
  unfold nonceTo
  rw [List.set_append_right _ _ (by simp), show 4 + m - [(0 : UInt8), 0, 0, 0].length = m by simp, lowTo_set n 8 m h y hy]

set_option maxRecDepth 20000 in
set_option maxHeartbeats 4000000 in
theorem nonceM_any (n : Int) (w : World) (h0 : 0 ≤ n) (h1 : n ≤ 1000000) :
    Calls Tryd.prog 60 #[.int .i64 n] w fun e w' => e = .returned (.string (nonceB n)) ∧ Below w.heap.size w w' := by
  obtain ⟨i0, hi, hz0, hz1, hz2⟩ := info_parts infoB
  have hmk : (Instr.makeSlice 91 (.int .i64 12) (.int .i64 12)).run Tryd.prog w = .ok (.slice (some ⟨w.heap.size, 0, none⟩) 12 12) (w.alloc (.cells (byteCells (nonceTo n 0)).toArray 5)) := by
    have h := run_make (P := Tryd.prog) w 91 5 i0 (.int .u8 0) Tryd.underlying91 hi hz0 .i64 .i64 12 12 (by omega) (Int.le_refl _) (by rw [hz2]; omega) (by omega)
    rw [show byteCells (nonceTo n 0) = List.replicate 12 (Value.int .u8 0) by simp [nonceTo, lowTo, byteCells, lowL], ← madeRowB]
    simpa [hz1, Value.cells] using h
  have HR0 : Hid ((w.alloc (.cells (byteCells (nonceTo n 0)).toArray 5)).heap[w.heap.size]? = some (.cells (byteCells (nonceTo n 0)).toArray 5 (0, 0))) := heap_alloc_new _ _
  have HB0 : Hid (Below w.heap.size w (w.alloc (.cells (byteCells (nonceTo n 0)).toArray 5))) := (Below.refl _ _).alloc (Nat.le_refl _) _
  generalize hW : w.alloc (.cells (byteCells (nonceTo n 0)).toArray 5) = W at *
  clear hW
  go_enter Tryd.func60, Tryd.ntmps60
  go_wp2
  clear hmk
  go_loopw [0, 4] (fun x i u => ∃ m : Nat, m ≤ 8 ∧ i = .int .i64 (4 + (m : Int)) ∧ x = .int .i64 (n / 256 ^ m) ∧ Hid (Below w.heap.size w u) ∧ Hid (u.heap[w.heap.size]? = some (.cells (byteCells (nonceTo n m)).toArray 5 (0, 0)))) (fun _ i _ => 12 - (intOf i).toNat)
  case atStart => exact ⟨0, by omega, rfl, by simp, HB0, HR0⟩
  case round =>
    clear HB0 HR0
    obtain ⟨m, hm, rfl, rfl, HB, HR⟩ := hrel
    by_cases hlt : m < 8
    · have hll := nonceTo_length n m hm
      have hp : (0 : Int) < 256 ^ m := Int.pow_pos (by decide)
      have x0 : 0 ≤ n / 256 ^ m := Int.ediv_nonneg h0 (by omega)
      have x1 : n / 256 ^ m ≤ 1000000 := Int.le_trans (Int.ediv_le_self _ h0) h1
      have HN : Hid (n / 256 ^ (m + 1) = n / 256 ^ m / 256) := by
        show _ = _
        rw [Int.pow_succ, Int.ediv_ediv_of_nonneg (by omega)]
      have hf : wr.frozen? ⟨w.heap.size, 4 + m, none⟩ = false := frozen_of_row _ _ _ _ _ HR.out
      have hc := cellB_at HR.out (4 + m) (by omega)
      have HX : Hid (∀ y, y = n / 256 ^ m % 256 → (wr.setCell ⟨w.heap.size, 4 + m, none⟩ (.int .u8 y)).heap[w.heap.size]? = some (.cells (byteCells (nonceTo n (m + 1))).toArray 5 (0, 0))) := by
        intro y hy
        have hy0 : 0 ≤ n / 256 ^ m % 256 := Int.emod_nonneg _ (by decide)
        have hy1 : n / 256 ^ m % 256 < 256 := Int.emod_lt_of_pos _ (by decide)
        have e : y = ((UInt8.ofNat (n / 256 ^ m % 256).toNat).toNat : Int) := by
          rw [hy]; simp only [UInt8.toNat_ofNat']; omega
        refine (heap_setCell_same wr _ _ _ _ _ HR.out).trans ?_
        rw [e, cellsB_set, nonceTo_set _ _ hlt _ rfl]
      have HBX : Hid (∀ x, Below w.heap.size w (wr.setCell ⟨w.heap.size, 4 + m, none⟩ x)) := fun x => HB.out.setCell (Nat.le_refl _) x
      generalize ((nonceTo n m)[4 + m]'(by omega)).toNat = z at *
      have e1 : (4 + (m : Int)).toNat = 4 + m := by omega
      clear HR HB
      generalize n / 256 ^ m = x at *
      have e2 : x.tdiv 256 = x / 256 := Int.tdiv_eq_ediv_of_nonneg x0
      go_wp2
      go_roundw
      case rel => exact ⟨m + 1, by omega, by go_num, by rw [HN.out], HBX.out _, HX.out _ (by go_num)⟩
      case measure => simp [intOf]; omega
    · obtain rfl : m = 8 := by omega
      have hend : nonceTo n 8 = nonceL n := by unfold nonceTo nonceL; rw [lowTo_end]
      have hconv : (convert 91 9 (.slice (some ⟨w.heap.size, 0, none⟩) 12 12)).run Tryd.prog wr = .ok (.string (nonceB n)) wr := by
        have h := run_convert_bytes_back (P := Tryd.prog) wr 91 9 5 ⟨w.heap.size, 0, none⟩ 12 (nonceTo n 8) Tryd.underlying91 Tryd.underlying5 Tryd.underlying9 (fun j hj => by
          have e : (⟨w.heap.size, 0, none⟩ : Addr).add j = ⟨w.heap.size, j, none⟩ := by unfold Addr.add; split <;> simp_all
          rw [e]; exact cellB_at HR.out j hj)
        rw [nonceTo_length _ _ (Nat.le_refl _), hend] at h
        exact h
      go_wp2
      go_ret
      exact ⟨rfl, HB.out⟩

theorem keyM_any (key : ByteArray) (n : Int) (w : World) (hk : key.size ≤ maxLen) :
    Calls Tryd.prog 25 #[.string key, .int .i64 n] w fun e w' => e = .returned (.bool (decide (1 ≤ key.size ∧ key.size ≤ 64 ∧ 0 ≤ n ∧ n ≤ 1000000))) ∧ w' = w := by
  unfold maxLen at hk
  by_cases h0 : 1 ≤ key.size
  · by_cases h1 : key.size ≤ 64
    · by_cases h2 : 0 ≤ n
      · by_cases h3 : n ≤ 1000000
        · rw [decide_eq_true (⟨h0, h1, h2, h3⟩ : 1 ≤ key.size ∧ key.size ≤ 64 ∧ 0 ≤ n ∧ n ≤ 1000000)]
          go_enter Tryd.func25, Tryd.ntmps25
          go_wp2
          go_ret
          exact ⟨rfl, rfl⟩
        · rw [decide_eq_false (fun h => h3 h.2.2.2)]
          go_enter Tryd.func25, Tryd.ntmps25
          go_wp2
          go_ret
          exact ⟨rfl, rfl⟩
      · rw [decide_eq_false (fun h => h2 h.2.2.1)]
        go_enter Tryd.func25, Tryd.ntmps25
        go_wp2
        go_ret
        exact ⟨rfl, rfl⟩
    · rw [decide_eq_false (fun h => h1 h.2.1)]
      go_enter Tryd.func25, Tryd.ntmps25
      go_wp2
      go_ret
      exact ⟨rfl, rfl⟩
  · rw [decide_eq_false (fun h => h0 h.1)]
    go_enter Tryd.func25, Tryd.ntmps25
    go_wp2
    go_ret
    exact ⟨rfl, rfl⟩

set_option maxHeartbeats 2000000 in
theorem hideM_any (key : ByteArray) (n : Int) (t : ByteArray) (w : World) (hk : key.size ≤ 64) (h0 : 0 ≤ n) (h1 : n ≤ 1000000) (ht : t.size ≤ 8000) :
    Calls Tryd.prog 26 #[.string key, .int .i64 n, .string t] w fun e w' => e = .returned (.string (hideB key n t)) ∧ Below w.heap.size w w' := by
  have hs := macB_size key hideW
  have HA : Hid (hideB key n t = ⟨(cipherL (macB key hideW).data.toList 1 (nonceB n).data.toList t.data.toList).toArray⟩) := rfl
  go_enter Tryd.func26, Tryd.ntmps26
  go_wp2_with fail
  refine (macM_any key hideW w (by omega) (by decide)).mono ?_
  rintro e w1 ⟨rfl, hb1⟩
  generalize macB key hideW = K at *
  go_wp2_with fail
  refine (nonceM_any n w1 h0 h1).mono ?_
  rintro e w2 ⟨rfl, hb2⟩
  have hB2 := hb1.trans (hb2.mono hb1.size)
  have hns := nonceB_size n
  generalize nonceB n = N at *
  go_wp2_with fail
  refine (cipherM_any K N t 1 w2 hs hns ⟨by decide, by decide⟩ (by omega)).mono ?_
  rintro e w3 ⟨rfl, hb3⟩
  rw [← HA.out]
  go_wp2_with fail
  go_ret
  exact ⟨rfl, hB2.trans (hb3.mono hB2.size)⟩

set_option maxHeartbeats 2000000 in
theorem signM_any (key : ByteArray) (n : Int) (h : ByteArray) (w : World) (hk : key.size ≤ 64) (h0 : 0 ≤ n) (h1 : n ≤ 1000000) (ht : h.size ≤ 7988) :
    Calls Tryd.prog 27 #[.string key, .int .i64 n, .string h] w fun e w' => e = .returned (.string (signB key n h)) ∧ Below w.heap.size w w' := by
  have hs := macB_size key signW
  have HA : Hid (signB key n h = (macB (macB key signW) (nonceB n ++ h)).extract 0 16) := rfl
  go_enter Tryd.func27, Tryd.ntmps27
  go_wp2_with fail
  refine (macM_any key signW w (by omega) (by decide)).mono ?_
  rintro e w1 ⟨rfl, hb1⟩
  generalize macB key signW = K at *
  go_wp2_with fail
  refine (nonceM_any n w1 h0 h1).mono ?_
  rintro e w2 ⟨rfl, hb2⟩
  have hB2 := hb1.trans (hb2.mono hb1.size)
  have hns := nonceB_size n
  generalize nonceB n = N at *
  go_wp2_with fail
  refine (macM_any K (N ++ h) w2 (by omega) (by rw [ByteArray.size_append]; omega)).mono ?_
  rintro e w3 ⟨rfl, hb3⟩
  have hs3 := macB_size K (N ++ h)
  generalize macB K (N ++ h) = M at *
  go_wp2_with fail
  go_ret
  rw [HA.out]
  exact ⟨rfl, hB2.trans (hb3.mono hB2.size)⟩
end Go.Proofs.YtneahcoakbbdaaaDoor.cc
