/-
  A number's bytes, the lowest first, by the program: what the plain function tells; no old block turns.
-/
import Derived.Test.YtneahcoakbbdaaaDoorChaI0
import Derived.Test.YtneahcoakbbdaaaDoorChaLow
import Derived.Deep.MidRow
import Derived.Deep.Cut
import Derived.Deep.RegionWith
import Derived.BigRegion
import Derived.BigQuiet
import Derived.Deep.QuietTactic
import Derived.WalkSpells
import Derived.WalkSmall
import Derived.Laws.Tables
import Derived.Laws.CopyOwn
import Derived.Laws.IdiomStrings
namespace Go.Proofs.YtneahcoakbbdaaaDoor.cc
open Go.ChangeShapes Go.WideShapes Go.ChangeAt Go.RowKit
open Go.Proofs.YtneahcoakbbdaaaDoor.sh (U wr xor bits_U wr_U)
open Go.Lib (byteCells)
set_option linter.unusedVariables false

theorem infoB : (Tryd.prog.info? 5).map (fun i => (i.zero, i.size, i.bytes)) = some (some (.int .u8 0), 1, 1) := by kernel_rfl
theorem madeRowB (n : Nat) : madeCells #[Value.int .u8 0] n = (List.replicate n (Value.int .u8 0)).toArray := by
  apply Array.ext
  · simp [madeCells]
  · intro i h1 h2
    simp [madeCells, Nat.mod_one]
/-- the bytes on the way: the first i are told -/
def lowTo (n : Int) (k i : Nat) : List UInt8 := lowL n i ++ List.replicate (k - i) 0
theorem lowTo_length (n : Int) (k i : Nat) (h : i ≤ k) : (lowTo n k i).length = k := by simp [lowTo, lowL_length]; omega
theorem lowTo_set (n : Int) (k i : Nat) (h : i < k) (y : UInt8) (hy : y = UInt8.ofNat (n / 256 ^ i % 256).toNat) : (lowTo n k i).set i y = lowTo n k (i + 1) := by
  unfold lowTo
  rw [lowL_succ, ← hy]
  obtain ⟨m, rfl⟩ : ∃ m, k = i + 1 + m := ⟨k - i - 1, by omega⟩
  rw [show i + 1 + m - i = m + 1 by omega, show i + 1 + m - (i + 1) = m by omega, List.replicate_succ, List.set_append_right _ _ (by rw [lowL_length]; omega), lowL_length, Nat.sub_self, List.set_cons_zero, List.append_assoc]
  rfl
theorem lowTo_end (n : Int) (k : Nat) : lowTo n k k = lowL n k := by simp [lowTo]
theorem cellsB_set (l : List UInt8) (i : Nat) (y : UInt8) : ((byteCells l).toArray).setIfInBounds i (.int .u8 (y.toNat : Int)) = (byteCells (l.set i y)).toArray := by
  rw [List.setIfInBounds_toArray]
  congr 1
  unfold byteCells
  rw [List.map_set]
theorem cellB_at {w : World} {g : Nat} {l : List UInt8} {e : TypeId} (h : w.heap[g]? = some (.cells (byteCells l).toArray e (0, 0))) (j : Nat) (hj : j < l.length) :
    w.cell? ⟨g, j, none⟩ = some (.int .u8 (l[j].toNat : Int)) := by
  rw [cell_of_row _ _ _ _ _ _ h]
  simp [byteCells, hj]

set_option maxRecDepth 20000 in
set_option maxHeartbeats 4000000 in
theorem low_any (n : Int) (k : Nat) (w : World) (h0 : 0 ≤ n) (h1 : n ≤ 18446744073709551615) (hk : k ≤ 16) :
    Calls Tryd.prog 62 #[.int .u64 n, .int .i64 (k : Int)] w fun e w' => e = .returned (.string ⟨(lowL n k).toArray⟩) ∧ Below w.heap.size w w' := by
  obtain ⟨i0, hi, hz0, hz1, hz2⟩ := info_parts infoB
  have hmk : (Instr.makeSlice 91 (.int .i64 (k : Int)) (.int .i64 (k : Int))).run Tryd.prog w = .ok (.slice (some ⟨w.heap.size, 0, none⟩) k k) (w.alloc (.cells (byteCells (lowTo n k 0)).toArray 5)) := by
    have h := run_make (P := Tryd.prog) w 91 5 i0 (.int .u8 0) Tryd.underlying91 hi hz0 .i64 .i64 (k : Int) (k : Int) (by omega) (Int.le_refl _) (by rw [hz2]; omega) (by omega)
    rw [show byteCells (lowTo n k 0) = List.replicate k (Value.int .u8 0) by simp [lowTo, byteCells, lowL], ← madeRowB]
    simpa [hz1, Value.cells] using h
  have HR0 : Hid ((w.alloc (.cells (byteCells (lowTo n k 0)).toArray 5)).heap[w.heap.size]? = some (.cells (byteCells (lowTo n k 0)).toArray 5 (0, 0))) := heap_alloc_new _ _
  have HB0 : Hid (Below w.heap.size w (w.alloc (.cells (byteCells (lowTo n k 0)).toArray 5))) := (Below.refl _ _).alloc (Nat.le_refl _) _
  generalize hW : w.alloc (.cells (byteCells (lowTo n k 0)).toArray 5) = W at *
  clear hW
  go_enter Tryd.func62, Tryd.ntmps62
  go_wp2
  clear hmk
  go_loopw [0, 6, 10] (fun x _ i u => ∃ m : Nat, m ≤ k ∧ i = .int .i64 m ∧ x = .int .u64 (n / 256 ^ m) ∧ Hid (Below w.heap.size w u) ∧ Hid (u.heap[w.heap.size]? = some (.cells (byteCells (lowTo n k m)).toArray 5 (0, 0)))) (fun _ _ i _ => k - (intOf i).toNat)
  case atStart => exact ⟨0, by omega, rfl, by simp, HB0, HR0⟩
  case round =>
    clear HB0 HR0
    obtain ⟨m, hm, rfl, rfl, HB, HR⟩ := hrel
    by_cases hlt : m < k
    · have hll := lowTo_length n k m hm
      have hp : (0 : Int) < 256 ^ m := Int.pow_pos (by decide)
      have x0 : 0 ≤ n / 256 ^ m := Int.ediv_nonneg h0 (by omega)
      have x1 : n / 256 ^ m ≤ 18446744073709551615 := Int.le_trans (Int.ediv_le_self _ h0) h1
      have HN : Hid (n / 256 ^ (m + 1) = n / 256 ^ m / 256) := by
        show _ = _
        rw [Int.pow_succ, Int.ediv_ediv_of_nonneg (by omega)]
      have hf : wr.frozen? ⟨w.heap.size, m, none⟩ = false := frozen_of_row _ _ _ _ _ HR.out
      have hc := cellB_at HR.out m (by omega)
      have HX : Hid (∀ y, y = n / 256 ^ m % 256 → (wr.setCell ⟨w.heap.size, m, none⟩ (.int .u8 y)).heap[w.heap.size]? = some (.cells (byteCells (lowTo n k (m + 1))).toArray 5 (0, 0))) := by
        intro y hy
        have hy0 : 0 ≤ n / 256 ^ m % 256 := Int.emod_nonneg _ (by decide)
        have hy1 : n / 256 ^ m % 256 < 256 := Int.emod_lt_of_pos _ (by decide)
        have e : y = ((UInt8.ofNat (n / 256 ^ m % 256).toNat).toNat : Int) := by
          rw [hy]; simp only [UInt8.toNat_ofNat']; omega
        refine (heap_setCell_same wr _ _ _ _ _ HR.out).trans ?_
        rw [e, cellsB_set, lowTo_set _ _ _ hlt _ rfl]
      have HBX : Hid (∀ x, Below w.heap.size w (wr.setCell ⟨w.heap.size, m, none⟩ x)) := fun x => HB.out.setCell (Nat.le_refl _) x
      generalize ((lowTo n k m)[m]'(by omega)).toNat = z at *
      clear HR HB
      generalize n / 256 ^ m = x at *
      go_wp2
      go_roundw
      case rel => exact ⟨m + 1, by omega, by go_num, by rw [HN.out], HBX.out _, HX.out _ (by go_num)⟩
      case measure => simp [intOf]; omega
    · obtain rfl : m = k := by omega
      have hconv : (convert 91 9 (.slice (some ⟨w.heap.size, 0, none⟩) m m)).run Tryd.prog wr = .ok (.string ⟨(lowL n m).toArray⟩) wr := by
        have h := run_convert_bytes_back (P := Tryd.prog) wr 91 9 5 ⟨w.heap.size, 0, none⟩ m (lowTo n m m) Tryd.underlying91 Tryd.underlying5 Tryd.underlying9 (fun j hj => by
          have e : (⟨w.heap.size, 0, none⟩ : Addr).add j = ⟨w.heap.size, j, none⟩ := by unfold Addr.add; split <;> simp_all
          rw [e]; exact cellB_at HR.out j hj)
        rw [lowTo_length _ _ _ (Nat.le_refl _)] at h
        rw [lowTo_end] at h
        exact h
      go_wp2
      go_ret
      exact ⟨rfl, HB.out⟩
end Go.Proofs.YtneahcoakbbdaaaDoor.cc
