/-
  Plain mathematics of numbers as bytes, the lowest first: four bytes of a number tell it again, and the sixteen numbers of head, key, counter and nonce one behind the other.
-/
import Derived.Test.YtneahcoakbbdaaaDoorChaPlain
namespace Go.Proofs.YtneahcoakbbdaaaDoor.cc
open Go.ChangeShapes Go.WideShapes Go.ChangeAt Go.RowKit
open Go.Proofs.YtneahcoakbbdaaaDoor.sh (U wr xor bits_U wr_U byteAt)
set_option linter.unusedVariables false

/-- k bytes of a number, the lowest first -/
def lowL (n : Int) (k : Nat) : List UInt8 := (List.range k).map fun i => UInt8.ofNat (n / 256 ^ i % 256).toNat
theorem lowL_length (n : Int) (k : Nat) : (lowL n k).length = k := by simp [lowL]
theorem lowL_succ (n : Int) (k : Nat) : lowL n (k + 1) = lowL n k ++ [UInt8.ofNat (n / 256 ^ k % 256).toNat] := by simp [lowL, List.range_succ]
theorem lowL_four (n : Int) : lowL n 4 = (lowBytes n).map fun y => UInt8.ofNat y.toNat := by
  have e : List.range 4 = [0, 1, 2, 3] := by decide
  unfold lowL lowBytes
  rw [e]
  simp
theorem or32 (a b : Nat) (ha : a < 4294967296) (hb : b < 4294967296) : bits .or .u32 (a : Int) (b : Int) = ((a ||| b : Nat) : Int) := u32_or_nat a b ha hb
theorem lowWord_sum (b0 b1 b2 b3 : Nat) (h0 : b0 < 256) (h1 : b1 < 256) (h2 : b2 < 256) (h3 : b3 < 256) : lowWord b0 b1 b2 b3 = ((b0 + 256 * b1 + 65536 * b2 + 16777216 * b3 : Nat) : Int) := by
  unfold lowWord
  rw [show wr ((b1 : Int) * 2 ^ 8) = ((256 * b1 : Nat) : Int) by unfold wr; rw [IntKind.wrap_u32]; omega,
    show wr ((b2 : Int) * 2 ^ 16) = ((65536 * b2 : Nat) : Int) by unfold wr; rw [IntKind.wrap_u32]; omega,
    show wr ((b3 : Int) * 2 ^ 24) = ((16777216 * b3 : Nat) : Int) by unfold wr; rw [IntKind.wrap_u32]; omega]
  rw [or32 _ _ (by omega) (by omega), nat_join8' _ _ (by omega) (by omega), or32 _ _ (by omega) (by omega), nat_join16' _ _ (by omega) (by omega), or32 _ _ (by omega) (by omega), nat_join24' _ _ (by omega) (by omega)]
  omega
theorem byteAt_app_left (a b : List UInt8) (i : Nat) (h : i < a.length) : byteAt (a ++ b) i = byteAt a i := by
  unfold byteAt; simp [List.getElem?_append_left h]
theorem byteAt_app_right (a b : List UInt8) (i : Nat) : byteAt (a ++ b) (a.length + i) = byteAt b i := by
  unfold byteAt
  rw [List.getD_eq_getElem?_getD, List.getD_eq_getElem?_getD, List.getElem?_append_right (by omega), Nat.add_sub_cancel_left]
theorem lowAt_left (a b : List UInt8) (i : Nat) (h : 4 * i + 3 < a.length) : lowAt (a ++ b) i = lowAt a i := by
  unfold lowAt
  rw [byteAt_app_left _ _ _ (by omega), byteAt_app_left _ _ _ (by omega), byteAt_app_left _ _ _ (by omega), byteAt_app_left _ _ _ (by omega)]
theorem lowAt_right (a b : List UInt8) (n i : Nat) (h : a.length = 4 * n) : lowAt (a ++ b) (n + i) = lowAt b i := by
  unfold lowAt
  rw [show 4 * (n + i) = a.length + 4 * i by omega, show a.length + 4 * i + 1 = a.length + (4 * i + 1) by omega, show a.length + 4 * i + 2 = a.length + (4 * i + 2) by omega, show a.length + 4 * i + 3 = a.length + (4 * i + 3) by omega]
  rw [byteAt_app_right, byteAt_app_right, byteAt_app_right, byteAt_app_right]
theorem lowAt_low (x : Int) (hx : U x) : lowAt (lowL x 4) 0 = x := by
  obtain ⟨h0, h1⟩ := hx
  have e : ∀ i, i < 4 → byteAt (lowL x 4) i = (((x / 256 ^ i % 256).toNat : Nat) : Int) := fun i hi => by
    unfold byteAt lowL
    simp [hi]
    have : (0 : Int) ≤ x / 256 ^ i % 256 := Int.emod_nonneg _ (by decide)
    have : x / 256 ^ i % 256 < 256 := Int.emod_lt_of_pos _ (by decide)
    omega
  unfold lowAt
  rw [e _ (by omega), e _ (by omega), e _ (by omega), e _ (by omega)]
  simp only [Nat.mul_zero, Nat.zero_add, Int.pow_zero]
  rw [lowWord_sum _ _ _ _ (by omega) (by omega) (by omega) (by omega)]
  omega
theorem lows_app (b : List UInt8) (m n : Nat) : lows b (m + n) = lows b m ++ (List.range n).map fun i => lowAt b (m + i) := by
  unfold lows; rw [List.range_add]; simp [List.map_append, Function.comp_def]
/-- the numbers at first, of the four texts one behind the other -/
theorem first_join (key nonce : List UInt8) (ctr : Int) (hk : key.length = 32) (hn : nonce.length = 12) (hc : U ctr) : lows (expand ++ key ++ lowL ctr 4 ++ nonce) 16 = first key ctr nonce := by
  have hl : (expand ++ key).length = 48 := by simp [expand, hk]
  have hl2 : (expand ++ key ++ lowL ctr 4).length = 52 := by rw [List.length_append, hl, lowL_length]
  unfold first
  rw [show (16 : Nat) = 12 + 1 + 3 from rfl, lows_app, lows_app]
  congr 1
  · congr 1
    · unfold lows
      refine List.map_congr_left fun i hi => ?_
      have := List.mem_range.1 hi
      rw [lowAt_left _ _ _ (by omega), lowAt_left _ _ _ (by omega)]
    · show [lowAt _ (12 + 0)] = _
      rw [lowAt_left _ _ _ (by omega), lowAt_right _ _ _ _ (by omega), lowAt_low _ hc]
  · unfold lows
    refine List.map_congr_left fun i hi => ?_
    rw [lowAt_right _ _ _ _ (by omega)]
end Go.Proofs.YtneahcoakbbdaaaDoor.cc
