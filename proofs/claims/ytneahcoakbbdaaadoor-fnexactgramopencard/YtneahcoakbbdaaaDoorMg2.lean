/-
  Plain mathematics of numbers as bytes, the lowest first: four bytes of a number tell it again, and the sixteen numbers of head, key, counter and nonce one behind the other.
  Plain mathematics of the stream: the byte that hides the byte at a place, a text that is hidden up to a place, what Block and Cipher answer.
  What the stream keeps: a text that is hidden twice is the text; the beginning hidden is the hidden one's beginning; behind a block it goes on by the next number; a block is what hides bytes 0.
-/
import Derived.Test.YtneahcoakbbdaaaDoorMg1
namespace Go.Proofs.YtneahcoakbbdaaaDoor.cc
open Go.ChangeShapes Go.WideShapes Go.ChangeAt Go.RowKit
open Go.Proofs.YtneahcoakbbdaaaDoor.sh (U wr xor bits_U wr_U byteAt)
set_option linter.unusedVariables false

/-- k bytes of a number, the lowest first -/
def lowL (n : Int) (k : Nat) : List UInt8 := (List.range k).map fun i => UInt8.ofNat (n / 256 ^ i % 256).toNat
theorem lowL_length (n : Int) (k : Nat) : (lowL n k).length = k := by simp [lowL]
theorem lowL_succ (n : Int) (k : Nat) : lowL n (k + 1) = lowL n k ++ [UInt8.ofNat (n / 256 ^ k % 256).toNat] := by simp [lowL, List.range_succ]
theorem lowL_four (n : Int) : lowL n 4 = (lowBytes n).map fun y => UInt8.ofNat y.toNat := by
  have e : List.range 4 = [0, 1, 2, 3] := by decide
  unfold lowL lowBytes
  rw [e]
  simp
theorem or32 (a b : Nat) (ha : a < 4294967296) (hb : b < 4294967296) : bits .or .u32 (a : Int) (b : Int) = ((a ||| b : Nat) : Int) := u32_or_nat a b ha hb
theorem lowWord_sum (b0 b1 b2 b3 : Nat) (h0 : b0 < 256) (h1 : b1 < 256) (h2 : b2 < 256) (h3 : b3 < 256) : lowWord b0 b1 b2 b3 = ((b0 + 256 * b1 + 65536 * b2 + 16777216 * b3 : Nat) : Int) := by
  unfold lowWord
  rw [show wr ((b1 : Int) * 2 ^ 8) = ((256 * b1 : Nat) : Int) by unfold wr; rw [IntKind.wrap_u32]; omega,
    show wr ((b2 : Int) * 2 ^ 16) = ((65536 * b2 : Nat) : Int) by unfold wr; rw [IntKind.wrap_u32]; omega,
    show wr ((b3 : Int) * 2 ^ 24) = ((16777216 * b3 : Nat) : Int) by unfold wr; rw [IntKind.wrap_u32]; omega]
  rw [or32 _ _ (by omega) (by omega), nat_join8' _ _ (by omega) (by omega), or32 _ _ (by omega) (by omega), nat_join16' _ _ (by omega) (by omega), or32 _ _ (by omega) (by omega), nat_join24' _ _ (by omega) (by omega)]
  omega
theorem byteAt_app_left (a b : List UInt8) (i : Nat) (h : i < a.length) : byteAt (a ++ b) i = byteAt a i := by
  unfold byteAt; simp [List.getElem?_append_left h]
theorem byteAt_app_right (a b : List UInt8) (i : Nat) : byteAt (a ++ b) (a.length + i) = byteAt b i := by
  unfold byteAt
  rw [List.getD_eq_getElem?_getD, List.getD_eq_getElem?_getD, List.getElem?_append_right (by omega), Nat.add_sub_cancel_left]
theorem lowAt_left (a b : List UInt8) (i : Nat) (h : 4 * i + 3 < a.length) : lowAt (a ++ b) i = lowAt a i := by
  unfold lowAt
  rw [byteAt_app_left _ _ _ (by omega), byteAt_app_left _ _ _ (by omega), byteAt_app_left _ _ _ (by omega), byteAt_app_left _ _ _ (by omega)]
theorem lowAt_right (a b : List UInt8) (n i : Nat) (h : a.length = 4 * n) : lowAt (a ++ b) (n + i) = lowAt b i := by
  unfold lowAt
  rw [show 4 * (n + i) = a.length + 4 * i by omega, show a.length + 4 * i + 1 = a.length + (4 * i + 1) by omega, show a.length + 4 * i + 2 = a.length + (4 * i + 2) by omega, show a.length + 4 * i + 3 = a.length + (4 * i + 3) by omega]
  rw [byteAt_app_right, byteAt_app_right, byteAt_app_right, byteAt_app_right]
theorem lowAt_low (x : Int) (hx : U x) : lowAt (lowL x 4) 0 = x := by
  obtain ⟨h0, h1⟩ := hx
  have e : ∀ i, i < 4 → byteAt (lowL x 4) i = (((x / 256 ^ i % 256).toNat : Nat) : Int) := fun i hi => by
    unfold byteAt lowL
    simp [hi]
    have : (0 : Int) ≤ x / 256 ^ i % 256 := Int.emod_nonneg _ (by decide)
    have : x / 256 ^ i % 256 < 256 := Int.emod_lt_of_pos _ (by decide)
    omega
  unfold lowAt
  rw [e _ (by omega), e _ (by omega), e _ (by omega), e _ (by omega)]
  simp only [Nat.mul_zero, Nat.zero_add, Int.pow_zero]
  rw [lowWord_sum _ _ _ _ (by omega) (by omega) (by omega) (by omega)]
  omega
theorem lows_app (b : List UInt8) (m n : Nat) : lows b (m + n) = lows b m ++ (List.range n).map fun i => lowAt b (m + i) := by
  unfold lows; rw [List.range_add]; simp [List.map_append, Function.comp_def]
/-- the numbers at first, of the four texts one behind the other -/
theorem first_join (key nonce : List UInt8) (ctr : Int) (hk : key.length = 32) (hn : nonce.length = 12) (hc : U ctr) : lows (expand ++ key ++ lowL ctr 4 ++ nonce) 16 = first key ctr nonce := by
  have hl : (expand ++ key).length = 48 := by simp [expand, hk]
  have hl2 : (expand ++ key ++ lowL ctr 4).length = 52 := by rw [List.length_append, hl, lowL_length]
  unfold first
  rw [show (16 : Nat) = 12 + 1 + 3 from rfl, lows_app, lows_app]
  congr 1
  · congr 1
    · unfold lows
      refine List.map_congr_left fun i hi => ?_
      have := List.mem_range.1 hi
      rw [lowAt_left _ _ _ (by omega), lowAt_left _ _ _ (by omega)]
    · show [lowAt _ (12 + 0)] = _
      rw [lowAt_left _ _ _ (by omega), lowAt_right _ _ _ _ (by omega), lowAt_low _ hc]
  · unfold lows
    refine List.map_congr_left fun i hi => ?_
    rw [lowAt_right _ _ _ _ (by omega)]
end Go.Proofs.YtneahcoakbbdaaaDoor.cc

namespace Go.Proofs.YtneahcoakbbdaaaDoor.cc
open Go.ChangeShapes Go.WideShapes Go.ChangeAt Go.RowKit
open Go.Proofs.YtneahcoakbbdaaaDoor.sh (U wr xor bits_U wr_U byteAt)
set_option linter.unusedVariables false

/-- the byte that hides the byte at place j -/
def keyByte (key : List UInt8) (ctr : Int) (nonce : List UInt8) (j : Nat) : UInt8 := UInt8.ofNat ((blockN key (sh.wr (ctr + ((j / 64 : Nat) : Int))) nonce 16).getD (j % 64) 0).toNat
/-- the text whose first m bytes are hidden -/
def cipherTo (key : List UInt8) (ctr : Int) (nonce : List UInt8) (t : List UInt8) (m : Nat) : List UInt8 := t.mapIdx fun j b => if j < m then b ^^^ keyByte key ctr nonce j else b
def cipherL (key : List UInt8) (ctr : Int) (nonce : List UInt8) (t : List UInt8) : List UInt8 := cipherTo key ctr nonce t t.length
theorem cipherTo_length (key : List UInt8) (ctr : Int) (nonce : List UInt8) (t : List UInt8) (m : Nat) : (cipherTo key ctr nonce t m).length = t.length := by simp [cipherTo]
theorem cipherTo_zero (key : List UInt8) (ctr : Int) (nonce : List UInt8) (t : List UInt8) : cipherTo key ctr nonce t 0 = t := by
  unfold cipherTo
  apply List.ext_getElem?
  intro i
  simp
theorem cipherTo_more (key : List UInt8) (ctr : Int) (nonce : List UInt8) (t : List UInt8) {m n : Nat} (h : t.length ≤ m) (h' : t.length ≤ n) : cipherTo key ctr nonce t m = cipherTo key ctr nonce t n := by
  unfold cipherTo
  apply List.ext_getElem?
  intro i
  simp only [List.getElem?_mapIdx]
  cases e : t[i]? with
  | none => rfl
  | some b =>
    have hi := (List.getElem?_eq_some_iff.1 e).1
    simp [show i < m by omega, show i < n by omega]
theorem cipherTo_set (key : List UInt8) (ctr : Int) (nonce : List UInt8) (t : List UInt8) (m : Nat) (h : m < t.length) : cipherTo key ctr nonce t (m + 1) = (cipherTo key ctr nonce t m).set m (t[m] ^^^ keyByte key ctr nonce m) := by
  unfold cipherTo
  apply List.ext_getElem?
  intro i
  rw [List.getElem?_set]
  simp only [List.getElem?_mapIdx, List.length_mapIdx]
  by_cases hi : m = i
  · subst hi; simp [h]
  · simp only [hi, if_false]
    cases e : t[i]? with
    | none => rfl
    | some b =>
      by_cases hlt : i < m
      · simp [hlt, show i < m + 1 by omega]
      · simp [hlt, show ¬ i < m + 1 by omega]
theorem cipherTo_at (key : List UInt8) (ctr : Int) (nonce : List UInt8) (t : List UInt8) (m : Nat) (h : m < t.length) : (cipherTo key ctr nonce t m)[m]'(by rw [cipherTo_length]; exact h) = t[m] := by
  simp [cipherTo]
theorem lowBytes_le (x : Int) : ∀ y ∈ lowBytes x, 0 ≤ y ∧ y ≤ 255 := by
  intro y hy
  simp only [lowBytes, List.mem_cons, List.not_mem_nil, or_false] at hy
  rcases hy with rfl | rfl | rfl | rfl <;> omega
theorem blockN_le (key : List UInt8) (ctr : Int) (nonce : List UInt8) (k i : Nat) : 0 ≤ (blockN key ctr nonce k).getD i 0 ∧ (blockN key ctr nonce k).getD i 0 ≤ 255 := by
  rw [List.getD_eq_getElem?_getD]
  cases e : (blockN key ctr nonce k)[i]? with
  | none => exact ⟨by decide, by decide⟩
  | some y =>
    have := List.mem_of_getElem? e
    unfold blockN at this
    obtain ⟨z, _, hz⟩ := List.mem_flatMap.1 this
    exact lowBytes_le z y hz
theorem xor_u8 (b m : UInt8) : bits BinOp.xor IntKind.u8 (b.toNat : Int) (m.toNat : Int) = (((b ^^^ m).toNat : Nat) : Int) := by
  have hb := b.toNat_lt
  have hm := m.toNat_lt
  rw [u8_xor _ _ (by omega) (by omega) (by omega) (by omega)]
  simp
theorem ofNat_toNat {z : Int} (h0 : 0 ≤ z) (h1 : z ≤ 255) : ((UInt8.ofNat z.toNat).toNat : Int) = z := by
  simp only [UInt8.toNat_ofNat']
  omega
/-- what Block answers -/
def blockA (key : ByteArray) (n : Int) (nonce : ByteArray) : ByteArray := if key.size = 32 ∧ nonce.size = 12 ∧ 0 ≤ n ∧ n ≤ 4294967295 then strOfNums (blockN key.data.toList n nonce.data.toList 16) else ⟨#[]⟩
theorem blockA_yes {key : ByteArray} {n : Int} {nonce : ByteArray} (h : key.size = 32 ∧ nonce.size = 12 ∧ 0 ≤ n ∧ n ≤ 4294967295) : blockA key n nonce = strOfNums (blockN key.data.toList n nonce.data.toList 16) := if_pos h
theorem blockA_no {key : ByteArray} {n : Int} {nonce : ByteArray} (h : ¬ (key.size = 32 ∧ nonce.size = 12 ∧ 0 ≤ n ∧ n ≤ 4294967295)) : blockA key n nonce = ⟨#[]⟩ := if_neg h
def cipherA (key : ByteArray) (n : Int) (nonce t : ByteArray) : ByteArray := if key.size = 32 ∧ nonce.size = 12 ∧ (0 ≤ n ∧ n ≤ 4294967295) ∧ t.size ≤ 8000 then ⟨(cipherL key.data.toList n nonce.data.toList t.data.toList).toArray⟩ else ⟨#[]⟩
theorem cipherA_yes {key : ByteArray} {n : Int} {nonce t : ByteArray} (h : key.size = 32 ∧ nonce.size = 12 ∧ (0 ≤ n ∧ n ≤ 4294967295) ∧ t.size ≤ 8000) : cipherA key n nonce t = ⟨(cipherL key.data.toList n nonce.data.toList t.data.toList).toArray⟩ := if_pos h
theorem cipherA_no {key : ByteArray} {n : Int} {nonce t : ByteArray} (h : ¬ (key.size = 32 ∧ nonce.size = 12 ∧ (0 ≤ n ∧ n ≤ 4294967295) ∧ t.size ≤ 8000)) : cipherA key n nonce t = ⟨#[]⟩ := if_neg h
end Go.Proofs.YtneahcoakbbdaaaDoor.cc

namespace Go.Proofs.YtneahcoakbbdaaaDoor.cc
open Go.ChangeShapes Go.WideShapes Go.ChangeAt Go.RowKit
open Go.Proofs.YtneahcoakbbdaaaDoor.sh (U wr wr_U)
set_option linter.unusedVariables false

theorem cipherL_at (key : List UInt8) (ctr : Int) (nonce t : List UInt8) (i : Nat) : (cipherL key ctr nonce t)[i]? = (t[i]?).map (fun b => b ^^^ keyByte key ctr nonce i) := by
  unfold cipherL cipherTo
  rw [List.getElem?_mapIdx]
  cases e : t[i]? with
  | none => rfl
  | some b => simp [(List.getElem?_eq_some_iff.1 e).1]
theorem cipherL_length (key : List UInt8) (ctr : Int) (nonce t : List UInt8) : (cipherL key ctr nonce t).length = t.length := cipherTo_length _ _ _ _ _
theorem cipherL_twice (key : List UInt8) (ctr : Int) (nonce t : List UInt8) : cipherL key ctr nonce (cipherL key ctr nonce t) = t := by
  apply List.ext_getElem?
  intro i
  rw [cipherL_at, cipherL_at]
  cases e : t[i]? with
  | none => rfl
  | some b => simp [UInt8.xor_assoc]
theorem cipherL_take (key : List UInt8) (ctr : Int) (nonce t : List UInt8) (m : Nat) : cipherL key ctr nonce (t.take m) = (cipherL key ctr nonce t).take m := by
  apply List.ext_getElem?
  intro i
  rw [cipherL_at]
  by_cases h : i < m
  · rw [List.getElem?_take_of_lt h, List.getElem?_take_of_lt h, cipherL_at]
  · rw [List.getElem?_take_eq_none (by omega), List.getElem?_take_eq_none (by omega)]; rfl
theorem keyByte_next (key : List UInt8) (ctr : Int) (nonce : List UInt8) (i : Nat) : keyByte key (ctr + 1) nonce i = keyByte key ctr nonce (64 + i) := by
  unfold keyByte
  rw [show (64 + i) / 64 = i / 64 + 1 by omega, show (64 + i) % 64 = i % 64 by omega, show ctr + 1 + ((i / 64 : Nat) : Int) = ctr + ((i / 64 + 1 : Nat) : Int) by omega]
theorem cipherL_drop (key : List UInt8) (ctr : Int) (nonce t : List UInt8) : cipherL key (ctr + 1) nonce (t.drop 64) = (cipherL key ctr nonce t).drop 64 := by
  apply List.ext_getElem?
  intro i
  rw [cipherL_at, List.getElem?_drop, List.getElem?_drop, cipherL_at, keyByte_next]
theorem blockBytes_length (key : List UInt8) (ctr : Int) (nonce : List UInt8) (k : Nat) : (blockN key ctr nonce k).length = 4 * k := by
  unfold blockN
  induction k with
  | zero => rfl
  | succ k ih => rw [List.range_succ, List.map_append, List.flatMap_append, List.length_append, ih]; simp [lowBytes]; omega
theorem cipherL_zeros (key : List UInt8) (ctr : Int) (nonce : List UInt8) (hc : U ctr) : cipherL key ctr nonce (List.replicate 64 0) = (blockN key ctr nonce 16).map fun y => UInt8.ofNat y.toNat := by
  apply List.ext_getElem?
  intro i
  rw [cipherL_at, List.getElem?_map]
  have hl := blockBytes_length key ctr nonce 16
  by_cases h : i < 64
  · rw [List.getElem?_replicate_of_lt h, List.getElem?_eq_getElem (by omega)]
    simp only [Option.map_some, UInt8.zero_xor, Option.some.injEq]
    unfold keyByte
    rw [show i / 64 = 0 by omega, show i % 64 = i by omega, show ctr + ((0 : Nat) : Int) = ctr by omega, sh.wr_id hc, List.getD_eq_getElem?_getD, List.getElem?_eq_getElem (by omega)]
    rfl
  · rw [List.getElem?_eq_none (by simp; omega), List.getElem?_eq_none (by omega)]; rfl
end Go.Proofs.YtneahcoakbbdaaaDoor.cc
