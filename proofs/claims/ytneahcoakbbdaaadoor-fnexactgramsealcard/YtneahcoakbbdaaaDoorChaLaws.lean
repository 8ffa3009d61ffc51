/-
  What the stream keeps: a text that is hidden twice is the text; the beginning hidden is the hidden one's beginning; behind a block it goes on by the next number; a block is what hides bytes 0.
-/
import Derived.Test.YtneahcoakbbdaaaDoorChaText
namespace Go.Proofs.YtneahcoakbbdaaaDoor.cc
open Go.ChangeShapes Go.WideShapes Go.ChangeAt Go.RowKit
open Go.Proofs.YtneahcoakbbdaaaDoor.sh (U wr wr_U)
set_option linter.unusedVariables false

theorem cipherL_at (key : List UInt8) (ctr : Int) (nonce t : List UInt8) (i : Nat) : (cipherL key ctr nonce t)[i]? = (t[i]?).map (fun b => b ^^^ keyByte key ctr nonce i) := by
  unfold cipherL cipherTo
  rw [List.getElem?_mapIdx]
  cases e : t[i]? with
  | none => rfl
  | some b => simp [(List.getElem?_eq_some_iff.1 e).1]
theorem cipherL_length (key : List UInt8) (ctr : Int) (nonce t : List UInt8) : (cipherL key ctr nonce t).length = t.length := cipherTo_length _ _ _ _ _
theorem cipherL_twice (key : List UInt8) (ctr : Int) (nonce t : List UInt8) : cipherL key ctr nonce (cipherL key ctr nonce t) = t := by
  apply List.ext_getElem?
  intro i
  rw [cipherL_at, cipherL_at]
  cases e : t[i]? with
  | none => rfl
  | some b => simp [UInt8.xor_assoc]
theorem cipherL_take (key : List UInt8) (ctr : Int) (nonce t : List UInt8) (m : Nat) : cipherL key ctr nonce (t.take m) = (cipherL key ctr nonce t).take m := by
  apply List.ext_getElem?
  intro i
  rw [cipherL_at]
  by_cases h : i < m
  · rw [List.getElem?_take_of_lt h, List.getElem?_take_of_lt h, cipherL_at]
  · rw [List.getElem?_take_eq_none (by omega), List.getElem?_take_eq_none (by omega)]; rfl
theorem keyByte_next (key : List UInt8) (ctr : Int) (nonce : List UInt8) (i : Nat) : keyByte key (ctr + 1) nonce i = keyByte key ctr nonce (64 + i) := by
  unfold keyByte
  rw [show (64 + i) / 64 = i / 64 + 1 by omega, show (64 + i) % 64 = i % 64 by omega, show ctr + 1 + ((i / 64 : Nat) : Int) = ctr + ((i / 64 + 1 : Nat) : Int) by omega]
theorem cipherL_drop (key : List UInt8) (ctr : Int) (nonce t : List UInt8) : cipherL key (ctr + 1) nonce (t.drop 64) = (cipherL key ctr nonce t).drop 64 := by
  apply List.ext_getElem?
  intro i
  rw [cipherL_at, List.getElem?_drop, List.getElem?_drop, cipherL_at, keyByte_next]
theorem blockBytes_length (key : List UInt8) (ctr : Int) (nonce : List UInt8) (k : Nat) : (blockN key ctr nonce k).length = 4 * k := by
  unfold blockN
  induction k with
  | zero => rfl
  | succ k ih => rw [List.range_succ, List.map_append, List.flatMap_append, List.length_append, ih]; simp [lowBytes]; omega
theorem cipherL_zeros (key : List UInt8) (ctr : Int) (nonce : List UInt8) (hc : U ctr) : cipherL key ctr nonce (List.replicate 64 0) = (blockN key ctr nonce 16).map fun y => UInt8.ofNat y.toNat := by
  apply List.ext_getElem?
  intro i
  rw [cipherL_at, List.getElem?_map]
  have hl := blockBytes_length key ctr nonce 16
  by_cases h : i < 64
  · rw [List.getElem?_replicate_of_lt h, List.getElem?_eq_getElem (by omega)]
    simp only [Option.map_some, UInt8.zero_xor, Option.some.injEq]
    unfold keyByte
    rw [show i / 64 = 0 by omega, show i % 64 = i by omega, show ctr + ((0 : Nat) : Int) = ctr by omega, sh.wr_id hc, List.getD_eq_getElem?_getD, List.getElem?_eq_getElem (by omega)]
    rfl
  · rw [List.getElem?_eq_none (by simp; omega), List.getElem?_eq_none (by omega)]; rfl
end Go.Proofs.YtneahcoakbbdaaaDoor.cc
