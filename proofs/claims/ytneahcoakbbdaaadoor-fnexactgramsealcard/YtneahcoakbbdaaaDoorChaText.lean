/-
  Plain mathematics of the stream: the byte that hides the byte at a place, a text that is hidden up to a place, what Block and Cipher answer.
-/
import Derived.Test.YtneahcoakbbdaaaDoorChaPlain
namespace Go.Proofs.YtneahcoakbbdaaaDoor.cc
open Go.ChangeShapes Go.WideShapes Go.ChangeAt Go.RowKit
open Go.Proofs.YtneahcoakbbdaaaDoor.sh (U wr xor bits_U wr_U byteAt)
set_option linter.unusedVariables false

/-- the byte that hides the byte at place j -/
def keyByte (key : List UInt8) (ctr : Int) (nonce : List UInt8) (j : Nat) : UInt8 := UInt8.ofNat ((blockN key (sh.wr (ctr + ((j / 64 : Nat) : Int))) nonce 16).getD (j % 64) 0).toNat
/-- the text whose first m bytes are hidden -/
def cipherTo (key : List UInt8) (ctr : Int) (nonce : List UInt8) (t : List UInt8) (m : Nat) : List UInt8 := t.mapIdx fun j b => if j < m then b ^^^ keyByte key ctr nonce j else b
def cipherL (key : List UInt8) (ctr : Int) (nonce : List UInt8) (t : List UInt8) : List UInt8 := cipherTo key ctr nonce t t.length
theorem cipherTo_length (key : List UInt8) (ctr : Int) (nonce : List UInt8) (t : List UInt8) (m : Nat) : (cipherTo key ctr nonce t m).length = t.length := by simp [cipherTo]
theorem cipherTo_zero (key : List UInt8) (ctr : Int) (nonce : List UInt8) (t : List UInt8) : cipherTo key ctr nonce t 0 = t := by
  unfold cipherTo
  apply List.ext_getElem?
  intro i
  simp
theorem cipherTo_more (key : List UInt8) (ctr : Int) (nonce : List UInt8) (t : List UInt8) {m n : Nat} (h : t.length ≤ m) (h' : t.length ≤ n) : cipherTo key ctr nonce t m = cipherTo key ctr nonce t n := by
  unfold cipherTo
  apply List.ext_getElem?
  intro i
  simp only [List.getElem?_mapIdx]
  cases e : t[i]? with
  | none => rfl
  | some b =>
    have hi := (List.getElem?_eq_some_iff.1 e).1
    simp [show i < m by omega, show i < n by omega]
theorem cipherTo_set (key : List UInt8) (ctr : Int) (nonce : List UInt8) (t : List UInt8) (m : Nat) (h : m < t.length) : cipherTo key ctr nonce t (m + 1) = (cipherTo key ctr nonce t m).set m (t[m] ^^^ keyByte key ctr nonce m) := by
  unfold cipherTo
  apply List.ext_getElem?
  intro i
  rw [List.getElem?_set]
  simp only [List.getElem?_mapIdx, List.length_mapIdx]
  by_cases hi : m = i
  · subst hi; simp [h]
  · simp only [hi, if_false]
    cases e : t[i]? with
    | none => rfl
    | some b =>
      by_cases hlt : i < m
      · simp [hlt, show i < m + 1 by omega]
      · simp [hlt, show ¬ i < m + 1 by omega]
theorem cipherTo_at (key : List UInt8) (ctr : Int) (nonce : List UInt8) (t : List UInt8) (m : Nat) (h : m < t.length) : (cipherTo key ctr nonce t m)[m]'(by rw [cipherTo_length]; exact h) = t[m] := by
  simp [cipherTo]
theorem lowBytes_le (x : Int) : ∀ y ∈ lowBytes x, 0 ≤ y ∧ y ≤ 255 := by
  intro y hy
  simp only [lowBytes, List.mem_cons, List.not_mem_nil, or_false] at hy
  rcases hy with rfl | rfl | rfl | rfl <;> omega
theorem blockN_le (key : List UInt8) (ctr : Int) (nonce : List UInt8) (k i : Nat) : 0 ≤ (blockN key ctr nonce k).getD i 0 ∧ (blockN key ctr nonce k).getD i 0 ≤ 255 := by
  rw [List.getD_eq_getElem?_getD]
  cases e : (blockN key ctr nonce k)[i]? with
  | none => exact ⟨by decide, by decide⟩
  | some y =>
    have := List.mem_of_getElem? e
    unfold blockN at this
    obtain ⟨z, _, hz⟩ := List.mem_flatMap.1 this
    exact lowBytes_le z y hz
theorem xor_u8 (b m : UInt8) : bits BinOp.xor IntKind.u8 (b.toNat : Int) (m.toNat : Int) = (((b ^^^ m).toNat : Nat) : Int) := by
  have hb := b.toNat_lt
  have hm := m.toNat_lt
  rw [u8_xor _ _ (by omega) (by omega) (by omega) (by omega)]
  simp
theorem ofNat_toNat {z : Int} (h0 : 0 ≤ z) (h1 : z ≤ 255) : ((UInt8.ofNat z.toNat).toNat : Int) = z := by
  simp only [UInt8.toNat_ofNat']
  omega
/-- what Block answers -/
def blockA (key : ByteArray) (n : Int) (nonce : ByteArray) : ByteArray := if key.size = 32 ∧ nonce.size = 12 ∧ 0 ≤ n ∧ n ≤ 4294967295 then strOfNums (blockN key.data.toList n nonce.data.toList 16) else ⟨#[]⟩
theorem blockA_yes {key : ByteArray} {n : Int} {nonce : ByteArray} (h : key.size = 32 ∧ nonce.size = 12 ∧ 0 ≤ n ∧ n ≤ 4294967295) : blockA key n nonce = strOfNums (blockN key.data.toList n nonce.data.toList 16) := if_pos h
theorem blockA_no {key : ByteArray} {n : Int} {nonce : ByteArray} (h : ¬ (key.size = 32 ∧ nonce.size = 12 ∧ 0 ≤ n ∧ n ≤ 4294967295)) : blockA key n nonce = ⟨#[]⟩ := if_neg h
def cipherA (key : ByteArray) (n : Int) (nonce t : ByteArray) : ByteArray := if key.size = 32 ∧ nonce.size = 12 ∧ (0 ≤ n ∧ n ≤ 4294967295) ∧ t.size ≤ 8000 then ⟨(cipherL key.data.toList n nonce.data.toList t.data.toList).toArray⟩ else ⟨#[]⟩
theorem cipherA_yes {key : ByteArray} {n : Int} {nonce t : ByteArray} (h : key.size = 32 ∧ nonce.size = 12 ∧ (0 ≤ n ∧ n ≤ 4294967295) ∧ t.size ≤ 8000) : cipherA key n nonce t = ⟨(cipherL key.data.toList n nonce.data.toList t.data.toList).toArray⟩ := if_pos h
theorem cipherA_no {key : ByteArray} {n : Int} {nonce t : ByteArray} (h : ¬ (key.size = 32 ∧ nonce.size = 12 ∧ (0 ≤ n ∧ n ≤ 4294967295) ∧ t.size ≤ 8000)) : cipherA key n nonce t = ⟨#[]⟩ := if_neg h
end Go.Proofs.YtneahcoakbbdaaaDoor.cc
