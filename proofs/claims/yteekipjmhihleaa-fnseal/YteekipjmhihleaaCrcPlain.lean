/-
  Plain mathematics of the checksum: it goes on from text to text; with one byte turned it is another one; so a seal with one byte turned is no seal. No condition.
-/
import Derived.Test.YteekipjmhihleaaUnsealI
import Derived.Laws.BitsAllLaws
namespace Go.Proofs.Yteekipjmhihleaa.cp
open Go.ChangeShapes Go.WideShapes Go.ChangeAt Go.RowKit
open Go.Proofs.Yteekipjmhihleaa.cr
set_option linter.unusedVariables false

theorem xor_nat {x y : Int} (hx : u32P x) (hy : u32P y) : bits BinOp.xor IntKind.u32 x y = ((x.toNat ^^^ y.toNat : Nat) : Int) := u32_xor x y hx.1 (by have := hx.2; omega) hy.1 (by have := hy.2; omega)
theorem nat_xor_inj {a b c : Nat} (h : a ^^^ c = b ^^^ c) : a = b := by
  have h2 := congrArg (· ^^^ c) h
  simpa [Nat.xor_assoc] using h2
theorem xor_inj {x x' y : Int} (hx : u32P x) (hx' : u32P x') (hy : u32P y) (h : bits BinOp.xor IntKind.u32 x y = bits BinOp.xor IntKind.u32 x' y) : x = x' := by
  rw [xor_nat hx hy, xor_nat hx' hy] at h
  have h1 : x.toNat ^^^ y.toNat = x'.toNat ^^^ y.toNat := by omega
  have h2 := nat_xor_inj h1
  have := hx.1; have := hx'.1
  omega
theorem xor_twice {x y : Int} (hx : u32P x) (hy : u32P y) : bits BinOp.xor IntKind.u32 (bits BinOp.xor IntKind.u32 x y) y = x := by
  have hb := bits_u32 BinOp.xor x y
  rw [xor_nat hb hy, xor_nat hx hy]
  have h0 := hx.1
  have e : ((x.toNat ^^^ y.toNat : Nat) : Int).toNat = x.toNat ^^^ y.toNat := by omega
  rw [e, Nat.xor_assoc, Nat.xor_self, Nat.xor_zero]
  omega
theorem and_one {y : Int} (h : u32P y) : bits BinOp.and IntKind.u32 y 1 = y % 2 := by
  rw [u32_and y 1 h.1 (by have := h.2; omega) (by decide) (by decide)]
  have e : y.toNat &&& (2 ^ 1 - 1) = y.toNat % 2 ^ 1 := Nat.and_two_pow_sub_one_eq_mod _ _
  have e' : y.toNat &&& (1 : Int).toNat = y.toNat % 2 := e
  rw [e']
  have := h.1
  omega
theorem poly_u32 : u32P 3988292384 := by unfold u32P; omega
theorem half_u32 {y : Int} (h : u32P y) : u32P (y / 2) := by unfold u32P at *; omega
theorem turn_odd {y : Int} (h : u32P y) (ho : y % 2 = 1) : turn y = bits BinOp.xor IntKind.u32 (y / 2) 3988292384 := by
  unfold turn; rw [if_pos (by rw [and_one h, ho]; rfl)]
theorem turn_even {y : Int} (h : u32P y) (ho : y % 2 = 0) : turn y = y / 2 := by
  unfold turn; rw [if_neg (by rw [and_one h, ho]; decide)]
theorem turn_big {y : Int} (h : u32P y) (ho : y % 2 = 1) : 2147483648 ≤ turn y := by
  rw [turn_odd h ho, xor_nat (half_u32 h) poly_u32]
  have hlt : (y / 2).toNat < 2 ^ 31 := by unfold u32P at h; omega
  have hb : ((y / 2).toNat ^^^ (3988292384 : Int).toNat).testBit 31 = true := by
    rw [Nat.testBit_xor, Nat.testBit_lt_two_pow hlt]
    decide
  have := Nat.ge_two_pow_of_testBit hb
  omega
theorem turn_inj {y y' : Int} (h : u32P y) (h' : u32P y') (e : turn y = turn y') : y = y' := by
  rcases Int.emod_two_eq y with p | p <;> rcases Int.emod_two_eq y' with p' | p'
  · rw [turn_even h p, turn_even h' p'] at e; omega
  · have := turn_big h' p'
    rw [← e, turn_even h p] at this
    unfold u32P at h; omega
  · have := turn_big h p
    rw [e, turn_even h' p'] at this
    unfold u32P at h'; omega
  · rw [turn_odd h p, turn_odd h' p'] at e
    have := xor_inj (half_u32 h) (half_u32 h') poly_u32 e
    omega
theorem turns_inj {y y' : Int} (h : u32P y) (h' : u32P y') : ∀ n, turns n y = turns n y' → y = y'
  | 0, e => e
  | n + 1, e => turns_inj h h' n (turn_inj (turns_u32 h n) (turns_u32 h' n) e)
theorem byte_u32 (b : UInt8) : u32P (b.toNat : Int) := by have := b.toNat_lt; unfold u32P; omega
theorem byteC_inj {r r' : Int} (h : u32P r) (h' : u32P r') (b : UInt8) (e : byteC r b.toNat = byteC r' b.toNat) : r = r' :=
  xor_inj h h' (byte_u32 b) (turns_inj (bits_u32 _ _ _) (bits_u32 _ _ _) 8 e)
theorem byteC_other {r : Int} (h : u32P r) {b b' : UInt8} (e : byteC r b.toNat = byteC r b'.toNat) : b = b' := by
  have e1 := turns_inj (bits_u32 BinOp.xor r b.toNat) (bits_u32 BinOp.xor r b'.toNat) 8 e
  rw [xor_comm r, xor_comm r] at e1
  have e2 := xor_inj (byte_u32 b) (byte_u32 b') h e1
  exact UInt8.toNat_inj.1 (by omega)
theorem listC_inj : ∀ (l : List UInt8) {r r' : Int}, u32P r → u32P r' → listC r l = listC r' l → r = r'
  | [], _, _, _, _, e => e
  | b :: l, r, r', h, h', e => byteC_inj h h' b (listC_inj l (r := byteC r b.toNat) (r' := byteC r' b.toNat) (turns_u32 (bits_u32 _ _ _) 8) (turns_u32 (bits_u32 _ _ _) 8) e)
theorem listC_append (r : Int) (l m : List UInt8) : listC r (l ++ m) = listC (listC r l) m := by simp [listC, List.foldl_append]
/-- one byte turned: another register -/
theorem listC_turned {r : Int} (h : u32P r) (p q : List UInt8) {x x' : UInt8} (hne : x ≠ x') : listC r (p ++ x :: q) ≠ listC r (p ++ x' :: q) := by
  intro e
  rw [listC_append, listC_append] at e
  have hp := listC_u32 p h
  have e1 := listC_inj q (r := byteC (listC r p) x.toNat) (r' := byteC (listC r p) x'.toNat) (turns_u32 (bits_u32 _ _ _) 8) (turns_u32 (bits_u32 _ _ _) 8) e
  exact hne (byteC_other hp e1)
theorem start_u32 (c : Int) : u32P (bits BinOp.xor IntKind.u32 c 4294967295) := bits_u32 _ _ _
theorem ones_u32 : u32P 4294967295 := by unfold u32P; omega
theorem crc_turned (c : Int) (s s' : ByteArray) (p q : List UInt8) {x x' : UInt8} (hs : s.data.toList = p ++ x :: q) (hs' : s'.data.toList = p ++ x' :: q) (hne : x ≠ x') : crcC c s ≠ crcC c s' := by
  intro e
  unfold crcC at e
  rw [hs, hs'] at e
  exact listC_turned (start_u32 c) p q hne (xor_inj (listC_u32 _ (start_u32 c)) (listC_u32 _ (start_u32 c)) ones_u32 e)
/-- the checksum goes on -/
theorem crc_more (t u : ByteArray) : crcC (crcC 0 t) u = crcC 0 (t ++ u) := by
  have e : bits BinOp.xor IntKind.u32 (crcC 0 t) 4294967295 = listC (bits BinOp.xor IntKind.u32 0 4294967295) t.data.toList := xor_twice (listC_u32 _ (start_u32 0)) ones_u32
  unfold crcC at e ⊢
  rw [e]
  simp [listC_append]
theorem more_more {t u : ByteArray} (h : ¬ 8000 < t.size + u.size) : moreC (moreC 0 t) u = moreC 0 (t ++ u) := by
  have h1 : moreC 0 t = crcC 0 t := moreC_yes (by omega)
  have hb := crcC_u32 0 t
  have hsz : (t ++ u).size = t.size + u.size := by simp
  rw [h1, moreC_yes (by obtain ⟨b0, b1⟩ := hb; omega), moreC_yes (by omega), crc_more]

theorem four_inj {n m : Int} (hn : u32P n) (hm : u32P m) (e : se.fourB n = se.fourB m) : n = m := by
  have e1 : (strOfNums [n % 256, n / 256 % 256, n / 65536 % 256, n / 16777216]).data.toList = (strOfNums [m % 256, m / 256 % 256, m / 65536 % 256, m / 16777216]).data.toList := congrArg (fun x : ByteArray => x.data.toList) e
  rw [strOfNums_data, strOfNums_data] at e1
  simp only [List.map_cons, List.map_nil, List.cons.injEq, and_true] at e1
  obtain ⟨e1, e2, e3, e4⟩ := e1
  have key : ∀ a b : Int, 0 ≤ a → a < 256 → 0 ≤ b → b < 256 → UInt8.ofNat a.toNat = UInt8.ofNat b.toNat → a = b := by
    intro a b a0 a1 b0 b1 h
    have h2 := congrArg UInt8.toNat h
    simp at h2
    omega
  unfold u32P at hn hm
  have k1 := key _ _ (by omega) (by omega) (by omega) (by omega) e1
  have k2 := key _ _ (by omega) (by omega) (by omega) (by omega) e2
  have k3 := key _ _ (by omega) (by omega) (by omega) (by omega) e3
  have k4 := key _ _ (by omega) (by omega) (by omega) (by omega) e4
  omega
end Go.Proofs.Yteekipjmhihleaa.cp
