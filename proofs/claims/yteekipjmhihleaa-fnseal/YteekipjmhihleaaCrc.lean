/-
  The checksum functions of the program and of the model answer the same number, reckoned by one plain function: for texts of at most 8000 bytes and a checksum of 32 bits; beyond that both answer 0.
-/
import Derived.Test.YteekipjmhihleaaRows
import Derived.WalkKit
import Derived.ProofKit
import Derived.OpenShut
import Derived.ShutString
import Derived.WalkLawsBesides
namespace Go.Proofs.Yteekipjmhihleaa.cr
open Go.ChangeShapes Go.WideShapes Go.ChangeAt Go.RowKit
set_option linter.unusedVariables false

/-- one bit's turn of the register -/
def turn (y : Int) : Int := if (bits BinOp.and IntKind.u32 y 1 == 1) = true then bits BinOp.xor IntKind.u32 (y / 2) 3988292384 else y / 2
def turns : Nat → Int → Int
  | 0, y => y
  | n + 1, y => turn (turns n y)
/-- one byte's turn -/
def byteC (r b : Int) : Int := turns 8 (bits BinOp.xor IntKind.u32 r b)
def listC (r : Int) (l : List UInt8) : Int := l.foldl (fun r b => byteC r b.toNat) r
/-- the checksum that goes on from c over a text -/
def crcC (c : Int) (s : ByteArray) : Int := bits BinOp.xor IntKind.u32 (listC (bits BinOp.xor IntKind.u32 c 4294967295) s.data.toList) 4294967295

def u32P (y : Int) : Prop := 0 ≤ y ∧ y ≤ 4294967295
theorem bits_u32 (op : BinOp) (x y : Int) : u32P (bits op .u32 x y) := by
  have := wf_bits op .u32 x y
  simpa [u32P, Lit.wf, IntKind.min, IntKind.max, IntKind.signed, IntKind.bits] using this
theorem turn_u32 {y : Int} (h : u32P y) : u32P (turn y) := by
  unfold turn; split
  · exact bits_u32 _ _ _
  · unfold u32P at *; omega
theorem turns_u32 {y : Int} (h : u32P y) : ∀ n, u32P (turns n y)
  | 0 => h
  | n + 1 => turn_u32 (turns_u32 h n)
theorem listC_u32 : ∀ (l : List UInt8) {r : Int}, u32P r → u32P (listC r l)
  | [], _, h => h
  | b :: l, r, h => listC_u32 l (r := byteC r b.toNat) (turns_u32 (bits_u32 _ _ _) 8)
theorem crcC_u32 (c : Int) (s : ByteArray) : u32P (crcC c s) := bits_u32 _ _ _
theorem listC_snoc (r : Int) (l : List UInt8) (b : UInt8) : listC r (l ++ [b]) = byteC (listC r l) b.toNat := by
  simp [listC, List.foldl_append]
theorem take_snoc (s : ByteArray) (k : Nat) (h : k < s.size) : s.data.toList.take (k + 1) = s.data.toList.take k ++ [s[k]] := by
  rw [List.take_succ_eq_append_getElem (by simpa using h)]; rfl
theorem xor_comm (x y : Int) : bits BinOp.xor IntKind.u32 x y = bits BinOp.xor IntKind.u32 y x := by
  simp only [bits, BitVec.xor_comm]
theorem max_u32 : IntKind.u32.max = 4294967295 := by decide

theorem ret_int {k : IntKind} {a b : Int} (h : a = b) : Ending.returned (.int k a) = .returned (.int k b) := by rw [h]
theorem val_int {k : IntKind} {a b : Int} (h : a = b) : Value.int k a = .int k b := by rw [h]

set_option maxHeartbeats 1000000 in
theorem byte_any (r b : Int) (w : World) (hr : u32P r) (hb : 0 ≤ b ∧ b ≤ 255) :
    Calls Try.prog 23 #[.int .u32 r, .int .u8 b] w fun e w' => e = .returned (.int .u32 (byteC r b)) ∧ w' = w := by
  obtain ⟨r0, r1⟩ := hr
  obtain ⟨b0, b1⟩ := hb
  go_enter Try.func23, Try.ntmps23
  go_wp2
  go_loop [0, 5, 6] (fun t i l => ∃ (k : Nat) (y : Int), k ≤ 8 ∧ i = .int .i64 k ∧ t = .int .u32 y ∧ u32P y ∧ Hid (y = turns k (bits BinOp.xor IntKind.u32 r b))) (fun _ i _ => 8 - (intOf i).toNat)
  case atStart => exact ⟨0, _, by omega, rfl, rfl, bits_u32 _ _ _, rfl⟩
  case round =>
    obtain ⟨k, y, hk, rfl, rfl, ⟨y0, y1⟩, HY⟩ := hrel
    by_cases hlt : k < 8
    · have HS : Hid (turns (k + 1) (bits BinOp.xor IntKind.u32 r b) = turn y) := by
        show _ = _
        rw [HY.out]; rfl
      have HU : Hid (u32P (turn y)) := turn_u32 ⟨y0, y1⟩
      go_wp2
      all_goals
        go_round
        case rel =>
          refine ⟨k + 1, turn y, by omega, by go_num, ?_, HU.out, HS.out.symm⟩
          unfold turn
          first | rw [if_pos (by assumption)] | rw [if_neg (by simp [*])]
        case measure => simp [intOf]; omega
    · obtain rfl : k = 8 := by omega
      go_wp2
      go_ret
      exact ⟨ret_int HY.out, rfl⟩

set_option maxHeartbeats 1000000 in
theorem more_any (c : Int) (s : ByteArray) (w : World) (h : s.size ≤ 8000) (h0 : 0 ≤ c) (h1 : c ≤ 4294967295) :
    Calls Try.prog 10 #[.int .i64 c, .string s] w fun e w' => e = .returned (.int .i64 (crcC c s)) ∧ w' = w := by
  go_enter Try.func10, Try.ntmps10
  go_wp2
  go_loop [5, 6] (fun t i => ∃ (k : Nat) (y : Int), k ≤ s.size ∧ i = .int .i64 k ∧ t = .int .u32 y ∧ u32P y ∧ Hid (y = listC (bits BinOp.xor IntKind.u32 c 4294967295) (s.data.toList.take k))) (fun _ i => s.size - (intOf i).toNat)
  case atStart => exact ⟨0, _, by omega, rfl, rfl, bits_u32 _ _ _, by show _ = _; rw [xor_comm, max_u32]; rfl⟩
  case round =>
    obtain ⟨k, y, hk, rfl, rfl, hu, HY⟩ := hrel
    by_cases hlt : k < s.size
    · have HS : Hid (listC (bits BinOp.xor IntKind.u32 c 4294967295) (s.data.toList.take (k + 1)) = byteC y s[k].toNat) := by
        show _ = _
        rw [take_snoc s k hlt, listC_snoc, HY.out]
      have hb := s[k].toNat_lt
      go_wp2_with (go_at_call 23; refine (byte_any _ _ _ hu (by omega)).mono ?_; rintro e w' ⟨rfl, rfl⟩)
      go_round
      case rel => exact ⟨k + 1, _, by omega, by go_num, rfl, turns_u32 (bits_u32 _ _ _) 8, HS.out.symm⟩
      case measure => simp [intOf]; omega
    · have HE : Hid (crcC c s = bits BinOp.xor IntKind.u32 IntKind.u32.max y) := by
        show _ = _
        rw [HY.out, List.take_of_length_le (by simp; omega), crcC, xor_comm, max_u32]
      have hv := bits_u32 BinOp.xor IntKind.u32.max y
      obtain ⟨v0, v1⟩ := hv
      go_wp2
      go_ret
      exact ⟨ret_int HE.out.symm, rfl⟩

set_option maxHeartbeats 1000000 in
theorem spec_any (c : Int) (s : ByteArray) (w : World) (h : s.size ≤ 8000) (h0 : 0 ≤ c) (h1 : c ≤ 4294967295) :
    Calls Try.prog 20 #[.int .i64 c, .string s] w fun e w' => e = .returned (.int .i64 (crcC c s)) ∧ w' = w := by
  go_enter Try.func20, Try.ntmps20
  go_wp2
  go_loop [5, 6, 7] (fun t i _ => ∃ (k : Nat) (y : Int), k ≤ s.size ∧ i = .int .i64 k ∧ t = .int .u32 y ∧ u32P y ∧ Hid (y = listC (bits BinOp.xor IntKind.u32 c 4294967295) (s.data.toList.take k))) (fun _ i _ => s.size - (intOf i).toNat)
  case atStart => exact ⟨0, _, by omega, rfl, rfl, bits_u32 _ _ _, rfl⟩
  case round =>
    obtain ⟨k, y, hk, rfl, rfl, hu, HY⟩ := hrel
    by_cases hlt : k < s.size
    · have HS : Hid (listC (bits BinOp.xor IntKind.u32 c 4294967295) (s.data.toList.take (k + 1)) = byteC y s[k].toNat) := by
        show _ = _
        rw [take_snoc s k hlt, listC_snoc, HY.out]
      have hb := s[k].toNat_lt
      go_wp2
      go_loop [5, 7] (fun t i => ∃ (j : Nat) (z : Int), j ≤ 8 ∧ i = .int .i64 j ∧ t = .int .u32 z ∧ u32P z ∧ Hid (z = turns j (bits BinOp.xor IntKind.u32 y s[k].toNat))) (fun _ i => 8 - (intOf i).toNat)
      case atStart => exact ⟨0, _, by omega, rfl, rfl, bits_u32 _ _ _, rfl⟩
      case round =>
        obtain ⟨j, z, hj, rfl, rfl, ⟨z0, z1⟩, HZ⟩ := hrel
        by_cases hlt8 : j < 8
        · have HT : Hid (turns (j + 1) (bits BinOp.xor IntKind.u32 y s[k].toNat) = turn z) := by
            show _ = _
            rw [HZ.out]; rfl
          have HU : Hid (u32P (turn z)) := turn_u32 ⟨z0, z1⟩
          go_wp2
          all_goals
            go_round
            case rel =>
              refine ⟨j + 1, turn z, by omega, by go_num, ?_, HU.out, HT.out.symm⟩
              unfold turn
              first | rw [if_pos (by assumption)] | rw [if_neg (by simp [*])]
            case measure => simp [intOf]; omega
        · obtain rfl : j = 8 := by omega
          go_wp2
          go_round
          case rel => exact ⟨k + 1, _, by omega, by go_num, rfl, ⟨z0, z1⟩, by show _ = _; rw [HS.out, HZ.out]; rfl⟩
          case measure => simp [intOf]; omega
    · have HE : Hid (crcC c s = bits BinOp.xor IntKind.u32 y 4294967295) := by
        show _ = _
        rw [HY.out, List.take_of_length_le (by simp; omega), crcC]
      have hv := bits_u32 BinOp.xor y 4294967295
      obtain ⟨v0, v1⟩ := hv
      go_wp2
      go_ret
      exact ⟨ret_int HE.out.symm, rfl⟩

/-- what both answer of a checksum and a text -/
def moreC (c : Int) (s : ByteArray) : Int := if 8000 < s.size ∨ c < 0 ∨ 4294967295 < c then 0 else crcC c s
theorem moreC_no {c : Int} {s : ByteArray} (h : 8000 < s.size ∨ c < 0 ∨ 4294967295 < c) : moreC c s = 0 := if_pos h
theorem moreC_yes {c : Int} {s : ByteArray} (h : ¬ (8000 < s.size ∨ c < 0 ∨ 4294967295 < c)) : moreC c s = crcC c s := if_neg h

theorem implMore_any (c : Int) (s : ByteArray) (w : World) (hs : s.size ≤ maxLen) :
    Calls Try.prog 10 #[.int .i64 c, .string s] w fun e w' => e = .returned (.int .i64 (moreC c s)) ∧ w' = w := by
  unfold maxLen at hs
  by_cases hb : 8000 < s.size ∨ c < 0 ∨ 4294967295 < c
  · rw [moreC_no hb]
    by_cases h1 : 8000 < s.size
    · go_enter Try.func10, Try.ntmps10
      go_wp2
      go_ret
      exact ⟨rfl, rfl⟩
    · by_cases h2 : c < 0
      · clear hb
        go_enter Try.func10, Try.ntmps10
        go_wp2
        go_ret
        exact ⟨rfl, rfl⟩
      · have h3 : 4294967295 < c := by omega
        clear hb
        go_enter Try.func10, Try.ntmps10
        go_wp2
        go_ret
        exact ⟨rfl, rfl⟩
  · rw [moreC_yes hb]
    exact more_any c s w (by omega) (by omega) (by omega)

theorem specMore_any (c : Int) (s : ByteArray) (w : World) (hs : s.size ≤ maxLen) :
    Calls Try.prog 11 #[.int .i64 c, .string s] w fun e w' => e = .returned (.int .i64 (moreC c s)) ∧ w' = w := by
  unfold maxLen at hs
  by_cases hb : 8000 < s.size ∨ c < 0 ∨ 4294967295 < c
  · rw [moreC_no hb]
    by_cases h1 : 8000 < s.size
    · go_enter Try.func11, Try.ntmps11
      go_wp2
      go_ret
      exact ⟨rfl, rfl⟩
    · by_cases h2 : c < 0
      · clear hb
        go_enter Try.func11, Try.ntmps11
        go_wp2
        go_ret
        exact ⟨rfl, rfl⟩
      · have h3 : 4294967295 < c := by omega
        clear hb
        go_enter Try.func11, Try.ntmps11
        go_wp2
        go_ret
        exact ⟨rfl, rfl⟩
  · rw [moreC_yes hb]
    have h1 : s.size ≤ 8000 := by omega
    have h2 : 0 ≤ c := by omega
    have h3 : c ≤ 4294967295 := by omega
    clear hb
    go_enter Try.func11, Try.ntmps11
    go_wp2_with (go_at_call 20; refine (spec_any _ _ _ h1 h2 h3).mono ?_; rintro e w' ⟨rfl, rfl⟩)
    go_ret
    exact ⟨rfl, rfl⟩

theorem implCrc_any (s : ByteArray) (w : World) (hs : s.size ≤ maxLen) :
    Calls Try.prog 12 #[.string s] w fun e w' => e = .returned (.int .i64 (moreC 0 s)) ∧ w' = w := by
  go_enter Try.func12, Try.ntmps12
  go_wp2_with (go_at_call 10; refine (implMore_any _ _ _ hs).mono ?_; rintro e w' ⟨rfl, rfl⟩)
  go_ret
  exact ⟨rfl, rfl⟩

theorem specCrc_any (s : ByteArray) (w : World) (hs : s.size ≤ maxLen) :
    Calls Try.prog 22 #[.string s] w fun e w' => e = .returned (.int .i64 (moreC 0 s)) ∧ w' = w := by
  unfold maxLen at hs
  by_cases h1 : 8000 < s.size
  · rw [moreC_no (Or.inl h1)]
    go_enter Try.func22, Try.ntmps22
    go_wp2
    go_ret
    exact ⟨rfl, rfl⟩
  · rw [moreC_yes (by omega)]
    have h1' : s.size ≤ 8000 := by omega
    go_enter Try.func22, Try.ntmps22
    go_wp2_with (go_at_call 20; refine (spec_any _ _ _ h1' (by omega) (by omega)).mono ?_; rintro e w' ⟨rfl, rfl⟩)
    go_ret
    exact ⟨rfl, rfl⟩
end Go.Proofs.Yteekipjmhihleaa.cr
