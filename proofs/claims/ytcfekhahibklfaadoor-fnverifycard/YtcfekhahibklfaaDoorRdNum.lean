/-
  What the program reads of a number from its bytes, for every text of at most 8000 bytes and every place.
-/
import Derived.Test.YtcfekhahibklfaaDoorNumPlain
namespace Go.Proofs.YtcfekhahibklfaaDoor.gi
open Go.ChangeShapes Go.WideShapes Go.ChangeAt Go.RowKit
open Go.Proofs.YtcfekhahibklfaaDoor.np
set_option linter.unusedVariables false

theorem ret_int {k : IntKind} {a b : Int} (h : a = b) : Ending.returned (.int k a) = .returned (.int k b) := by rw [h]
theorem and127 {b : Int} (h0 : 0 ≤ b) (h1 : b ≤ 255) : bits BinOp.and IntKind.u8 b 127 = b % 128 := by
  rw [u8_and b 127 h0 (by omega) (by decide) (by decide)]
  have h : b.toNat &&& (2 ^ 7 - 1) = b.toNat % 2 ^ 7 := Nat.and_two_pow_sub_one_eq_mod _ _
  have h' : b.toNat &&& (127 : Int).toNat = b.toNat % 128 := h
  rw [h']
  omega
theorem or_add {y z : Int} {k m : Nat} (hy0 : 0 ≤ y) (hy : y.toNat < 128 ^ k) (hz : z = ((m * 128 ^ k : Nat) : Int)) (hy1 : y ≤ 9223372036854775807) (hz1 : z ≤ 18446744073709551615) :
    bits BinOp.or IntKind.u64 y z = y + z := by
  rw [u64_or y z hy0 (by omega) (by omega) (by omega)]
  have e : (128 : Nat) ^ k = 2 ^ (7 * k) := by rw [Nat.pow_mul]
  have hz2 : z.toNat = 2 ^ (7 * k) * m := by rw [hz, e, Nat.mul_comm]; rfl
  have h : 2 ^ (7 * k) * m + y.toNat = 2 ^ (7 * k) * m ||| y.toNat := Nat.two_pow_add_eq_or_of_lt (by rw [← e]; exact hy) m
  rw [Nat.or_comm, hz2, ← h, ← hz2]
  omega
theorem bits_u64 (op : BinOp) (x y : Int) : 0 ≤ bits op .u64 x y ∧ bits op .u64 x y ≤ 18446744073709551615 := by
  have := wf_bits op .u64 x y
  simpa [Lit.wf, IntKind.min, IntKind.max, IntKind.signed, IntKind.bits] using this
theorem not_i64 (x : Int) (h0 : 0 ≤ x) (h1 : x ≤ 9223372036854775807) : bits BinOp.xor IntKind.i64 (-1) x = -x - 1 := by
  have e1 : BitVec.ofInt 64 (-1) = BitVec.allOnes 64 := by decide
  have e2 : (BitVec.ofInt 64 (-1) ^^^ BitVec.ofInt 64 x).toNat = 18446744073709551615 - x.toNat := by
    rw [e1, BitVec.allOnes_xor, BitVec.toNat_not, BitVec.toNat_ofInt]
    omega
  show IntKind.i64.wrap (((BitVec.ofInt 64 (-1) ^^^ BitVec.ofInt 64 x).toNat : Nat) : Int) = -x - 1
  rw [e2, IntKind.wrap_i64]
  omega

set_option maxHeartbeats 400000 in
theorem unfolded_any (y : Int) (w : World) (h0 : 0 ≤ y) (h1 : y ≤ 18446744073709551615) :
    Calls Tryd.prog 86 #[.int .u64 y] w fun e w' => e = .returned (.int .i64 (unf y)) ∧ w' = w := by
  have ha := and_one_u64 y h0 h1
  by_cases hp : (y % 2 == 1) = true
  · have HP : Hid (unf y = -(y / 2) - 1) := unf_odd hp
    go_enter Tryd.func86, Tryd.ntmps86
    go_wp2
    all_goals
      go_ret
      exact ⟨ret_int (by rw [HP.out, not_i64 _ (by omega) (by omega)]), rfl⟩
  · have hp2 : (y % 2 == 1) = false := by simpa using hp
    have HP : Hid (unf y = y / 2) := unf_even hp2
    go_enter Tryd.func86, Tryd.ntmps86
    go_wp2
    go_ret
    exact ⟨ret_int HP.out.symm, rfl⟩

/-- what holds where the run jumps to: 0: it is refused; 1: the next byte; 2: the last byte was read -/
def J (s : ByteArray) (i0 : Int) (a : Nat) (W : World) : Nat → Act → World → Prop
  | 0, x, w => w = W ∧ ∃ (c : Int) (u7 u8 u10 u11 u12 u13 u14 u15 u16 u17 u18 u19 u20 u21 u22 u23 u24 u25 u26 u27 u28 u29 u30 u31 u32 u33 u34 u35 u36 u37 u38 u39 u40 u41 u42 u43 u44 u45 u46 u47 u48 u49 u50 u51 u52 u53 u54 u55 u56 u57 u58 u59 u60 : Value), x = { tmps := #[.string s, .int .i64 i0, undef, undef, .int .i64 0, .int .i64 0, .nilIface, u7, u8, .int .i64 c, u10, u11, u12, u13, u14, u15, u16, u17, u18, u19, u20, u21, u22, u23, u24, u25, u26, u27, u28, u29, u30, u31, u32, u33, u34, u35, u36, u37, u38, u39, u40, u41, u42, u43, u44, u45, u46, u47, u48, u49, u50, u51, u52, u53, u54, u55, u56, u57, u58, u59, u60], defers := [] } ∧ Hid (go s a 0 10 = (0, 0, c)) ∧ 1 ≤ c
  | 1, x, w => w = W ∧ ∃ (k : Nat) (y : Int) (u8 u11 u12 u13 u14 u15 u16 u17 u18 u19 u20 u21 u22 u23 u24 u25 u26 u27 u28 u29 u30 u31 u32 u33 u34 u35 u36 u37 u38 u39 u40 u41 u42 u43 u44 u45 u46 u47 u48 u49 u50 u51 u52 u53 u54 u55 u56 u57 u58 u59 u60 : Value), x = { tmps := #[.string s, .int .i64 i0, undef, undef, .int .i64 0, .int .i64 0, .nilIface, .int .u64 y, u8, .int .i64 1, .int .i64 (k : Int), u11, u12, u13, u14, u15, u16, u17, u18, u19, u20, u21, u22, u23, u24, u25, u26, u27, u28, u29, u30, u31, u32, u33, u34, u35, u36, u37, u38, u39, u40, u41, u42, u43, u44, u45, u46, u47, u48, u49, u50, u51, u52, u53, u54, u55, u56, u57, u58, u59, u60], defers := [] } ∧ k ≤ 9 ∧ Hid (y = (acc s a k : Int)) ∧ Hid (go s a 0 10 = go s a k ((9 - k) + 1)) ∧ 0 ≤ y ∧ y ≤ 9223372036854775807
  | 2, x, w => w = W ∧ ∃ (k : Nat) (y b : Int) (u11 u12 u13 u14 u15 u16 u17 u18 u19 u20 u21 u22 u23 u24 u25 u26 u27 u28 u29 u30 u31 u32 u33 u34 u35 u36 u37 u38 u39 u40 u41 u42 u43 u44 u45 u46 u47 u48 u49 u50 u51 u52 u53 u54 u55 u56 u57 u58 u59 u60 : Value), x = { tmps := #[.string s, .int .i64 i0, undef, undef, .int .i64 0, .int .i64 0, .nilIface, .int .u64 y, .int .u8 b, .int .i64 1, .int .i64 (k : Int), u11, u12, u13, u14, u15, u16, u17, u18, u19, u20, u21, u22, u23, u24, u25, u26, u27, u28, u29, u30, u31, u32, u33, u34, u35, u36, u37, u38, u39, u40, u41, u42, u43, u44, u45, u46, u47, u48, u49, u50, u51, u52, u53, u54, u55, u56, u57, u58, u59, u60], defers := [] } ∧ k ≤ 9 ∧ 0 ≤ y ∧ y ≤ 18446744073709551615 ∧ 0 ≤ b ∧ b < 128 ∧ i0 + k < s.size ∧ Hid ((k = 9 ∧ 1 < b) ∨ (0 < k ∧ b = 0) → go s a 0 10 = (0, 0, 3)) ∧ Hid (¬ ((k = 9 ∧ 1 < b) ∨ (0 < k ∧ b = 0)) → go s a 0 10 = (unf y, i0 + k + 1, 0))
  | _, _, _ => False
/-- how far it still is -/
def M : Nat → Act → World → Nat
  | 1, x, _ => 2 + (10 - (intOf (x.tmps.getD 10 undef)).toNat)
  | 2, _, _ => 1
  | _, _, _ => 0

def errV (c : Int) : Value := if c = 0 then .nilIface else .iface 109 (.agg #[.int .i64 c])
theorem errV_ok : errV 0 = .nilIface := rfl
theorem errV_no {c : Int} (h : 1 ≤ c) : errV c = .iface 109 (.agg #[.int .i64 c]) := if_neg (by omega)
def tupV (r : Int × Int × Int) : Value := .tuple #[.int .i64 r.1, .int .i64 r.2.1, errV r.2.2]

set_option maxRecDepth 20000 in
set_option maxHeartbeats 4000000 in
theorem readNum_pos (s : ByteArray) (i0 : Int) (a : Nat) (w : World) (hs : s.size ≤ 8000) (HA : Hid (i0 = (a : Int))) (h0 : 0 ≤ i0) (h1 : i0 ≤ 9223372036854775807) :
    Calls Tryd.prog 81 #[.string s, .int .i64 i0] w fun e w' => e = .returned (tupV (go s a 0 10)) ∧ w' = w := by
  go_enter Tryd.func81, Tryd.ntmps81
  go_wp2
  refine wp_scope_labels (J s i0 a w) M ?_ ?_
  · by_cases hend : (s.size : Int) ≤ i0
    · have HE : Hid (go s a 0 10 = (0, 0, 4)) := by
        show _ = _
        rw [go_end (by have := HA.out; omega)]
      go_wp2
      go_step3
      go_wp2
      go_step3
      exact (show J s i0 a w 0 _ _ from ⟨rfl, 4, _, _, _, _, _, _, _, _, _, _, _, _, _, _, _, _, _, _, _, _, _, _, _, _, _, _, _, _, _, _, _, _, _, _, _, _, _, _, _, _, _, _, _, _, _, _, _, _, _, _, _, _, _, rfl, HE.out, by omega⟩)
    · have ha8 : a < s.size := by have := HA.out; omega
      obtain rfl : i0 = (a : Int) := HA.out
      clear h1 h0 hend
      obtain ⟨b, hbe⟩ : ∃ b : Int, (s[a].toNat : Int) = b := ⟨_, rfl⟩
      have HB : Hid (b = (byteAt s (a + 0) : Int)) := by show _ = _; rw [← hbe, byteAt_eq ha8]; rfl
      have hb0 : 0 ≤ b := by rw [HB.out]; omega
      have hb1 : b ≤ 255 := by rw [HB.out]; have := byteAt_lt s (a + 0); omega
      have ha := and127 hb0 hb1
      have ho : bits BinOp.or IntKind.u64 0 (b % 128) = b % 128 := by
        have := or_add (y := 0) (z := b % 128) (k := 0) (m := (b % 128).toNat) (by omega) (by simp) (by simp; omega) (by omega) (by omega)
        rw [this]; omega
      have HC : Hid ((acc s a 1 : Int) = b % 128) := by
        show _ = _
        have e : acc s a 1 = byteAt s (a + 0) % 128 := by simp [acc]
        rw [e, HB.out]; simp
      by_cases hb3 : b < 128
      · have HE1 : Hid ((0 = 9 ∧ 1 < b) ∨ (0 < 0 ∧ b = 0) → go s a 0 10 = (0, 0, 3)) := fun h => by omega
        have HE2 : Hid (¬ ((0 = 9 ∧ 1 < b) ∨ (0 < 0 ∧ b = 0)) → go s a 0 10 = (unf (b % 128), (a : Int) + (0 : Nat) + 1, 0)) := fun h => by
          rw [go_last (by omega) (by omega) (by have := HB.out; omega) (by omega), ← HC.out]
          simp
        go_wp2
        go_step3
        go_wp2
        go_step3
        exact (show J s a a w 2 _ _ from ⟨rfl, 0, b % 128, b, _, _, _, _, _, _, _, _, _, _, _, _, _, _, _, _, _, _, _, _, _, _, _, _, _, _, _, _, _, _, _, _, _, _, _, _, _, _, _, _, _, _, _, _, _, _, _, _, _, _, rfl, by omega, by omega, by omega, hb0, hb3, by omega, HE1.out, HE2.out⟩)
      · have HE : Hid (go s a 0 10 = go s a (0 + 1) ((9 - (0 + 1)) + 1)) := by
          show _ = _
          rw [go_more (by omega) (by omega) (by have := HB.out; omega)]
        go_wp2
        go_step3
        go_wp2
        go_step3
        exact (show J s a a w 1 _ _ from ⟨rfl, 1, b % 128, _, _, _, _, _, _, _, _, _, _, _, _, _, _, _, _, _, _, _, _, _, _, _, _, _, _, _, _, _, _, _, _, _, _, _, _, _, _, _, _, _, _, _, _, _, _, _, _, _, _, _, rfl, by omega, HC.out.symm, HE.out, by omega, by omega⟩)
  · intro l x u hJ
    match l, hJ with
    | 0, hJ =>
      obtain ⟨rfl, c, u7, u8, u10, u11, u12, u13, u14, u15, u16, u17, u18, u19, u20, u21, u22, u23, u24, u25, u26, u27, u28, u29, u30, u31, u32, u33, u34, u35, u36, u37, u38, u39, u40, u41, u42, u43, u44, u45, u46, u47, u48, u49, u50, u51, u52, u53, u54, u55, u56, u57, u58, u59, u60, rfl, HG, hc⟩ := hJ
      refine ⟨_, rfl, ?_⟩
      go_wp2
      rw [jumps_ret]
      go_ret3
      exact ⟨by rw [HG.out, tupV, errV_no hc]; rfl, rfl⟩
    | 1, hJ =>
      obtain ⟨rfl, k, y, u8, u11, u12, u13, u14, u15, u16, u17, u18, u19, u20, u21, u22, u23, u24, u25, u26, u27, u28, u29, u30, u31, u32, u33, u34, u35, u36, u37, u38, u39, u40, u41, u42, u43, u44, u45, u46, u47, u48, u49, u50, u51, u52, u53, u54, u55, u56, u57, u58, u59, u60, rfl, hk9, HY, HG, y0, y1⟩ := hJ
      refine ⟨_, rfl, ?_⟩
      by_cases hend : (s.size : Int) ≤ i0 + k
      · have HE : Hid (go s a 0 10 = (0, 0, 4)) := by
          show _ = _
          rw [HG.out, go_end (by have := HA.out; omega)]
        go_wp2
        go_step3
        exact (show J s i0 a u 0 _ _ ∧ M 0 _ _ < M 1 _ _ from ⟨⟨rfl, 4, _, _, _, _, _, _, _, _, _, _, _, _, _, _, _, _, _, _, _, _, _, _, _, _, _, _, _, _, _, _, _, _, _, _, _, _, _, _, _, _, _, _, _, _, _, _, _, _, _, _, _, _, _, rfl, HE.out, by omega⟩, by show 0 < 2 + _; omega⟩)
      · have ha8 : a + k < s.size := by have := HA.out; omega
        obtain rfl : i0 = (a : Int) := HA.out
        clear h1 h0 hend
        obtain ⟨b, hbe⟩ : ∃ b : Int, (s[a + k].toNat : Int) = b := ⟨_, rfl⟩
        have HB : Hid (b = (byteAt s (a + k) : Int)) := by show _ = _; rw [← hbe, byteAt_eq ha8]
        have hb0 : 0 ≤ b := by rw [HB.out]; omega
        have hb1 : b ≤ 255 := by rw [HB.out]; have := byteAt_lt s (a + k); omega
        have ha := and127 hb0 hb1
        by_cases hk : k = 9
        · subst hk
          by_cases hb3 : b < 128
          · have HE1 : Hid (1 < b ∨ b = 0 → go s a 0 10 = (0, 0, 3)) := fun h => by
              rw [HG.out]
              by_cases hb2 : 1 < b
              · rw [go_bad9 (by omega) (by have := HB.out; omega)]
              · rw [go_zero (by omega) (by have := HB.out; omega) (by omega)]
            by_cases hb4 : b = 1
            · subst hb4
              have HU : Hid (bits BinOp.or IntKind.u64 y 9223372036854775808 = y + 9223372036854775808) := or_add (k := 9) (m := 1) y0 (by have := HY.out; have := acc_lt s a 9; omega) (by decide) y1 (by decide)
              have hu := HU.out
              have HZ : Hid (y + 9223372036854775808 = (acc s a (9 + 1) : Int)) := by
                have e1 : byteAt s (a + 9) = 1 := by have := HB.out; omega
                have e2 : acc s a (9 + 1) = acc s a 9 + 9223372036854775808 := by
                  rw [show acc s a (9 + 1) = acc s a 9 + byteAt s (a + 9) % 128 * 128 ^ 9 from rfl, e1]
                have := HY.out
                show _ = _
                rw [e2]; omega
              have HE2 : Hid (go s a 0 10 = (unf (y + 9223372036854775808), (a : Int) + (9 : Nat) + 1, 0)) := by
                show _ = _
                rw [HG.out, go_last (by omega) (by have := HB.out; omega) (by have := HB.out; omega) (by have := HB.out; omega), ← HZ.out]
                simp
              go_wp2
              go_step3
              exact (show J s a a u 2 _ _ ∧ M 2 _ _ < M 1 _ _ from ⟨⟨rfl, 9, y + 9223372036854775808, 1, _, _, _, _, _, _, _, _, _, _, _, _, _, _, _, _, _, _, _, _, _, _, _, _, _, _, _, _, _, _, _, _, _, _, _, _, _, _, _, _, _, _, _, _, _, _, _, _, _, _, rfl, by omega, by omega, by omega, by omega, by omega, by omega, fun h => by omega, fun _ => HE2.out⟩, by show 1 < 2 + _; omega⟩)
            · have hb5 : 1 < b ∨ b = 0 := by omega
              go_wp2
              go_step3
              refine (show J s a a u 2 _ _ ∧ M 2 _ _ < M 1 _ _ from ⟨⟨rfl, 9, _, b, _, _, _, _, _, _, _, _, _, _, _, _, _, _, _, _, _, _, _, _, _, _, _, _, _, _, _, _, _, _, _, _, _, _, _, _, _, _, _, _, _, _, _, _, _, _, _, _, _, _, rfl, by omega, (bits_u64 _ _ _).1, (bits_u64 _ _ _).2, hb0, hb3, by omega, fun _ => HE1.out hb5, fun h => by omega⟩, by show 1 < 2 + _; omega⟩)
          · have HE : Hid (go s a 0 10 = (0, 0, 3)) := by
              show _ = _
              rw [HG.out, go_bad9 (by omega) (by have := HB.out; omega)]
            go_wp2
            go_step3
            exact (show J s a a u 0 _ _ ∧ M 0 _ _ < M 1 _ _ from ⟨⟨rfl, 3, _, _, _, _, _, _, _, _, _, _, _, _, _, _, _, _, _, _, _, _, _, _, _, _, _, _, _, _, _, _, _, _, _, _, _, _, _, _, _, _, _, _, _, _, _, _, _, _, _, _, _, _, _, rfl, HE.out, by omega⟩, by show 0 < 2 + _; omega⟩)
        · have hk8 : k < 9 := by omega
          obtain ⟨z, hsh, z0, z1, hacc⟩ := step_low (s := s) (a := a) hk8 HB.out
          have HZ : Hid (y + z = (acc s a (k + 1) : Int)) := by show _ = _; rw [HY.out]; exact hacc
          have ho : bits BinOp.or IntKind.u64 y z = y + z := or_add (k := k) (m := byteAt s (a + k) % 128) y0 (by have := HY.out; have := acc_lt s a k; omega) (by
            have e : (acc s a (k + 1) : Int) = (acc s a k : Int) + ((byteAt s (a + k) % 128 * 128 ^ k : Nat) : Int) := by rw [show acc s a (k + 1) = acc s a k + byteAt s (a + k) % 128 * 128 ^ k from rfl, Int.natCast_add]
            rw [e] at hacc; omega) y1 (by omega)
          clear hacc
          by_cases hb3 : b < 128
          · have HE1 : Hid ((k = 9 ∧ 1 < b) ∨ (0 < k ∧ b = 0) → go s a 0 10 = (0, 0, 3)) := fun h => by
              rw [HG.out, go_zero (by omega) (by have := HB.out; omega) (by omega)]
            have HE2 : Hid (¬ ((k = 9 ∧ 1 < b) ∨ (0 < k ∧ b = 0)) → go s a 0 10 = (unf (y + z), (a : Int) + (k : Nat) + 1, 0)) := fun h => by
              rw [HG.out, go_last (by omega) (by omega) (by have := HB.out; omega) (by have := HB.out; omega), ← HZ.out]
              simp
            go_wp2
            go_step3
            exact (show J s a a u 2 _ _ ∧ M 2 _ _ < M 1 _ _ from ⟨⟨rfl, k, y + z, b, _, _, _, _, _, _, _, _, _, _, _, _, _, _, _, _, _, _, _, _, _, _, _, _, _, _, _, _, _, _, _, _, _, _, _, _, _, _, _, _, _, _, _, _, _, _, _, _, _, _, rfl, by omega, by omega, by omega, hb0, hb3, by omega, HE1.out, HE2.out⟩, by show 1 < 2 + _; omega⟩)
          · have HE : Hid (go s a 0 10 = go s a (k + 1) ((9 - (k + 1)) + 1)) := by
              show _ = _
              rw [HG.out, go_more (by omega) hk8 (by have := HB.out; omega)]
              congr 1; omega
            have HU : Hid (acc s a (k + 1) < 9223372036854775808) := acc_u63 (by omega)
            go_wp2
            go_step3
            exact (show J s a a u 1 _ _ ∧ M 1 _ _ < M 1 _ _ from ⟨⟨rfl, k + 1, y + z, _, _, _, _, _, _, _, _, _, _, _, _, _, _, _, _, _, _, _, _, _, _, _, _, _, _, _, _, _, _, _, _, _, _, _, _, _, _, _, _, _, _, _, _, _, _, _, _, _, _, _, by rw [Int.natCast_add]; rfl, by omega, HZ.out, HE.out, by omega, by have := HZ.out; have := HU.out; omega⟩, by simp [M, intOf]; omega⟩)
    | 2, hJ =>
      obtain ⟨rfl, k, y, b, u11, u12, u13, u14, u15, u16, u17, u18, u19, u20, u21, u22, u23, u24, u25, u26, u27, u28, u29, u30, u31, u32, u33, u34, u35, u36, u37, u38, u39, u40, u41, u42, u43, u44, u45, u46, u47, u48, u49, u50, u51, u52, u53, u54, u55, u56, u57, u58, u59, u60, rfl, hk9, y0, y1, b0, b1, hik, HB, HO⟩ := hJ
      refine ⟨_, rfl, ?_⟩
      by_cases hbad : (k = 9 ∧ 1 < b) ∨ (0 < k ∧ b = 0)
      · have HE : Hid (go s a 0 10 = (0, 0, 3)) := HB.out hbad
        clear HB HO
        rcases hbad with ⟨hk, hb⟩ | ⟨hk, hb⟩
        · subst hk
          go_wp2
          go_step3
          exact (show J s i0 a u 0 _ _ ∧ M 0 _ _ < M 2 _ _ from ⟨⟨rfl, 3, _, _, _, _, _, _, _, _, _, _, _, _, _, _, _, _, _, _, _, _, _, _, _, _, _, _, _, _, _, _, _, _, _, _, _, _, _, _, _, _, _, _, _, _, _, _, _, _, _, _, _, _, _, rfl, HE.out, by omega⟩, by show 0 < 1; omega⟩)
        · subst hb
          by_cases hk2 : k = 9
          · subst hk2
            go_wp2
            go_step3
            exact (show J s i0 a u 0 _ _ ∧ M 0 _ _ < M 2 _ _ from ⟨⟨rfl, 3, _, _, _, _, _, _, _, _, _, _, _, _, _, _, _, _, _, _, _, _, _, _, _, _, _, _, _, _, _, _, _, _, _, _, _, _, _, _, _, _, _, _, _, _, _, _, _, _, _, _, _, _, _, rfl, HE.out, by omega⟩, by show 0 < 1; omega⟩)
          · go_wp2
            go_step3
            exact (show J s i0 a u 0 _ _ ∧ M 0 _ _ < M 2 _ _ from ⟨⟨rfl, 3, _, _, _, _, _, _, _, _, _, _, _, _, _, _, _, _, _, _, _, _, _, _, _, _, _, _, _, _, _, _, _, _, _, _, _, _, _, _, _, _, _, _, _, _, _, _, _, _, _, _, _, _, _, rfl, HE.out, by omega⟩, by show 0 < 1; omega⟩)
      · have HE : Hid (go s a 0 10 = (unf y, i0 + k + 1, 0)) := HO.out hbad
        clear HB HO
        by_cases hk2 : k = 9
        · subst hk2
          obtain rfl : b = 1 := by omega
          go_wp2_with (go_at_call 86; refine (unfolded_any _ _ y0 y1).mono ?_; rintro e w' ⟨rfl, rfl⟩)
          rw [jumps_ret]
          go_ret3
          exact ⟨by rw [HE.out]; rfl, rfl⟩
        · by_cases hk0 : k = 0
          · subst hk0
            have HE' : Hid (go s a 0 10 = (unf y, i0 + 1, 0)) := by show _ = _; have := HE.out; simpa using this
            go_wp2_with (go_at_call 86; refine (unfolded_any _ _ y0 y1).mono ?_; rintro e w' ⟨rfl, rfl⟩)
            rw [jumps_ret]
            go_ret3
            exact ⟨by rw [HE'.out]; rfl, rfl⟩
          · have hbz : (b == 0) = false := by simp; omega
            go_wp2_with (go_at_call 86; refine (unfolded_any _ _ y0 y1).mono ?_; rintro e w' ⟨rfl, rfl⟩)
            rw [jumps_ret]
            go_ret3
            exact ⟨by rw [HE.out]; rfl, rfl⟩

/-- where the place is below 0 -/
def J0 (s : ByteArray) (i0 : Int) (W : World) : Nat → Act → World → Prop
  | 0, x, w => w = W ∧ ∃ (u7 u8 u10 u11 u12 u13 u14 u15 u16 u17 u18 u19 u20 u21 u22 u23 u24 u25 u26 u27 u28 u29 u30 u31 u32 u33 u34 u35 u36 u37 u38 u39 u40 u41 u42 u43 u44 u45 u46 u47 u48 u49 u50 u51 u52 u53 u54 u55 u56 u57 u58 u59 u60 : Value), x = { tmps := #[.string s, .int .i64 i0, undef, undef, .int .i64 0, .int .i64 0, .nilIface, u7, u8, .int .i64 1, u10, u11, u12, u13, u14, u15, u16, u17, u18, u19, u20, u21, u22, u23, u24, u25, u26, u27, u28, u29, u30, u31, u32, u33, u34, u35, u36, u37, u38, u39, u40, u41, u42, u43, u44, u45, u46, u47, u48, u49, u50, u51, u52, u53, u54, u55, u56, u57, u58, u59, u60], defers := [] }
  | _, _, _ => False
set_option maxHeartbeats 400000 in
theorem readNum_neg (s : ByteArray) (i0 : Int) (w : World) (h : i0 < 0) :
    Calls Tryd.prog 81 #[.string s, .int .i64 i0] w fun e w' => e = .returned (tupV (0, 0, 1)) ∧ w' = w := by
  go_enter Tryd.func81, Tryd.ntmps81
  go_wp2
  refine wp_scope_labels (J0 s i0 w) (fun _ _ _ => 0) ?_ ?_
  · go_wp2
    go_step3
    exact (show J0 s i0 w 0 _ _ from ⟨rfl, _, _, _, _, _, _, _, _, _, _, _, _, _, _, _, _, _, _, _, _, _, _, _, _, _, _, _, _, _, _, _, _, _, _, _, _, _, _, _, _, _, _, _, _, _, _, _, _, _, _, _, _, _, rfl⟩)
  · intro l x u hJ
    match l, hJ with
    | 0, hJ =>
      obtain ⟨rfl, u7, u8, u10, u11, u12, u13, u14, u15, u16, u17, u18, u19, u20, u21, u22, u23, u24, u25, u26, u27, u28, u29, u30, u31, u32, u33, u34, u35, u36, u37, u38, u39, u40, u41, u42, u43, u44, u45, u46, u47, u48, u49, u50, u51, u52, u53, u54, u55, u56, u57, u58, u59, u60, rfl⟩ := hJ
      refine ⟨_, rfl, ?_⟩
      go_wp2
      rw [jumps_ret]
      go_ret3
      exact ⟨rfl, rfl⟩

theorem readNum_any (s : ByteArray) (i : Int) (w : World) (hs : s.size ≤ 8000) (w0 : (Lit.int .i64 i).wf = true) :
    Calls Tryd.prog 81 #[.string s, .int .i64 i] w fun e w' => e = .returned (.tuple #[.int .i64 (getV s i).1, .int .i64 (getV s i).2.1, errV (getV s i).2.2]) ∧ w' = w := by
  obtain ⟨i1, i2⟩ := i64_of i w0
  by_cases h2 : i < 0
  · rw [getV_neg h2]
    exact readNum_neg s i w h2
  · have e : i = (i.toNat : Int) := by omega
    have e2 : getV s i = go s i.toNat 0 10 := by rw [e]; exact getV_pos
    rw [e2]
    exact readNum_pos s i i.toNat w hs e (by omega) i2

end Go.Proofs.YtcfekhahibklfaaDoor.gi
