/-
  What the model reads of a number from its bytes, for every text of at most 8000 bytes and every place.
  Plain mathematics of numbers in bytes. No condition.
-/
import Derived.Test.YtcfekhahibklfaaDoorNumPlain
import Derived.Test.YtcfekhahibklfaaDoorRows
import Derived.WalkKit
import Derived.ProofKit
import Derived.OpenShut
import Derived.ShutString
import Derived.WalkLawsBesides
import Derived.Laws.BytesArg
import Derived.Laws.BitsAllLaws
import Derived.WalkSpells
namespace Go.Proofs.YtcfekhahibklfaaDoor.gs
open Go.ChangeShapes Go.WideShapes Go.ChangeAt Go.RowKit
open Go.Proofs.YtcfekhahibklfaaDoor.np
set_option linter.unusedVariables false

set_option maxRecDepth 20000 in
set_option maxHeartbeats 2000000 in
theorem spec_pos (s : ByteArray) (i0 : Int) (a : Nat) (w : World) (hs : s.size ≤ 8000) (HA : Hid (i0 = (a : Int))) (h0 : 0 ≤ i0) (h1 : i0 ≤ 9223372036854775807) :
    Calls Tryd.prog 71 #[.string s, .int .i64 i0] w fun e w' => e = .returned (outN (go s a 0 10)) ∧ Below w.heap.size w w' := by
  have fin : ∀ (r : Int × Int × Int), go s a 0 10 = r → Value.agg #[.int .i64 r.1, .int .i64 r.2.1, .int .i64 r.2.2] = outN (go s a 0 10) := fun r h => by rw [h]; rfl
  have FIN : Hid (∀ (r : Int × Int × Int), go s a 0 10 = r → Value.agg #[.int .i64 r.1, .int .i64 r.2.1, .int .i64 r.2.2] = outN (go s a 0 10)) := fin
  clear fin
  go_enter Tryd.func71, Tryd.ntmps71
  go_wp2
  go_loop [5, 6, 7, 8] (fun u i c n => ∃ (k : Nat) (y : Int), k ≤ 9 ∧ i = .int .i64 k ∧ u = .int .u64 y ∧ Hid (y = (acc s a k : Int)) ∧ Hid (go s a 0 10 = go s a k ((9 - k) + 1)) ∧ 0 ≤ y ∧ y ≤ 9223372036854775807) (fun _ i _ _ => 10 - (intOf i).toNat)
  case atStart => exact ⟨0, 0, by omega, rfl, rfl, rfl, rfl, by omega, by omega⟩
  case round =>
    obtain ⟨k, y, hk9, rfl, rfl, HY, HG, y0, y1⟩ := hrel
    by_cases hend : (s.size : Int) ≤ i0 + k
    · have HE : Hid (go s a 0 10 = (0, 0, 4)) := by
        show _ = _
        rw [HG.out, go_end (by have := HA.out; omega)]
      go_wp2
      exact bodyPost_ret (v := .agg #[.int .i64 0, .int .i64 0, .int .i64 4]) (by simp [results, Tryd.results71, go_sem]) rfl ⟨by rw [HE.out]; rfl, (Below.refl _ _).alloc (Nat.le_refl _) _⟩
    · have ha8 : a + k < s.size := by have := HA.out; omega
      obtain rfl : i0 = (a : Int) := HA.out
      clear h1 h0 hend
      obtain ⟨b, hbe⟩ : ∃ b : Int, (s[a + k].toNat : Int) = b := ⟨_, rfl⟩
      have HB : Hid (b = (byteAt s (a + k) : Int)) := by show _ = _; rw [← hbe, byteAt_eq ha8]
      have hb0 : 0 ≤ b := by rw [HB.out]; omega
      have hb1 : b ≤ 255 := by rw [HB.out]; have := byteAt_lt s (a + k); omega
      by_cases hk : k = 9
      · subst hk
        by_cases hb2 : 1 < b
        · have HE : Hid (go s a 0 10 = (0, 0, 3)) := by
            show _ = _
            rw [HG.out, go_bad9 (by omega) (by have := HB.out; omega)]
          go_wp2
          exact bodyPost_ret (v := .agg #[.int .i64 0, .int .i64 0, .int .i64 3]) (by simp [results, Tryd.results71, go_sem]) rfl ⟨by rw [HE.out]; rfl, (Below.refl _ _).alloc (Nat.le_refl _) _⟩
        · by_cases hb3 : b = 0
          · have HE : Hid (go s a 0 10 = (0, 0, 3)) := by
              show _ = _
              rw [HG.out, go_zero (by omega) (by have := HB.out; omega) (by omega)]
            go_wp2
            all_goals exact bodyPost_ret (v := .agg #[.int .i64 0, .int .i64 0, .int .i64 3]) (by simp [results, Tryd.results71, go_sem]) rfl ⟨by rw [HE.out]; rfl, (Below.refl _ _).alloc (Nat.le_refl _) _⟩
          · have hb4 : b = 1 := by omega
            have HE : Hid (go s a 0 10 = (unf (acc s a (9 + 1) : Int), ((a + 9 + 1 : Nat) : Int), 0)) := by
              show _ = _
              rw [HG.out, go_last (by omega) (by have := HB.out; omega) (by have := HB.out; omega) (by have := HB.out; omega)]
            have HZ : Hid (y + 9223372036854775808 = (acc s a (9 + 1) : Int)) := by
              have e1 : byteAt s (a + 9) = 1 := by have := HB.out; omega
              have e2 : acc s a (9 + 1) = acc s a 9 + 9223372036854775808 := by
                rw [show acc s a (9 + 1) = acc s a 9 + byteAt s (a + 9) % 128 * 128 ^ 9 from rfl, e1]
              have := HY.out
              show _ = _
              rw [e2]; omega
            by_cases hp : ((y + 9223372036854775808) % 2 == 1) = true
            · have HP : Hid (-((y + 9223372036854775808) / 2) - 1 = unf (acc s a (9 + 1) : Int)) := by show _ = _; rw [← HZ.out, unf_odd hp]
              go_wp2
              all_goals exact bodyPost_ret (v := .agg #[.int .i64 (-((y + 9223372036854775808) / 2) - 1), .int .i64 ((a : Int) + 9 + 1), .int .i64 0]) (by simp [results, Tryd.results71, go_sem] <;> omega) rfl ⟨by rw [HE.out, HP.out]; rfl, (Below.refl _ _).alloc (Nat.le_refl _) _⟩
            · have hp2 : ((y + 9223372036854775808) % 2 == 1) = false := by simpa using hp
              have HP : Hid ((y + 9223372036854775808) / 2 = unf (acc s a (9 + 1) : Int)) := by show _ = _; rw [← HZ.out, unf_even hp2]
              clear hp
              go_wp2
              all_goals exact bodyPost_ret (v := .agg #[.int .i64 ((y + 9223372036854775808) / 2), .int .i64 ((a : Int) + 9 + 1), .int .i64 0]) (by simp [results, Tryd.results71, go_sem] <;> omega) rfl ⟨by rw [HE.out, HP.out]; rfl, (Below.refl _ _).alloc (Nat.le_refl _) _⟩
      · have hk8 : k < 9 := by omega
        obtain ⟨z, hsh, z0, z1, hacc⟩ := step_low (s := s) (a := a) hk8 HB.out
        have HZ : Hid (y + z = (acc s a (k + 1) : Int)) := by show _ = _; rw [HY.out]; exact hacc
        clear hacc
        by_cases hb3 : b < 128
        · by_cases hb4 : b = 0 ∧ 0 < k
          · obtain ⟨hb5, hb6⟩ := hb4
            have HE : Hid (go s a 0 10 = (0, 0, 3)) := by
              show _ = _
              rw [HG.out, go_zero (by omega) (by have := HB.out; omega) (by omega)]
            go_wp2
            all_goals exact bodyPost_ret (v := .agg #[.int .i64 0, .int .i64 0, .int .i64 3]) (by simp [results, Tryd.results71, go_sem]) rfl ⟨by rw [HE.out]; rfl, (Below.refl _ _).alloc (Nat.le_refl _) _⟩
          · have HE : Hid (go s a 0 10 = (unf (acc s a (k + 1) : Int), ((a + k + 1 : Nat) : Int), 0)) := by
              show _ = _
              rw [HG.out, go_last (by omega) (by omega) (by have := HB.out; omega) (by have := HB.out; omega)]
            have hb5 : b = 0 → k = 0 := by omega
            by_cases hp : ((y + z) % 2 == 1) = true
            · have HP : Hid (-((y + z) / 2) - 1 = unf (acc s a (k + 1) : Int)) := by show _ = _; rw [← HZ.out, unf_odd hp]
              go_wp2
              all_goals exact bodyPost_ret (v := .agg #[.int .i64 (-((y + z) / 2) - 1), .int .i64 ((a : Int) + k + 1), .int .i64 0]) (by simp [results, Tryd.results71, go_sem] <;> omega) rfl ⟨by rw [HE.out, HP.out]; rfl, (Below.refl _ _).alloc (Nat.le_refl _) _⟩
            · have hp2 : ((y + z) % 2 == 1) = false := by simpa using hp
              have HP : Hid ((y + z) / 2 = unf (acc s a (k + 1) : Int)) := by show _ = _; rw [← HZ.out, unf_even hp2]
              clear hp
              go_wp2
              all_goals exact bodyPost_ret (v := .agg #[.int .i64 ((y + z) / 2), .int .i64 ((a : Int) + k + 1), .int .i64 0]) (by simp [results, Tryd.results71, go_sem] <;> omega) rfl ⟨by rw [HE.out, HP.out]; rfl, (Below.refl _ _).alloc (Nat.le_refl _) _⟩
        · have HE : Hid (go s a 0 10 = go s a (k + 1) ((9 - (k + 1)) + 1)) := by
            show _ = _
            rw [HG.out, go_more (by omega) hk8 (by have := HB.out; omega)]
            congr 1; omega
          have HU : Hid (acc s a (k + 1) < 9223372036854775808) := acc_u63 (by omega)
          go_wp2
          go_round
          case rel => exact ⟨k + 1, y + z, by omega, by go_num, rfl, HZ.out, HE.out, by omega, by have := HZ.out; have := HU.out; omega⟩
          case measure => simp [intOf]; omega

set_option maxHeartbeats 400000 in
theorem spec_any (s : ByteArray) (i : Int) (w : World) (hs : s.size ≤ maxLen) (w0 : (Lit.int .i64 i).wf = true) :
    Calls Tryd.prog 71 #[.string s, .int .i64 i] w fun e w' => e = .returned (outN (numV s i)) ∧ Below w.heap.size w w' := by
  unfold maxLen at hs
  obtain ⟨i1, i2⟩ := i64_of i w0
  by_cases h1 : 8000 < s.size
  · rw [numV_long h1]
    go_enter Tryd.func71, Tryd.ntmps71
    go_wp2
    exact bodyPost_ret (v := .agg #[.int .i64 0, .int .i64 0, .int .i64 2]) (by simp [results, Tryd.results71, go_sem]) rfl ⟨rfl, (Below.refl _ _).alloc (Nat.le_refl _) _⟩
  · rw [numV_short h1]
    by_cases h2 : i < 0
    · rw [getV_neg h2]
      go_enter Tryd.func71, Tryd.ntmps71
      go_wp2
      exact bodyPost_ret (v := .agg #[.int .i64 0, .int .i64 0, .int .i64 1]) (by simp [results, Tryd.results71, go_sem]) rfl ⟨rfl, (Below.refl _ _).alloc (Nat.le_refl _) _⟩
    · have e : i = (i.toNat : Int) := by omega
      have e2 : getV s i = go s i.toNat 0 10 := by rw [e]; exact getV_pos
      rw [e2]
      exact spec_pos s i i.toNat w (by omega) e (by omega) i2
theorem spec_out (s : ByteArray) (i : Int) (w : World) (hs : s.size ≤ maxLen) (w0 : (Lit.int .i64 i).wf = true) :
    Calls Tryd.prog 71 #[.string s, .int .i64 i] w fun e w' => e = .returned (.agg #[.int .i64 (numV s i).1, .int .i64 (numV s i).2.1, .int .i64 (numV s i).2.2]) ∧ Below w.heap.size w w' := spec_any s i w hs w0
end Go.Proofs.YtcfekhahibklfaaDoor.gs

namespace Go.Proofs.YtcfekhahibklfaaDoor.pn
open Go.ChangeShapes Go.WideShapes Go.ChangeAt Go.RowKit
set_option linter.unusedVariables false

theorem ret_int {k : IntKind} {a b : Int} (h : a = b) : Ending.returned (.int k a) = .returned (.int k b) := by rw [h]
theorem ret_str {a b : ByteArray} (h : a = b) : Ending.returned (.string a) = .returned (.string b) := by rw [h]

/-- twice the number, or twice what is behind it and one more: from 0 to 2^64-1 -/
def fold (n : Int) : Int := if n < 0 then 2 * -(n + 1) + 1 else 2 * n
theorem fold_neg {n : Int} (h : n < 0) : fold n = 2 * -(n + 1) + 1 := if_pos h
theorem fold_pos {n : Int} (h : ¬ n < 0) : fold n = 2 * n := if_neg h
def i64P (n : Int) : Prop := -9223372036854775808 ≤ n ∧ n ≤ 9223372036854775807
theorem fold_u64 {n : Int} (h : i64P n) : 0 ≤ fold n ∧ fold n ≤ 18446744073709551615 := by
  obtain ⟨h0, h1⟩ := h
  unfold fold; split <;> omega
theorem not_u64 (x : Int) (h0 : 0 ≤ x) (h1 : x ≤ 18446744073709551615) : bits BinOp.xor IntKind.u64 IntKind.u64.max x = 18446744073709551615 - x := by
  have e : IntKind.u64.max = 18446744073709551615 := by decide
  rw [e, u64_xor 18446744073709551615 x (by decide) (by decide) h0 (by omega)]
  have hx : x.toNat < 2 ^ 64 := by omega
  have h : (2 ^ 64 - 1) ^^^ x.toNat = 2 ^ 64 - 1 - x.toNat := by
    apply Nat.eq_of_testBit_eq
    intro i
    rw [Nat.testBit_xor, Nat.testBit_two_pow_sub_one, Nat.sub_sub, Nat.add_comm, Nat.testBit_two_pow_sub_succ hx]
    by_cases hi : i < 64
    · simp [hi]
    · have : x.toNat.testBit i = false := Nat.testBit_lt_two_pow (Nat.lt_of_lt_of_le hx (Nat.pow_le_pow_right (by omega) (by omega)))
      simp [hi, this]
  have h' : (18446744073709551615 : Int).toNat ^^^ x.toNat = 18446744073709551615 - x.toNat := h
  rw [h']
  omega

/-- the bytes of a number from 0 on, the lowest first, as numbers, at most so many and one -/
def digsF : Nat → Nat → List Int
  | 0, u => [(u : Int)]
  | n + 1, u => if u < 128 then [(u : Int)] else ((u % 128 + 128 : Nat) : Int) :: digsF n (u / 128)
theorem digsF_any : ∀ (n m u : Nat), u ≤ n → u ≤ m → digsF n u = digsF m u
  | 0, 0, _, _, _ => rfl
  | 0, m + 1, u, h, _ => by
    show [(u : Int)] = if u < 128 then [(u : Int)] else _
    rw [if_pos (by omega)]
  | n + 1, 0, u, _, h => by
    show (if u < 128 then [(u : Int)] else _) = [(u : Int)]
    rw [if_pos (by omega)]
  | n + 1, m + 1, u, h1, h2 => by
    show (if u < 128 then [(u : Int)] else ((u % 128 + 128 : Nat) : Int) :: digsF n (u / 128)) = if u < 128 then [(u : Int)] else ((u % 128 + 128 : Nat) : Int) :: digsF m (u / 128)
    by_cases h : u < 128
    · rw [if_pos h, if_pos h]
    · rw [if_neg h, if_neg h, digsF_any n m (u / 128) (by omega) (by omega)]
/-- the bytes of a number from 0 on, the lowest first, as numbers -/
def digs (u : Nat) : List Int := digsF u u
theorem digs_last {u : Nat} (h : u < 128) : digs u = [(u : Int)] := by
  unfold digs
  rw [digsF_any u (u + 1) u (Nat.le_refl _) (Nat.le_succ _)]
  show (if u < 128 then [(u : Int)] else _) = [(u : Int)]
  rw [if_pos h]
theorem digs_more {u : Nat} (h : ¬ u < 128) : digs u = ((u % 128 + 128 : Nat) : Int) :: digs (u / 128) := by
  unfold digs
  rw [digsF_any u (u + 1) u (Nat.le_refl _) (Nat.le_succ _)]
  show (if u < 128 then [(u : Int)] else ((u % 128 + 128 : Nat) : Int) :: digsF u (u / 128)) = _
  rw [if_neg h, digsF_any u (u / 128) (u / 128) (Nat.div_le_self _ _) (Nat.le_refl _)]
/-- the text of a number -/
def numB (n : Int) : ByteArray := strOfNums (digs (fold n).toNat)

theorem len_bound {u l : Nat} (h : u * 128 ^ l < 18446744073709551616) (hu : 128 ≤ u) : l ≤ 8 ∧ u / 128 * 128 ^ (l + 1) < 18446744073709551616 := by
  constructor
  · rcases Nat.lt_or_ge 8 l with hl | hl
    · exfalso
      have h1 : 128 ^ 9 ≤ 128 ^ l := Nat.pow_le_pow_right (by omega) (by omega)
      have h2 : 128 * 128 ^ 9 ≤ u * 128 ^ l := Nat.mul_le_mul hu h1
      have h3 : 128 * 128 ^ 9 = 1180591620717411303424 := by decide
      omega
    · exact hl
  · have h1 : u / 128 * 128 ≤ u := Nat.div_mul_le_self u 128
    have h2 : u / 128 * 128 ^ (l + 1) = (u / 128 * 128) * 128 ^ l := by rw [Nat.pow_succ, Nat.mul_comm (128 ^ l) 128, Nat.mul_assoc]
    have h3 : (u / 128 * 128) * 128 ^ l ≤ u * 128 ^ l := Nat.mul_le_mul_right _ h1
    omega

theorem info5 : (Tryd.prog.info? 5).map (fun i => (i.zero, i.size, i.bytes)) = some (some (.int .u8 0), 1, 1) := by kernel_rfl

theorem conv_owned {w : World} {base : Nat} {v : Value} {n : Nat} {xs : List Int} (h : w.ownsRow base 5 1 v n (xs.map (Value.int .u8))) :
    (convert 22 9 v).run Tryd.prog w = .ok (.string (strOfNums xs)) w := by
  obtain ⟨hl, ⟨rfl, rfl⟩ | ⟨g, cap, cur, rfl, hg, hh, h1, h2, h3, h4⟩⟩ := h
  · have : xs = [] := by
      apply List.eq_nil_of_length_eq_zero
      simpa using hl
    subst this
    exact run_convert_bytes_nil (P := Tryd.prog) w 22 5 Tryd.underlying22 Tryd.underlying5 0 0 9 Tryd.underlying9
  · have hlen : xs.length = n := by simpa using hl
    refine run_convert_bytes_arg (P := Tryd.prog) w 22 5 Tryd.underlying22 Tryd.underlying5 g 0 n cap xs hlen (fun i hi => ?_) 9 Tryd.underlying9
    have hc : (cur.toList.take (n * 1))[i]? = some (Value.int .u8 (xs.getD i 0)) := by
      rw [h4, List.getElem?_map, List.getElem?_eq_getElem (by omega)]
      simp [List.getD, List.getElem?_eq_getElem (show i < xs.length by omega)]
    rw [List.getElem?_take_of_lt (by omega)] at hc
    simp [World.cell?, hh]
    simpa using hc

theorem le_of_bound {u l : Nat} (h : u * 128 ^ l < 18446744073709551616) : u ≤ 18446744073709551615 := by
  have : u * 1 ≤ u * 128 ^ l := Nat.mul_le_mul_left _ (Nat.one_le_pow l 128 (by omega))
  omega
theorem digs_step {U u : Nat} {xs : List Int} (h : digs U = xs ++ digs u) (hu : ¬ u < 128) : digs U = (xs ++ [((u % 128 + 128 : Nat) : Int)]) ++ digs (u / 128) := by
  rw [h, digs_more hu]; simp
theorem digs_end {U u : Nat} {xs : List Int} (h : digs U = xs ++ digs u) (hu : u < 128) : digs U = xs ++ [(u : Int)] := by
  rw [h, digs_last hu]

theorem own_base {w : World} {base : Nat} {e : TypeId} {size : Nat} {v : Value} {n : Nat} {xs : List Value} (h : w.ownsRow base e size v n xs) : Hid (∀ k, v.ownBlock = some k → base ≤ k) := by
  show ∀ k, v.ownBlock = some k → base ≤ k
  obtain ⟨_, ⟨rfl, _⟩ | ⟨g, cap, cur, rfl, hg, _⟩⟩ := h
  · intro k hk; simp [Value.ownBlock] at hk
  · intro k hk; simp [Value.ownBlock] at hk; omega

/-- the row of what has been written so far -/
def Gone (U : Nat) (B : Nat) (w : World) (x v : Value) (wr : World) : Prop :=
  ∃ (u : Nat) (y : Int) (xs : List Int), x = .int .u64 y ∧ xs.length ≤ 9 ∧ Hid (y = (u : Int)) ∧ Hid (u * 128 ^ xs.length < 18446744073709551616) ∧ Hid (digs U = xs ++ digs u) ∧ wr.ownsRow B 5 1 v xs.length (xs.map (Value.int .u8)) ∧ Below B w wr

theorem and127 {y : Int} (h0 : 0 ≤ y) (h1 : y ≤ 18446744073709551615) : bits BinOp.and IntKind.u64 y 127 = y % 128 := by
  rw [u64_and y 127 h0 (by omega) (by decide) (by decide)]
  have h : y.toNat &&& (2 ^ 7 - 1) = y.toNat % 2 ^ 7 := Nat.and_two_pow_sub_one_eq_mod _ _
  have h' : y.toNat &&& (127 : Int).toNat = y.toNat % 128 := h
  rw [h']
  omega
theorem or128 {z : Int} (h0 : 0 ≤ z) (h1 : z < 128) : bits BinOp.or IntKind.u8 z 128 = z + 128 := by
  rw [u8_or z 128 h0 (by omega) (by decide) (by decide)]
  have h : 2 ^ 7 * 1 + z.toNat = 2 ^ 7 * 1 ||| z.toNat := Nat.two_pow_add_eq_or_of_lt (by omega) 1
  have h' : z.toNat ||| (128 : Int).toNat = 128 + z.toNat := by rw [Nat.or_comm]; exact h.symm
  rw [h']
  omega

end Go.Proofs.YtcfekhahibklfaaDoor.pn
