/-
  Plain mathematics of numbers in bytes. No condition.
-/
import Derived.Test.YtikkohecanmefabRows
import Derived.WalkKit
import Derived.ProofKit
import Derived.OpenShut
import Derived.ShutString
import Derived.WalkLawsBesides
import Derived.Laws.BytesArg
import Derived.Laws.BitsAllLaws
import Derived.WalkSpells
namespace Go.Proofs.Ytikkohecanmefab.pn
open Go.ChangeShapes Go.WideShapes Go.ChangeAt Go.RowKit
set_option linter.unusedVariables false

theorem ret_int {k : IntKind} {a b : Int} (h : a = b) : Ending.returned (.int k a) = .returned (.int k b) := by rw [h]
theorem ret_str {a b : ByteArray} (h : a = b) : Ending.returned (.string a) = .returned (.string b) := by rw [h]

/-- twice the number, or twice what is behind it and one more: from 0 to 2^64-1 -/
def fold (n : Int) : Int := if n < 0 then 2 * -(n + 1) + 1 else 2 * n
theorem fold_neg {n : Int} (h : n < 0) : fold n = 2 * -(n + 1) + 1 := if_pos h
theorem fold_pos {n : Int} (h : ¬ n < 0) : fold n = 2 * n := if_neg h
def i64P (n : Int) : Prop := -9223372036854775808 ≤ n ∧ n ≤ 9223372036854775807
theorem fold_u64 {n : Int} (h : i64P n) : 0 ≤ fold n ∧ fold n ≤ 18446744073709551615 := by
  obtain ⟨h0, h1⟩ := h
  unfold fold; split <;> omega
theorem not_u64 (x : Int) (h0 : 0 ≤ x) (h1 : x ≤ 18446744073709551615) : bits BinOp.xor IntKind.u64 IntKind.u64.max x = 18446744073709551615 - x := by
  have e : IntKind.u64.max = 18446744073709551615 := by decide
  rw [e, u64_xor 18446744073709551615 x (by decide) (by decide) h0 (by omega)]
  have hx : x.toNat < 2 ^ 64 := by omega
  have h : (2 ^ 64 - 1) ^^^ x.toNat = 2 ^ 64 - 1 - x.toNat := by
    apply Nat.eq_of_testBit_eq
    intro i
    rw [Nat.testBit_xor, Nat.testBit_two_pow_sub_one, Nat.sub_sub, Nat.add_comm, Nat.testBit_two_pow_sub_succ hx]
    by_cases hi : i < 64
    · simp [hi]
    · have : x.toNat.testBit i = false := Nat.testBit_lt_two_pow (Nat.lt_of_lt_of_le hx (Nat.pow_le_pow_right (by omega) (by omega)))
      simp [hi, this]
  have h' : (18446744073709551615 : Int).toNat ^^^ x.toNat = 18446744073709551615 - x.toNat := h
  rw [h']
  omega

/-- the bytes of a number from 0 on, the lowest first, as numbers, at most so many and one -/
def digsF : Nat → Nat → List Int
  | 0, u => [(u : Int)]
  | n + 1, u => if u < 128 then [(u : Int)] else ((u % 128 + 128 : Nat) : Int) :: digsF n (u / 128)
theorem digsF_any : ∀ (n m u : Nat), u ≤ n → u ≤ m → digsF n u = digsF m u
  | 0, 0, _, _, _ => rfl
  | 0, m + 1, u, h, _ => by
    show [(u : Int)] = if u < 128 then [(u : Int)] else _
    rw [if_pos (by omega)]
  | n + 1, 0, u, _, h => by
    show (if u < 128 then [(u : Int)] else _) = [(u : Int)]
    rw [if_pos (by omega)]
  | n + 1, m + 1, u, h1, h2 => by
    show (if u < 128 then [(u : Int)] else ((u % 128 + 128 : Nat) : Int) :: digsF n (u / 128)) = if u < 128 then [(u : Int)] else ((u % 128 + 128 : Nat) : Int) :: digsF m (u / 128)
    by_cases h : u < 128
    · rw [if_pos h, if_pos h]
    · rw [if_neg h, if_neg h, digsF_any n m (u / 128) (by omega) (by omega)]
/-- the bytes of a number from 0 on, the lowest first, as numbers -/
def digs (u : Nat) : List Int := digsF u u
theorem digs_last {u : Nat} (h : u < 128) : digs u = [(u : Int)] := by
  unfold digs
  rw [digsF_any u (u + 1) u (Nat.le_refl _) (Nat.le_succ _)]
  show (if u < 128 then [(u : Int)] else _) = [(u : Int)]
  rw [if_pos h]
theorem digs_more {u : Nat} (h : ¬ u < 128) : digs u = ((u % 128 + 128 : Nat) : Int) :: digs (u / 128) := by
  unfold digs
  rw [digsF_any u (u + 1) u (Nat.le_refl _) (Nat.le_succ _)]
  show (if u < 128 then [(u : Int)] else ((u % 128 + 128 : Nat) : Int) :: digsF u (u / 128)) = _
  rw [if_neg h, digsF_any u (u / 128) (u / 128) (Nat.div_le_self _ _) (Nat.le_refl _)]
/-- the text of a number -/
def numB (n : Int) : ByteArray := strOfNums (digs (fold n).toNat)

theorem len_bound {u l : Nat} (h : u * 128 ^ l < 18446744073709551616) (hu : 128 ≤ u) : l ≤ 8 ∧ u / 128 * 128 ^ (l + 1) < 18446744073709551616 := by
  constructor
  · rcases Nat.lt_or_ge 8 l with hl | hl
    · exfalso
      have h1 : 128 ^ 9 ≤ 128 ^ l := Nat.pow_le_pow_right (by omega) (by omega)
      have h2 : 128 * 128 ^ 9 ≤ u * 128 ^ l := Nat.mul_le_mul hu h1
      have h3 : 128 * 128 ^ 9 = 1180591620717411303424 := by decide
      omega
    · exact hl
  · have h1 : u / 128 * 128 ≤ u := Nat.div_mul_le_self u 128
    have h2 : u / 128 * 128 ^ (l + 1) = (u / 128 * 128) * 128 ^ l := by rw [Nat.pow_succ, Nat.mul_comm (128 ^ l) 128, Nat.mul_assoc]
    have h3 : (u / 128 * 128) * 128 ^ l ≤ u * 128 ^ l := Nat.mul_le_mul_right _ h1
    omega

theorem info5 : (Try.prog.info? 5).map (fun i => (i.zero, i.size, i.bytes)) = some (some (.int .u8 0), 1, 1) := by kernel_rfl

theorem conv_owned {w : World} {base : Nat} {v : Value} {n : Nat} {xs : List Int} (h : w.ownsRow base 5 1 v n (xs.map (Value.int .u8))) :
    (convert 95 9 v).run Try.prog w = .ok (.string (strOfNums xs)) w := by
  obtain ⟨hl, ⟨rfl, rfl⟩ | ⟨g, cap, cur, rfl, hg, hh, h1, h2, h3, h4⟩⟩ := h
  · have : xs = [] := by
      apply List.eq_nil_of_length_eq_zero
      simpa using hl
    subst this
    exact run_convert_bytes_nil (P := Try.prog) w 95 5 Try.underlying95 Try.underlying5 0 0 9 Try.underlying9
  · have hlen : xs.length = n := by simpa using hl
    refine run_convert_bytes_arg (P := Try.prog) w 95 5 Try.underlying95 Try.underlying5 g 0 n cap xs hlen (fun i hi => ?_) 9 Try.underlying9
    have hc : (cur.toList.take (n * 1))[i]? = some (Value.int .u8 (xs.getD i 0)) := by
      rw [h4, List.getElem?_map, List.getElem?_eq_getElem (by omega)]
      simp [List.getD, List.getElem?_eq_getElem (show i < xs.length by omega)]
    rw [List.getElem?_take_of_lt (by omega)] at hc
    simp [World.cell?, hh]
    simpa using hc

theorem le_of_bound {u l : Nat} (h : u * 128 ^ l < 18446744073709551616) : u ≤ 18446744073709551615 := by
  have : u * 1 ≤ u * 128 ^ l := Nat.mul_le_mul_left _ (Nat.one_le_pow l 128 (by omega))
  omega
theorem digs_step {U u : Nat} {xs : List Int} (h : digs U = xs ++ digs u) (hu : ¬ u < 128) : digs U = (xs ++ [((u % 128 + 128 : Nat) : Int)]) ++ digs (u / 128) := by
  rw [h, digs_more hu]; simp
theorem digs_end {U u : Nat} {xs : List Int} (h : digs U = xs ++ digs u) (hu : u < 128) : digs U = xs ++ [(u : Int)] := by
  rw [h, digs_last hu]

theorem own_base {w : World} {base : Nat} {e : TypeId} {size : Nat} {v : Value} {n : Nat} {xs : List Value} (h : w.ownsRow base e size v n xs) : Hid (∀ k, v.ownBlock = some k → base ≤ k) := by
  show ∀ k, v.ownBlock = some k → base ≤ k
  obtain ⟨_, ⟨rfl, _⟩ | ⟨g, cap, cur, rfl, hg, _⟩⟩ := h
  · intro k hk; simp [Value.ownBlock] at hk
  · intro k hk; simp [Value.ownBlock] at hk; omega

/-- the row of what has been written so far -/
def Gone (U : Nat) (B : Nat) (w : World) (x v : Value) (wr : World) : Prop :=
  ∃ (u : Nat) (y : Int) (xs : List Int), x = .int .u64 y ∧ xs.length ≤ 9 ∧ Hid (y = (u : Int)) ∧ Hid (u * 128 ^ xs.length < 18446744073709551616) ∧ Hid (digs U = xs ++ digs u) ∧ wr.ownsRow B 5 1 v xs.length (xs.map (Value.int .u8)) ∧ Below B w wr

theorem and127 {y : Int} (h0 : 0 ≤ y) (h1 : y ≤ 18446744073709551615) : bits BinOp.and IntKind.u64 y 127 = y % 128 := by
  rw [u64_and y 127 h0 (by omega) (by decide) (by decide)]
  have h : y.toNat &&& (2 ^ 7 - 1) = y.toNat % 2 ^ 7 := Nat.and_two_pow_sub_one_eq_mod _ _
  have h' : y.toNat &&& (127 : Int).toNat = y.toNat % 128 := h
  rw [h']
  omega
theorem or128 {z : Int} (h0 : 0 ≤ z) (h1 : z < 128) : bits BinOp.or IntKind.u8 z 128 = z + 128 := by
  rw [u8_or z 128 h0 (by omega) (by decide) (by decide)]
  have h : 2 ^ 7 * 1 + z.toNat = 2 ^ 7 * 1 ||| z.toNat := Nat.two_pow_add_eq_or_of_lt (by omega) 1
  have h' : z.toNat ||| (128 : Int).toNat = 128 + z.toNat := by rw [Nat.or_comm]; exact h.symm
  rw [h']
  omega

end Go.Proofs.Ytikkohecanmefab.pn
