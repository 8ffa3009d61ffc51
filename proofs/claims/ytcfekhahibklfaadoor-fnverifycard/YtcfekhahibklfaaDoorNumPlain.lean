/-
  Plain mathematics of how a number is read from its bytes, and a law on a scope of several labels: no condition.
-/
import Derived.Test.YtcfekhahibklfaaDoorRows
import Derived.WalkKit
import Derived.ProofKit
import Derived.OpenShut
import Derived.ShutString
import Derived.WalkLawsBesides
import Derived.Laws.BitsAllLaws
import Derived.WalkMore
import Derived.ScopeJumps
import Derived.WalkSpells
namespace Go.Proofs.YtcfekhahibklfaaDoor.np
open Go.ChangeShapes Go.WideShapes Go.ChangeAt Go.RowKit
set_option linter.unusedVariables false

/-- As Q; by a goto to a label: what must hold there. -/
def jumps (J : Nat → Act → World → Prop) (Q : Exit → Act → World → Prop) : Exit → Act → World → Prop
  | .goto l, a, w => J l a w
  | e, a, w => Q e a w
theorem jumps_goto (J : Nat → Act → World → Prop) (Q : Exit → Act → World → Prop) (l : Nat) : jumps J Q (.goto l) = J l := rfl
theorem jumps_ret (J : Nat → Act → World → Prop) (Q : Exit → Act → World → Prop) : jumps J Q .ret = Q .ret := rfl

/-- A scope in which the run jumps to labels, each with what holds at it; every pass from a label lowers the measure. -/
theorem wp_scope_labels {P : Program} {a : Act} {w : World} {Q : Exit → Act → World → Prop} {c : Code} (J : Nat → Act → World → Prop) (μ : Nat → Act → World → Nat)
    (first : c.wp P (jumps J Q) a w)
    (pass : ∀ l a w, J l a w → ∃ rest, findLabel c l = some rest ∧ rest.wp P (jumps (fun l' a' w' => J l' a' w' ∧ μ l' a' w' < μ l a w) Q) a w) : (Code.scope c).wp P Q a w := by
  intro b k cs
  have key : ∀ n l a w, μ l a w = n → J l a w → ∃ k', gotoIn l (.inScope c :: k) = some k' ∧ ∃ e a' w', Q e a' w' ∧ Arrives P (lone (b.at a k') cs w) b k cs e a' w' := by
    intro n
    induction n using Nat.strongRecOn with
    | _ n ih =>
      intro l a w hn hJ
      obtain ⟨rest, hf, hp⟩ := pass l a w hJ
      refine ⟨.code rest :: .inScope c :: k, by simp [gotoIn, hf], ?_⟩
      obtain ⟨e, a₁, w₁, hq, harr⟩ := hp b (.inScope c :: k) cs
      cases e with
      | normal => exact ⟨.normal, a₁, w₁, hq, Steps.trans harr (.one step_inScope)⟩
      | exit id => exact ⟨.exit id, a₁, w₁, hq, fun k' hk => harr k' (by simp [exitTo, hk])⟩
      | goto l' =>
        obtain ⟨hJ', hlt⟩ := hq
        obtain ⟨k₂, hg, e₂, a₂, w₂, hq₂, harr₂⟩ := ih _ (by omega) l' a₁ w₁ rfl hJ'
        exact ⟨e₂, a₂, w₂, hq₂, .of_steps (harr _ hg) harr₂⟩
      | ret => exact ⟨_, a₁, w₁, hq, harr⟩
      | panic ch => exact ⟨_, a₁, w₁, hq, harr⟩
      | outgrown => exact ⟨_, a₁, w₁, hq, harr⟩
  obtain ⟨e, a₁, w₁, hq, harr⟩ := first b (.inScope c :: k) cs
  cases e with
  | normal => exact ⟨.normal, a₁, w₁, hq, .head step_scope (Steps.trans harr (.one step_inScope))⟩
  | exit id => exact ⟨.exit id, a₁, w₁, hq, fun k' hk => .head step_scope (harr k' (by simp [exitTo, hk]))⟩
  | goto l' =>
    obtain ⟨k₂, hg, e₂, a₂, w₂, hq₂, harr₂⟩ := key _ l' a₁ w₁ rfl hq
    exact ⟨e₂, a₂, w₂, hq₂, .of_steps (.head step_scope (harr _ hg)) harr₂⟩
  | ret => exact ⟨_, a₁, w₁, hq, .of_steps (.one step_scope) harr⟩
  | panic ch => exact ⟨_, a₁, w₁, hq, .of_steps (.one step_scope) harr⟩
  | outgrown => exact ⟨_, a₁, w₁, hq, .of_steps (.one step_scope) harr⟩

/-- the byte at a place -/
def byteAt (s : ByteArray) (j : Nat) : Nat := if h : j < s.size then s[j].toNat else 0
theorem byteAt_lt (s : ByteArray) (j : Nat) : byteAt s j < 256 := by
  unfold byteAt; split
  · exact UInt8.toNat_lt _
  · omega
theorem byteAt_eq {s : ByteArray} {j : Nat} (h : j < s.size) : s[j].toNat = byteAt s j := by unfold byteAt; rw [dif_pos h]
/-- the value of k bytes from place a on -/
def acc (s : ByteArray) (a : Nat) : Nat → Nat
  | 0 => 0
  | k + 1 => acc s a k + byteAt s (a + k) % 128 * 128 ^ k
theorem acc_lt (s : ByteArray) (a : Nat) : ∀ k, acc s a k < 128 ^ k
  | 0 => by simp [acc]
  | k + 1 => by
    have h := acc_lt s a k
    have hm : byteAt s (a + k) % 128 * 128 ^ k ≤ 127 * 128 ^ k := Nat.mul_le_mul_right _ (by omega)
    have e : 128 ^ (k + 1) = 127 * 128 ^ k + 128 ^ k := by rw [Nat.pow_succ]; omega
    unfold acc; omega
/-- of 0 to 2^64-1 back to the number -/
def unf (u : Int) : Int := if u % 2 = 1 then -(u / 2) - 1 else u / 2
/-- what is read at place a from its k-th byte on: the number, the place behind it, the code -/
def go (s : ByteArray) (a : Nat) : Nat → Nat → Int × Int × Int
  | k, 0 => (0, 0, 3)
  | k, f + 1 =>
    if s.size ≤ a + k then (0, 0, 4)
    else if k = 9 ∧ 1 < byteAt s (a + k) then (0, 0, 3)
    else if byteAt s (a + k) < 128 then
      if byteAt s (a + k) = 0 ∧ 0 < k then (0, 0, 3) else (unf (acc s a (k + 1) : Int), ((a + k + 1 : Nat) : Int), 0)
    else go s a (k + 1) f
/-- what is read at a place that may be any number -/
def getV (s : ByteArray) (i : Int) : Int × Int × Int := if i < 0 then (0, 0, 1) else go s i.toNat 0 10
theorem getV_neg {s : ByteArray} {i : Int} (h : i < 0) : getV s i = (0, 0, 1) := if_pos h
theorem getV_pos {s : ByteArray} {a : Nat} : getV s (a : Int) = go s a 0 10 := by
  unfold getV; rw [if_neg (by omega)]; rfl
theorem go_end {s : ByteArray} {a k f : Nat} (h : s.size ≤ a + k) : go s a k (f + 1) = (0, 0, 4) := by
  unfold go; rw [if_pos h]
theorem go_bad9 {s : ByteArray} {a f : Nat} (h : ¬ s.size ≤ a + 9) (hb : 1 < byteAt s (a + 9)) : go s a 9 (f + 1) = (0, 0, 3) := by
  unfold go; rw [if_neg h, if_pos ⟨rfl, hb⟩]
theorem go_zero {s : ByteArray} {a k f : Nat} (h : ¬ s.size ≤ a + k) (hb : byteAt s (a + k) = 0) (hk : 0 < k) : go s a k (f + 1) = (0, 0, 3) := by
  unfold go; rw [if_neg h, if_neg (by omega), if_pos (by omega), if_pos ⟨hb, hk⟩]
theorem go_last {s : ByteArray} {a k f : Nat} (h : ¬ s.size ≤ a + k) (h9 : ¬ (k = 9 ∧ 1 < byteAt s (a + k))) (hb : byteAt s (a + k) < 128) (h0 : ¬ (byteAt s (a + k) = 0 ∧ 0 < k)) :
    go s a k (f + 1) = (unf (acc s a (k + 1) : Int), ((a + k + 1 : Nat) : Int), 0) := by
  unfold go; rw [if_neg h, if_neg h9, if_pos hb, if_neg h0]
theorem go_more {s : ByteArray} {a k f : Nat} (h : ¬ s.size ≤ a + k) (hk : k < 9) (hb : ¬ byteAt s (a + k) < 128) : go s a k (f + 1) = go s a (k + 1) f := by
  conv => lhs; unfold go
  rw [if_neg h, if_neg (by omega), if_neg hb]
/-- what has been reckoned fits in 64 bits -/
theorem acc_u64 {s : ByteArray} {a k : Nat} (hk : k ≤ 9) (h9 : ¬ (k = 9 ∧ 1 < byteAt s (a + k))) : acc s a (k + 1) < 18446744073709551616 := by
  by_cases hk9 : k = 9
  · subst hk9
    have h := acc_lt s a 9
    have hb : byteAt s (a + 9) ≤ 1 := by omega
    have e : (128 : Nat) ^ 9 = 9223372036854775808 := by decide
    have hm : byteAt s (a + 9) % 128 * 128 ^ 9 ≤ 1 * 128 ^ 9 := Nat.mul_le_mul_right _ (by omega)
    show acc s a 9 + byteAt s (a + 9) % 128 * 128 ^ 9 < _
    omega
  · have h := acc_lt s a (k + 1)
    have hp : (128 : Nat) ^ (k + 1) ≤ 128 ^ 9 := Nat.pow_le_pow_right (by omega) (by omega)
    have e : (128 : Nat) ^ 9 = 9223372036854775808 := by decide
    omega
theorem acc_u63 {s : ByteArray} {a k : Nat} (hk : k ≤ 9) : acc s a k < 9223372036854775808 := by
  have h := acc_lt s a k
  have hp : (128 : Nat) ^ k ≤ 128 ^ 9 := Nat.pow_le_pow_right (by omega) (by omega)
  have e : (128 : Nat) ^ 9 = 9223372036854775808 := by decide
  omega
def outN (r : Int × Int × Int) : Value := .agg #[.int .i64 r.1, .int .i64 r.2.1, .int .i64 r.2.2]

theorem two_pow7 (k : Nat) : (2 : Int) ^ (7 * k) = ((128 ^ k : Nat) : Int) := by
  rw [Int.pow_mul]; simp
theorem step_bound {s : ByteArray} {a k : Nat} (hk : k < 9) : byteAt s (a + k) % 128 * 128 ^ k ≤ 9223372036854775807 := by
  have h1 : byteAt s (a + k) % 128 * 128 ^ k ≤ 127 * 128 ^ k := Nat.mul_le_mul_right _ (by omega)
  have h2 : (128 : Nat) ^ k ≤ 128 ^ 8 := Nat.pow_le_pow_right (by omega) (by omega)
  have e : (128 : Nat) ^ 8 = 72057594037927936 := by decide
  omega
/-- what a byte that is not the tenth adds -/
theorem step_low {s : ByteArray} {a k : Nat} {b : Int} (hk : k < 9) (hb : b = (byteAt s (a + k) : Int)) :
    ∃ z : Int, IntKind.u64.wrap (b % 128 * 2 ^ (7 * k)) = z ∧ 0 ≤ z ∧ z ≤ 9223372036854775807 ∧ (acc s a k : Int) + z = (acc s a (k + 1) : Int) := by
  have h := step_bound (s := s) (a := a) hk
  refine ⟨((byteAt s (a + k) % 128 * 128 ^ k : Nat) : Int), ?_, by omega, by omega, by rw [show acc s a (k + 1) = acc s a k + byteAt s (a + k) % 128 * 128 ^ k from rfl, Int.natCast_add]⟩
  have e : b % 128 * 2 ^ (7 * k) = ((byteAt s (a + k) % 128 * 128 ^ k : Nat) : Int) := by
    rw [two_pow7, hb]; simp
  rw [e, IntKind.wrap_u64]
  omega
theorem unf_odd {u : Int} (h : (u % 2 == 1) = true) : unf u = -(u / 2) - 1 := by
  unfold unf; rw [if_pos (by simpa using h)]
theorem unf_even {u : Int} (h : (u % 2 == 1) = false) : unf u = u / 2 := by
  unfold unf; rw [if_neg (by simpa using h)]
theorem outN_ok {n m : Int} : outN (n, m, 0) = .agg #[.int .i64 n, .int .i64 m, .int .i64 0] := rfl

theorem i64_of (i : Int) (w0 : (Lit.int .i64 i).wf = true) : -9223372036854775808 ≤ i ∧ i ≤ 9223372036854775807 := by
  simpa [Lit.wf, IntKind.min, IntKind.max, IntKind.signed, IntKind.bits] using w0

/-- what is read of a text of any size -/
def numV (s : ByteArray) (i : Int) : Int × Int × Int := if 8000 < s.size then (0, 0, 2) else getV s i
theorem numV_long {s : ByteArray} {i : Int} (h : 8000 < s.size) : numV s i = (0, 0, 2) := if_pos h
theorem numV_short {s : ByteArray} {i : Int} (h : ¬ 8000 < s.size) : numV s i = getV s i := if_neg h

end Go.Proofs.YtcfekhahibklfaaDoor.np
