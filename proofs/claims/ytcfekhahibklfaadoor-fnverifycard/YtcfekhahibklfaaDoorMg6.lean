/-
  What is drawn for the law on boxes, first part: a pass of at most 65 bytes; a text that is spoilt a little. No old block turns.
  What is drawn for the law on boxes, second part: a text that is spoilt a little is at most one byte longer. No old block turns.
-/
import Derived.Test.YtcfekhahibklfaaDoorDrawY
import Derived.Deep.RegionWith
import Derived.Deep.RegionHeld3
import Derived.Laws.IdiomStrings
import Derived.Deep.QuietTactic
import Derived.BigQuiet
namespace Go.Proofs.YtcfekhahibklfaaDoor.db
open Go.ChangeShapes Go.WideShapes Go.ChangeAt Go.RowKit
open Go.Proofs.YtcfekhahibklfaaDoor.dr
set_option linter.unusedVariables false

theorem At.alloc {w0 u : World} {a : Option Addr} {len cap : Nat} (h : At w0 a len cap u) (o : Obj) : At w0 a len cap (u.alloc o) := by
  have hb : Below w0.heap.size u (u.alloc o) := (Below.refl _ _).alloc h.2.1.size _
  exact ⟨h.1.kept (Below.heap_alloc _ _ _ h.1.lt), h.2.1.trans hb, h.2.2.below hb⟩
theorem At.drew {w0 u : World} {a : Option Addr} {len cap : Nat} (h : At w0 a len cap u) : At w0 a len cap u.drew := ⟨h.1, h.2.1.drew, h.2.2.below (show Below w0.heap.size u u.drew from (Below.refl _ _).drew)⟩
theorem At.up {w0 u u' : World} {a : Option Addr} {len cap : Nat} (h : At w0 a len cap u) (hb : Below u.heap.size u u') : At w0 a len cap u' :=
  ⟨h.1.kept (hb.block _ h.1.lt), h.2.1.trans (hb.mono h.2.1.size), h.2.2.below (hb.mono h.2.1.size)⟩
theorem At.drewN {w0 u : World} {a : Option Addr} {len cap : Nat} (h : At w0 a len cap u) (k : Nat) : At w0 a len cap (u.drewN k) :=
  At.up h ⟨rfl, rfl, rfl, Nat.le_refl _, fun _ _ => rfl⟩
/-- a number below the most; whatever lies outside the source's block stays -/
theorem n_keep {w0 u : World} {a : Option Addr} {len cap : Nat} (h : At w0 a len cap u) (most : Nat) (m0 : 1 ≤ most) (m1 : most ≤ 1048576) :
    Calls Tryd.prog 40 #[.pointer (some ⟨w0.heap.size, 0, none⟩), .int .i64 (most : Int)] u fun e w' => ∃ k : Nat, e = .returned (.int .i64 (k : Int)) ∧ k < most ∧ At w0 a len cap w' ∧ ∀ (b i : Nat) (v : Value), b ≠ w0.heap.size → u.cell? ⟨b, i, none⟩ = some v → w'.cell? ⟨b, i, none⟩ = some v := by
  refine (n_any _ _ a len cap most _ h.1 h.2.2 (by omega) (by omega)).mono ?_
  rintro e w' ⟨v, rfl, v0, v1, v2, hS, hg⟩
  obtain ⟨k, rfl⟩ : ∃ k : Nat, v = (k : Int) := ⟨v.toNat, by omega⟩
  refine ⟨k, rfl, ?_, h.next hS hg, fun b i v hb hc => hg.cell hc (by simp; omega)⟩
  rcases Nat.lt_or_ge 1 most with h1 | h1
  · have := v1 (by omega); omega
  · have := v2 (by omega); omega

/-- one of two texts -/
theorem two_cell (u : World) (A B : ByteArray) (v : Nat) (hv : v < 2) :
    ∃ t : ByteArray, (u.alloc (.cells #[.string A, .string B] 9)).cell? ⟨u.heap.size, v, none⟩ = some (.string t) ∧ (t = A ∨ t = B) := by
  match v, hv with
  | 0, _ => exact ⟨A, by simp, .inl rfl⟩
  | 1, _ => exact ⟨B, by simp, .inr rfl⟩
theorem n_two {w0 u : World} {a : Option Addr} {len cap : Nat} (h : At w0 a len cap u) (A B : ByteArray) :
    Calls Tryd.prog 40 #[.pointer (some ⟨w0.heap.size, 0, none⟩), .int .i64 2] (u.alloc (.cells #[.string A, .string B] 9)) fun e w' => ∃ (k : Nat) (t : ByteArray), k < 2 ∧ e = .returned (.int .i64 (k : Int)) ∧ w'.cell? ⟨u.heap.size, k, none⟩ = some (.string t) ∧ (t = A ∨ t = B) ∧ At w0 a len cap w' := by
  refine (n_keep (At.alloc h _) 2 (by omega) (by omega)).mono ?_
  rintro e w' ⟨k, rfl, hk, hA, hc⟩
  obtain ⟨t, ht, hor⟩ := two_cell u A B k hk
  have hlt : w0.heap.size < u.heap.size := h.1.lt
  exact ⟨k, t, hk, rfl, hc _ _ _ (by omega) ht, hor, hA⟩
theorem pick_two {w0 u : World} {a : Option Addr} {len cap : Nat} (h : At w0 a len cap u) (A B : ByteArray) :
    Calls Tryd.prog 63 #[.pointer (some ⟨w0.heap.size, 0, none⟩), .slice (some ⟨u.heap.size, 0, none⟩) 2 2] (u.alloc (.cells #[.string A, .string B] 9)) fun e w' => ∃ t : ByteArray, e = .returned (.string t) ∧ (t = A ∨ t = B) ∧ At w0 a len cap w' := by
  go_enter Tryd.func63, Tryd.ntmps63
  go_wp2_with fail
  refine (n_two h A B).mono ?_
  rintro e w2 ⟨k, t, hk, rfl, hc, ht, hA2⟩
  go_wp2_with fail
  go_ret
  exact ⟨_, rfl, ht, hA2⟩

/-- one of three lengths -/
def len3 (k : Nat) : Nat := if k = 0 then 0 else if k = 1 then 64 else 65
theorem len3_cell (u : World) (v : Nat) (hv : v < 3) :
    (u.alloc (.cells #[.int .i64 0, .int .i64 64, .int .i64 65] 3)).cell? ⟨u.heap.size, v, none⟩ = some (.int .i64 (len3 v : Int)) := by
  match v, hv with
  | 0, _ => simp [len3]
  | 1, _ => simp [len3]
  | 2, _ => simp [len3]
theorem len3_le (k : Nat) : len3 k ≤ 65 := by unfold len3; split <;> (try split) <;> omega
theorem n_three {w0 u : World} {a : Option Addr} {len cap : Nat} (h : At w0 a len cap u) :
    Calls Tryd.prog 40 #[.pointer (some ⟨w0.heap.size, 0, none⟩), .int .i64 3] (u.alloc (.cells #[.int .i64 0, .int .i64 64, .int .i64 65] 3)) fun e w' => ∃ (k m : Nat), k < 3 ∧ e = .returned (.int .i64 (k : Int)) ∧ w'.cell? ⟨u.heap.size, k, none⟩ = some (.int .i64 (m : Int)) ∧ m ≤ 65 ∧ At w0 a len cap w' := by
  refine (n_keep (At.alloc h _) 3 (by omega) (by omega)).mono ?_
  rintro e w' ⟨k, rfl, hk, hA, hc⟩
  have hlt : w0.heap.size < u.heap.size := h.1.lt
  exact ⟨k, len3 k, hk, rfl, hc _ _ _ (by omega) (len3_cell u k hk), len3_le k, hA⟩

set_option maxHeartbeats 2000000 in
theorem pass_at {w0 u : World} {a : Option Addr} {len cap : Nat} (h : At w0 a len cap u) :
    Calls Tryd.prog 32 #[.pointer (some ⟨w0.heap.size, 0, none⟩)] u fun e w' => ∃ t : ByteArray, e = .returned (.string t) ∧ t.size ≤ 65 ∧ At w0 a len cap w' := by
  go_enter Tryd.func32, Tryd.ntmps32
  go_wp2_with fail
  refine (one_at h _ (by omega) (by omega)).mono ?_
  rintro e w1 ⟨vb, rfl, hA1⟩
  clear h
  cases vb
  · go_wp2_with fail
    refine (pick_two hA1 _ _).mono ?_
    rintro e w2 ⟨t, rfl, ht, hA2⟩
    go_wp2_with fail
    go_ret
    exact ⟨_, rfl, by rcases ht with rfl | rfl <;> decide, hA2⟩
  · go_wp2_with fail
    refine (n_three hA1).mono ?_
    rintro e w2 ⟨k, m, hk, rfl, hc, hm, hA2⟩
    have hmk := zeros_make m (by omega) w2
    have hcv := zeros_conv m w2
    go_wp2_with fail
    go_ret
    exact ⟨_, rfl, by simp [ByteArray.size]; omega, At.alloc hA2 _⟩
end Go.Proofs.YtcfekhahibklfaaDoor.db

namespace Go.Proofs.YtcfekhahibklfaaDoor.db
open Go.ChangeShapes Go.WideShapes Go.ChangeAt Go.RowKit
open Go.Proofs.YtcfekhahibklfaaDoor.dr
set_option linter.unusedVariables false
set_option linter.unusedSimpArgs false

theorem one_conv (u : World) (b : UInt8) : (convert 22 9 (.slice (some ⟨u.heap.size, 0, none⟩) 1 1)).run Tryd.prog (u.alloc (.cells #[.int .u8 (b.toNat : Int)] 5)) =
    .ok (.string ⟨#[b]⟩) (u.alloc (.cells #[.int .u8 (b.toNat : Int)] 5)) := by
  have h := run_convert_bytes_back (P := Tryd.prog) (u.alloc (.cells #[.int .u8 (b.toNat : Int)] 5)) 22 9 5 ⟨u.heap.size, 0, none⟩ 1 [b] Tryd.underlying22 Tryd.underlying5 Tryd.underlying9 (fun j hj => by
    have hj0 : j = 0 := by simpa using hj
    subst hj0
    have e : (⟨u.heap.size, 0, none⟩ : Addr).add 0 = ⟨u.heap.size, 0, none⟩ := by simp [Addr.add]
    rw [e]
    simp)
  simpa using h

set_option maxRecDepth 20000 in
set_option maxHeartbeats 4000000 in
theorem spoil_at {w0 u : World} {a : Option Addr} {len cap : Nat} (h : At w0 a len cap u) (t : ByteArray) (ht : t.size ≤ 4000) :
    Calls Tryd.prog 41 #[.pointer (some ⟨w0.heap.size, 0, none⟩), .string t] u fun e w' => ∃ t' : ByteArray, e = .returned (.string t') ∧ t'.size ≤ t.size + 1 ∧ At w0 a len cap w' := by
  have e1 : IntKind.i64.wrap ((t.size : Int) + 1) = (t.size : Int) + 1 := by rw [IntKind.wrap_i64]; omega
  have hn := n_keep h (t.size + 1) (by omega) (by omega)
  rw [show ((t.size + 1 : Nat) : Int) = (t.size : Int) + 1 by omega] at hn
  go_enter Tryd.func41, Tryd.ntmps41
  go_wp2_with fail
  refine hn.mono ?_
  rintro e w1 ⟨k, rfl, hk, hA1, _⟩
  clear hn h
  go_wp2_with fail
  refine (n_keep hA1 17 (by omega) (by omega)).mono ?_
  rintro e w2 ⟨j, rfl, hj, hA2, _⟩
  clear hA1
  have j0 : (0 : Int) ≤ (j : Int) := by omega
  have j1 : (j : Int) < 17 := by omega
  have hcv := one_conv w2
  have k0 : (0 : Int) ≤ (k : Int) := by omega
  have k1 : (k : Int) ≤ (t.size : Int) := by omega
  have e2 : IntKind.i64.wrap ((k : Int) + 1) = (k : Int) + 1 := by rw [IntKind.wrap_i64]; omega
  have s1 : ∀ b : UInt8, (⟨#[b]⟩ : ByteArray).size = 1 := fun _ => rfl
  by_cases hkt : k = t.size
  · have hkb : ((k : Int) == (t.size : Int)) = true := by simp; omega
    go_wp2_with fail
    refine wp_world (fun u => At w0 a len cap u) (At.alloc hA2 _) ?_
    clear hcv hA2
    intro w3 hA3
    go_quiet (fail)
    go_wp2_with fail
    go_ret
    exact ⟨_, rfl, by simp only [ByteArray.size_append, ByteArray.size_extract, s1]; omega, At.drewN hA3 _⟩
  · have hkb : ((k : Int) == (t.size : Int)) = false := by simp; omega
    have k2 : (k : Int) + 1 ≤ (t.size : Int) := by omega
    have k3 : (0 : Int) ≤ (k : Int) + 1 := by omega
    go_wp2_with fail
    refine (one_at (At.alloc hA2 _) _ (by omega) (by omega)).mono ?_
    rintro e w3 ⟨vb, rfl, hA3⟩
    clear hA2 hcv
    cases vb
    · go_wp2_with fail
      refine (one_at hA3 _ (by omega) (by omega)).mono ?_
      rintro e w4 ⟨vb, rfl, hA4⟩
      clear hA3
      cases vb
      · go_wp2_with fail
        go_quiet (fail)
        go_wp2_with fail
        go_ret
        exact ⟨_, rfl, by simp only [ByteArray.size_append, ByteArray.size_extract, s1]; omega, At.drewN hA4 _⟩
      · go_wp2_with fail
        go_quiet (fail)
        go_wp2_with fail
        go_ret
        exact ⟨_, rfl, by simp only [ByteArray.size_append, ByteArray.size_extract, s1]; omega, At.drewN hA4 _⟩
    · go_wp2_with fail
      go_quiet (fail)
      go_wp2_with fail
      go_ret
      exact ⟨_, rfl, by simp only [ByteArray.size_append, ByteArray.size_extract, s1]; omega, At.drewN hA3 _⟩
end Go.Proofs.YtcfekhahibklfaaDoor.db
