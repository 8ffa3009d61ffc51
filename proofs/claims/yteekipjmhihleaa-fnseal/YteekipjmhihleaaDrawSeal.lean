/-
  What is drawn for the law on seals: a text of at most 20000 bytes; a number and a text of at most 9 bytes; a place below the most.
-/
import Derived.Test.YteekipjmhihleaaDraw
import Derived.Test.YteekipjmhihleaaCrc
import Derived.Laws.IdiomStrings
namespace Go.Proofs.Yteekipjmhihleaa.ds
open Go.ChangeShapes Go.WideShapes Go.ChangeAt Go.RowKit
open Go.Proofs.Yteekipjmhihleaa.dr
set_option linter.unusedVariables false

set_option maxHeartbeats 1000000 in
theorem drawSeal_any (a : Option Addr) (len cap : Nat) (w : World) (hC : Codes w w.heap.size a len) :
    Calls Try.prog 4 #[.slice a len cap] w fun e w' => ∃ t : ByteArray, e = .returned (.string t) ∧ t.size ≤ 20000 ∧ Below w.heap.size w w' := by
  have HC : Hid (Codes w w.heap.size a len) := hC
  clear hC
  go_enter Try.func4, Try.ntmps4
  go_wp2_with (first | (go_at_call 13; refine (source_any a len cap _ HC.out).mono ?_; rintro e w1 ⟨rfl, hS1, hb1⟩) | (go_at_call 14; refine (one_any _ _ a len cap _ _ hS1 (HC.out.below hb1) (by omega) (by omega)).mono ?_; rintro e w2 ⟨vb, rfl, hS2, hg2⟩; have hb2 := hb1.trans (gbelow hg2 (Nat.le_refl _) hb1.size); cases vb) | (go_at_call 15; refine (n_any _ _ a len cap _ _ hS2 (HC.out.below hb2) (by omega) (by omega)).mono ?_; rintro e w3 ⟨v, rfl, v0, v1, v2, hS3, hg3⟩; have hv := v1 (by decide); have hb3 := hb2.trans (gbelow hg3 (Nat.le_refl _) hb2.size); obtain ⟨k, rfl⟩ : ∃ k : Nat, v = (k : Int) := ⟨v.toNat, by omega⟩; have hmk := zeros_make (19995 + k) (by omega) w3; have hcv := zeros_conv (19995 + k) w3; rw [show ((19995 + k : Nat) : Int) = 19995 + (k : Int) by omega] at hmk) | (go_at_call 16; refine (bytes_any _ _ a len cap _ _ hS3 (HC.out.below hb3) v0 (by omega)).mono ?_; rintro e w4 ⟨t, rfl, ht, hS4, hg4⟩; have hb4 := hb3.trans (gbelow hg4 (Nat.le_refl _) hb3.size)))
  · go_ret
    exact ⟨t, rfl, by omega, hb4⟩
  · go_ret
    exact ⟨_, rfl, by simp [ByteArray.size]; omega, hb3.alloc hb3.size _⟩

set_option maxHeartbeats 1000000 in
theorem drawMore_any (a : Option Addr) (len cap : Nat) (w : World) (hC : Codes w w.heap.size a len) :
    Calls Try.prog 9 #[.slice a len cap] w fun e w' => ∃ (c : Int) (t : ByteArray), e = .returned (.tuple #[.int .i64 c, .string t]) ∧ t.size ≤ 9 ∧ Below w.heap.size w w' := by
  have HC : Hid (Codes w w.heap.size a len) := hC
  clear hC
  go_enter Try.func9, Try.ntmps9
  go_wp2_with (first | (go_at_call 13; refine (source_at a len cap _ HC.out).mono ?_; rintro e w1 ⟨rfl, hA⟩) | (go_at_call 15; refine (n_at (by assumption) _ (by omega) (by omega)).mono ?_; rintro e w3 ⟨v, rfl, v0, v1, v2, hA⟩; have hv := v1 (by decide)) | (go_at_call 16; refine (bytes_at (by assumption) _ (by assumption) (by omega)).mono ?_; rintro e w4 ⟨t, rfl, ht, hA⟩; have htm : t.size ≤ maxLen := by { unfold maxLen; omega }) | (go_at_call 14; refine (one_at (by assumption) _ (by omega) (by omega)).mono ?_; rintro e w5 ⟨vb, rfl, hA⟩; cases vb) | (go_at_call 21; refine (edge_at (by assumption)).mono ?_; rintro e w6 ⟨v, rfl, v0, v1, hA⟩) | (go_at_call 22; refine (cr.specCrc_any _ _ (by assumption)).mono ?_; rintro e w7 ⟨rfl, rfl⟩))
  all_goals
    go_ret2
    exact ⟨_, _, rfl, by omega, (show At w a len cap _ by assumption).2.1⟩

/-- a place below the most -/
theorem lwAt_any (a : Option Addr) (len cap : Nat) (at_ most : Int) (w : World) (hC : Codes w w.heap.size a len) (h0 : 0 ≤ at_) (h1 : at_ ≤ 1) (m0 : 0 ≤ most) (m1 : most ≤ 1048576) :
    Calls Try.prog 7 #[.slice a len cap, .int .i64 at_, .int .i64 most] w fun e w' => (∃ v : Int, e = .returned (.int .i64 v) ∧ 0 ≤ v ∧ (1 < most → v < most) ∧ (most ≤ 1 → v = 0)) ∧ w' = w := by
  obtain ⟨hl, hc⟩ := hC
  by_cases hm : most ≤ 1
  · go_enter Try.func7, Try.ntmps7
    go_wp2
    go_ret
    exact ⟨⟨0, rfl, by omega, by omega, fun _ => rfl⟩, rfl⟩
  by_cases hz : len = 0
  · subst hz
    go_enter Try.func7, Try.ntmps7
    go_wp2
    go_ret
    exact ⟨⟨0, rfl, by omega, by omega, fun _ => rfl⟩, rfl⟩
  obtain h | ⟨b, off, rfl, hbB, hcz⟩ := hc
  · omega
  obtain ⟨k, hk⟩ : ∃ k : Nat, at_ % (len : Int) = (k : Int) := ⟨(at_ % (len : Int)).toNat, by have := Int.emod_nonneg at_ (show (len : Int) ≠ 0 by omega); omega⟩
  have hk2 : k < len := by have := Int.emod_lt_of_pos at_ (show (0 : Int) < len by omega); omega
  obtain ⟨z, hz', z0, z1⟩ := hcz k hk2
  clear hcz
  go_enter Try.func7, Try.ntmps7
  go_wp2
  go_ret
  have e1 := Int.emod_nonneg z (show most ≠ 0 by omega)
  have e2 := Int.emod_lt_of_pos z (show 0 < most by omega)
  refine ⟨⟨z % most, rfl, e1, ?_⟩, rfl⟩
  first | exact e2 | exact ⟨e2, fun h => by omega⟩ | exact ⟨fun _ => e2, fun h => by omega⟩
end Go.Proofs.Yteekipjmhihleaa.ds
