/-
  What is drawn for the law on boxes, second part: a text that is spoilt a little is at most one byte longer. No old block turns.
-/
import Derived.Test.YtkfiigmfhfhkgaaDoorDrawBox
namespace Go.Proofs.YtkfiigmfhfhkgaaDoor.db
open Go.ChangeShapes Go.WideShapes Go.ChangeAt Go.RowKit
open Go.Proofs.YtkfiigmfhfhkgaaDoor.dr
set_option linter.unusedVariables false
set_option linter.unusedSimpArgs false

theorem one_conv (u : World) (b : UInt8) : (convert 22 9 (.slice (some ⟨u.heap.size, 0, none⟩) 1 1)).run Tryd.prog (u.alloc (.cells #[.int .u8 (b.toNat : Int)] 5)) =
    .ok (.string ⟨#[b]⟩) (u.alloc (.cells #[.int .u8 (b.toNat : Int)] 5)) := by
  have h := run_convert_bytes_back (P := Tryd.prog) (u.alloc (.cells #[.int .u8 (b.toNat : Int)] 5)) 22 9 5 ⟨u.heap.size, 0, none⟩ 1 [b] Tryd.underlying22 Tryd.underlying5 Tryd.underlying9 (fun j hj => by
    have hj0 : j = 0 := by simpa using hj
    subst hj0
    have e : (⟨u.heap.size, 0, none⟩ : Addr).add 0 = ⟨u.heap.size, 0, none⟩ := by simp [Addr.add]
    rw [e]
    simp)
  simpa using h

set_option maxRecDepth 20000 in
set_option maxHeartbeats 4000000 in
theorem spoil_at {w0 u : World} {a : Option Addr} {len cap : Nat} (h : At w0 a len cap u) (t : ByteArray) (ht : t.size ≤ 4000) :
    Calls Tryd.prog 72 #[.pointer (some ⟨w0.heap.size, 0, none⟩), .string t] u fun e w' => ∃ t' : ByteArray, e = .returned (.string t') ∧ t'.size ≤ t.size + 1 ∧ At w0 a len cap w' := by
  have e1 : IntKind.i64.wrap ((t.size : Int) + 1) = (t.size : Int) + 1 := by rw [IntKind.wrap_i64]; omega
  have hn := n_keep h (t.size + 1) (by omega) (by omega)
  rw [show ((t.size + 1 : Nat) : Int) = (t.size : Int) + 1 by omega] at hn
  go_enter Tryd.func72, Tryd.ntmps72
  go_wp2_with fail
  refine hn.mono ?_
  rintro e w1 ⟨k, rfl, hk, hA1, _⟩
  clear hn h
  go_wp2_with fail
  refine (n_keep hA1 17 (by omega) (by omega)).mono ?_
  rintro e w2 ⟨j, rfl, hj, hA2, _⟩
  clear hA1
  have j0 : (0 : Int) ≤ (j : Int) := by omega
  have j1 : (j : Int) < 17 := by omega
  have hcv := one_conv w2
  have k0 : (0 : Int) ≤ (k : Int) := by omega
  have k1 : (k : Int) ≤ (t.size : Int) := by omega
  have e2 : IntKind.i64.wrap ((k : Int) + 1) = (k : Int) + 1 := by rw [IntKind.wrap_i64]; omega
  have s1 : ∀ b : UInt8, (⟨#[b]⟩ : ByteArray).size = 1 := fun _ => rfl
  by_cases hkt : k = t.size
  · have hkb : ((k : Int) == (t.size : Int)) = true := by simp; omega
    go_wp2_with fail
    refine wp_world (fun u => At w0 a len cap u) (At.alloc hA2 _) ?_
    clear hcv hA2
    intro w3 hA3
    go_quiet (fail)
    go_wp2_with fail
    go_ret
    exact ⟨_, rfl, by simp only [ByteArray.size_append, ByteArray.size_extract, s1]; omega, At.drewN hA3 _⟩
  · have hkb : ((k : Int) == (t.size : Int)) = false := by simp; omega
    have k2 : (k : Int) + 1 ≤ (t.size : Int) := by omega
    have k3 : (0 : Int) ≤ (k : Int) + 1 := by omega
    go_wp2_with fail
    refine (one_at (At.alloc hA2 _) _ (by omega) (by omega)).mono ?_
    rintro e w3 ⟨vb, rfl, hA3⟩
    clear hA2 hcv
    cases vb
    · go_wp2_with fail
      refine (one_at hA3 _ (by omega) (by omega)).mono ?_
      rintro e w4 ⟨vb, rfl, hA4⟩
      clear hA3
      cases vb
      · go_wp2_with fail
        go_quiet (fail)
        go_wp2_with fail
        go_ret
        exact ⟨_, rfl, by simp only [ByteArray.size_append, ByteArray.size_extract, s1]; omega, At.drewN hA4 _⟩
      · go_wp2_with fail
        go_quiet (fail)
        go_wp2_with fail
        go_ret
        exact ⟨_, rfl, by simp only [ByteArray.size_append, ByteArray.size_extract, s1]; omega, At.drewN hA4 _⟩
    · go_wp2_with fail
      go_quiet (fail)
      go_wp2_with fail
      go_ret
      exact ⟨_, rfl, by simp only [ByteArray.size_append, ByteArray.size_extract, s1]; omega, At.drewN hA3 _⟩
end Go.Proofs.YtkfiigmfhfhkgaaDoor.db
