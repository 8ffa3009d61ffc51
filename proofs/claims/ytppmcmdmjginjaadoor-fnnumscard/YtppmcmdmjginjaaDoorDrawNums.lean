/-
  What is drawn for the law on numbers: a number of 64 bits; a text of at most 20002 bytes.
-/
import Derived.Test.YtppmcmdmjginjaaDoorDraw
namespace Go.Proofs.YtppmcmdmjginjaaDoor.dn
open Go.ChangeShapes Go.WideShapes Go.ChangeAt Go.RowKit
open Go.Proofs.YtppmcmdmjginjaaDoor.dr
set_option linter.unusedVariables false

set_option maxHeartbeats 1000000 in
theorem any_at {w0 u : World} {a : Option Addr} {len cap : Nat} (h : At w0 a len cap u) :
    Calls Tryd.prog 23 #[.pointer (some ⟨w0.heap.size, 0, none⟩)] u fun e w' => ∃ v : Int, e = .returned (.int .i64 v) ∧ -9223372036854775808 ≤ v ∧ v ≤ 9223372036854775807 ∧ At w0 a len cap w' := by
  go_enter Tryd.func23, Tryd.ntmps23
  go_wp2_with (first | (go_at_call 28; refine (one_at (by assumption) _ (by omega) (by omega)).mono ?_; rintro e w5 ⟨vb, rfl, hA⟩; cases vb) | (go_at_call 35; refine (edge_at (by assumption)).mono ?_; rintro e w6 ⟨v, rfl, v0, v1, hA⟩) | (go_at_call 29; refine (n_at (by assumption) _ (by omega) (by omega)).mono ?_; rintro e w3 ⟨v, rfl, v0, v1, v2, hA⟩; have hv := v1 (by decide)))
  all_goals
    go_ret
    exact ⟨_, rfl, by omega, by omega, by assumption⟩

set_option maxHeartbeats 1000000 in
theorem drawPutNum_any (a : Option Addr) (len cap : Nat) (w : World) (hC : Codes w w.heap.size a len) :
    Calls Tryd.prog 5 #[.slice a len cap] w fun e w' => ∃ v : Int, e = .returned (.int .i64 v) ∧ -9223372036854775808 ≤ v ∧ v ≤ 9223372036854775807 ∧ Below w.heap.size w w' := by
  have HC : Hid (Codes w w.heap.size a len) := hC
  clear hC
  go_enter Tryd.func5, Tryd.ntmps5
  go_wp2_with (first | (go_at_call 22; refine (source_at a len cap _ HC.out).mono ?_; rintro e w1 ⟨rfl, hA⟩) | (go_at_call 23; refine (any_at (by assumption)).mono ?_; rintro e w2 ⟨v, rfl, v0, v1, hA2⟩))
  go_ret
  exact ⟨_, rfl, v0, v1, hA2.2.1⟩

set_option maxHeartbeats 1000000 in
theorem drawPutText_any (a : Option Addr) (len cap : Nat) (w : World) (hC : Codes w w.heap.size a len) :
    Calls Tryd.prog 9 #[.slice a len cap] w fun e w' => ∃ t : ByteArray, e = .returned (.string t) ∧ t.size ≤ 20002 ∧ Below w.heap.size w w' := by
  have HC : Hid (Codes w w.heap.size a len) := hC
  clear hC
  go_enter Tryd.func9, Tryd.ntmps9
  go_wp2_with (first | (go_at_call 22; refine (source_at a len cap _ HC.out).mono ?_; rintro e w1 ⟨rfl, hA⟩) | (go_at_call 28; refine (one_at (by assumption) _ (by omega) (by omega)).mono ?_; rintro e w5 ⟨vb, rfl, hA⟩; cases vb) | (go_at_call 29; refine (n_at (by assumption) _ (by omega) (by omega)).mono ?_; rintro e w3 ⟨v, rfl, v0, v1, v2, hA3⟩; have hv := v1 (by decide); obtain ⟨k, rfl⟩ : ∃ k : Nat, v = (k : Int) := ⟨v.toNat, by omega⟩; have hmk := zeros_make (19999 + k) (by omega) w3; have hcv := zeros_conv (19999 + k) w3; rw [show ((19999 + k : Nat) : Int) = 19999 + (k : Int) by omega] at hmk) | (go_at_call 30; refine (bytes_at (by assumption) _ (by omega) (by omega)).mono ?_; rintro e w4 ⟨t, rfl, ht, hA4⟩))
  · go_ret
    exact ⟨t, rfl, by omega, hA4.2.1⟩
  · go_ret
    exact ⟨_, rfl, by simp [ByteArray.size]; omega, hA3.2.1.alloc hA3.2.1.size _⟩
end Go.Proofs.YtppmcmdmjginjaaDoor.dn
