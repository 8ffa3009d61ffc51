/-
  What is drawn for the law on boxes, fourth part: a key, a number and a box that may be spoilt. No old block turns.
-/
import Derived.Test.YtkfiigmfhfhkgaaDoorDrawBox2
import Derived.Test.YtkfiigmfhfhkgaaDoorBoxMS
namespace Go.Proofs.YtkfiigmfhfhkgaaDoor.db
open Go.ChangeShapes Go.WideShapes Go.ChangeAt Go.RowKit
open Go.Proofs.YtkfiigmfhfhkgaaDoor.dr
set_option linter.unusedVariables false
set_option linter.unusedSimpArgs false

theorem sealA_size (key : ByteArray) (n : Int) (t : ByteArray) : (cc.sealA key n t).size ≤ 1016 := by
  by_cases hc : (1 ≤ key.size ∧ key.size ≤ 64 ∧ 0 ≤ n ∧ n ≤ 1000000) ∧ t.size ≤ 1000
  · rw [cc.sealA_yes hc, cc.boxB_size]; omega
  · rw [cc.sealA_no hc]; decide

set_option maxRecDepth 20000 in
set_option maxHeartbeats 8000000 in
theorem drawOpenBox_any (a : Option Addr) (len cap : Nat) (w : World) (hC : Codes w w.heap.size a len) :
    Calls Tryd.prog 36 #[.slice a len cap] w fun e w' => ∃ (key : ByteArray) (n : Int) (t : ByteArray), e = .returned (.tuple #[.string key, .int .i64 n, .string t]) ∧ key.size ≤ 65 ∧ 0 ≤ n ∧ n ≤ 101 ∧ t.size ≤ 1017 ∧ Below w.heap.size w w' := by
  have HC : Hid (Codes w w.heap.size a len) := hC
  clear hC
  go_enter Tryd.func36, Tryd.ntmps36
  go_wp2_with fail
  refine (source_at a len cap _ HC.out).mono ?_
  rintro e w1 ⟨rfl, hA1⟩
  go_wp2_with fail
  refine (pass_at hA1).mono ?_
  rintro e w2 ⟨key, rfl, hk, hA2⟩
  clear hA1 HC
  go_wp2_with fail
  refine (n_keep hA2 100 (by omega) (by omega)).mono ?_
  rintro e w3 ⟨n, rfl, hn, hA3, _⟩
  clear hA2
  go_wp2_with fail
  refine (n_keep hA3 90 (by omega) (by omega)).mono ?_
  rintro e w4 ⟨k, rfl, hk4, hA4, _⟩
  clear hA3
  go_wp2_with fail
  refine (bytes_at hA4 _ (by omega) (by omega)).mono ?_
  rintro e w5 ⟨t, rfl, ht, hA5⟩
  clear hA4
  go_wp2_with fail
  refine (cc.specSeal_any key n t w5 (by unfold maxLen; omega) (by unfold maxLen; omega)).mono ?_
  rintro e w6 ⟨rfl, hb6⟩
  have hA6 := At.up hA5 hb6
  clear hA5 hb6
  have hs := sealA_size key n t
  generalize cc.sealA key n t = b at hs ⊢
  go_wp2_with fail
  refine (n_keep hA6 4 (by omega) (by omega)).mono ?_
  rintro e w7 ⟨v, rfl, hv, hA7, _⟩
  clear hA6
  obtain rfl | rfl | rfl | rfl : v = 0 ∨ v = 1 ∨ v = 2 ∨ v = 3 := by omega
  · go_wp2_with fail
    refine (spoil_at hA7 b (by omega)).mono ?_
    rintro e w8 ⟨t, rfl, ht, hA8⟩
    go_wp2_with fail
    go_ret3
    exact ⟨_, _, _, rfl, hk, by omega, by omega, by omega, hA8.2.1⟩
  · by_cases h0 : b.size = 0
    · have h0' : decide ((0 : Int) < (b.size : Int)) = false := decide_eq_false (by omega)
      go_wp2_with fail
      go_ret3
      exact ⟨_, _, _, rfl, hk, by omega, by omega, by omega, hA7.2.1⟩
    · have h0' : (0 : Int) < (b.size : Int) := by omega
      go_wp2_with fail
      refine (n_keep hA7 b.size (by omega) (by omega)).mono ?_
      rintro e w8 ⟨m, rfl, hm, hA8, _⟩
      have m0 : (0 : Int) ≤ (m : Int) := by omega
      have m1 : (m : Int) ≤ (b.size : Int) := by omega
      go_wp2_with fail
      go_ret3
      exact ⟨_, _, _, rfl, hk, by omega, by omega, by simp only [ByteArray.size_extract]; omega, hA8.2.1⟩
  · go_wp2_with fail
    refine (n_keep hA7 2 (by omega) (by omega)).mono ?_
    rintro e w8 ⟨m, rfl, hm, hA8, _⟩
    have e1 : IntKind.i64.wrap ((n : Int) + (m : Int)) = (n : Int) + (m : Int) := by rw [IntKind.wrap_i64]; omega
    go_wp2_with fail
    go_ret3
    exact ⟨_, _, _, rfl, hk, by omega, by omega, by omega, hA8.2.1⟩
  · go_wp2_with fail
    go_ret3
    exact ⟨_, _, _, rfl, hk, by omega, by omega, by omega, hA7.2.1⟩
end Go.Proofs.YtkfiigmfhfhkgaaDoor.db
