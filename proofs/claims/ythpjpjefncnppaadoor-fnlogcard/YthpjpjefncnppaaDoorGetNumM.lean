/-
  What the model reads of a number from its bytes, for every text of at most 8000 bytes and every place.
-/
import Derived.Test.YthpjpjefncnppaaDoorNumPlain
namespace Go.Proofs.YthpjpjefncnppaaDoor.gs
open Go.ChangeShapes Go.WideShapes Go.ChangeAt Go.RowKit
open Go.Proofs.YthpjpjefncnppaaDoor.np
set_option linter.unusedVariables false

set_option maxRecDepth 20000 in
set_option maxHeartbeats 2000000 in
theorem spec_pos (s : ByteArray) (i0 : Int) (a : Nat) (w : World) (hs : s.size ≤ 8000) (HA : Hid (i0 = (a : Int))) (h0 : 0 ≤ i0) (h1 : i0 ≤ 9223372036854775807) :
    Calls Tryd.prog 71 #[.string s, .int .i64 i0] w fun e w' => e = .returned (outN (go s a 0 10)) ∧ Below w.heap.size w w' := by
  have fin : ∀ (r : Int × Int × Int), go s a 0 10 = r → Value.agg #[.int .i64 r.1, .int .i64 r.2.1, .int .i64 r.2.2] = outN (go s a 0 10) := fun r h => by rw [h]; rfl
  have FIN : Hid (∀ (r : Int × Int × Int), go s a 0 10 = r → Value.agg #[.int .i64 r.1, .int .i64 r.2.1, .int .i64 r.2.2] = outN (go s a 0 10)) := fin
  clear fin
  go_enter Tryd.func71, Tryd.ntmps71
  go_wp2
  go_loop [5, 6, 7, 8] (fun u i c n => ∃ (k : Nat) (y : Int), k ≤ 9 ∧ i = .int .i64 k ∧ u = .int .u64 y ∧ Hid (y = (acc s a k : Int)) ∧ Hid (go s a 0 10 = go s a k ((9 - k) + 1)) ∧ 0 ≤ y ∧ y ≤ 9223372036854775807) (fun _ i _ _ => 10 - (intOf i).toNat)
  case atStart => exact ⟨0, 0, by omega, rfl, rfl, rfl, rfl, by omega, by omega⟩
  case round =>
    obtain ⟨k, y, hk9, rfl, rfl, HY, HG, y0, y1⟩ := hrel
    by_cases hend : (s.size : Int) ≤ i0 + k
    · have HE : Hid (go s a 0 10 = (0, 0, 4)) := by
        show _ = _
        rw [HG.out, go_end (by have := HA.out; omega)]
      go_wp2
      exact bodyPost_ret (v := .agg #[.int .i64 0, .int .i64 0, .int .i64 4]) (by simp [results, Tryd.results71, go_sem]) rfl ⟨by rw [HE.out]; rfl, (Below.refl _ _).alloc (Nat.le_refl _) _⟩
    · have ha8 : a + k < s.size := by have := HA.out; omega
      obtain rfl : i0 = (a : Int) := HA.out
      clear h1 h0 hend
      obtain ⟨b, hbe⟩ : ∃ b : Int, (s[a + k].toNat : Int) = b := ⟨_, rfl⟩
      have HB : Hid (b = (byteAt s (a + k) : Int)) := by show _ = _; rw [← hbe, byteAt_eq ha8]
      have hb0 : 0 ≤ b := by rw [HB.out]; omega
      have hb1 : b ≤ 255 := by rw [HB.out]; have := byteAt_lt s (a + k); omega
      by_cases hk : k = 9
      · subst hk
        by_cases hb2 : 1 < b
        · have HE : Hid (go s a 0 10 = (0, 0, 3)) := by
            show _ = _
            rw [HG.out, go_bad9 (by omega) (by have := HB.out; omega)]
          go_wp2
          exact bodyPost_ret (v := .agg #[.int .i64 0, .int .i64 0, .int .i64 3]) (by simp [results, Tryd.results71, go_sem]) rfl ⟨by rw [HE.out]; rfl, (Below.refl _ _).alloc (Nat.le_refl _) _⟩
        · by_cases hb3 : b = 0
          · have HE : Hid (go s a 0 10 = (0, 0, 3)) := by
              show _ = _
              rw [HG.out, go_zero (by omega) (by have := HB.out; omega) (by omega)]
            go_wp2
            all_goals exact bodyPost_ret (v := .agg #[.int .i64 0, .int .i64 0, .int .i64 3]) (by simp [results, Tryd.results71, go_sem]) rfl ⟨by rw [HE.out]; rfl, (Below.refl _ _).alloc (Nat.le_refl _) _⟩
          · have hb4 : b = 1 := by omega
            have HE : Hid (go s a 0 10 = (unf (acc s a (9 + 1) : Int), ((a + 9 + 1 : Nat) : Int), 0)) := by
              show _ = _
              rw [HG.out, go_last (by omega) (by have := HB.out; omega) (by have := HB.out; omega) (by have := HB.out; omega)]
            have HZ : Hid (y + 9223372036854775808 = (acc s a (9 + 1) : Int)) := by
              have e1 : byteAt s (a + 9) = 1 := by have := HB.out; omega
              have e2 : acc s a (9 + 1) = acc s a 9 + 9223372036854775808 := by
                rw [show acc s a (9 + 1) = acc s a 9 + byteAt s (a + 9) % 128 * 128 ^ 9 from rfl, e1]
              have := HY.out
              show _ = _
              rw [e2]; omega
            by_cases hp : ((y + 9223372036854775808) % 2 == 1) = true
            · have HP : Hid (-((y + 9223372036854775808) / 2) - 1 = unf (acc s a (9 + 1) : Int)) := by show _ = _; rw [← HZ.out, unf_odd hp]
              go_wp2
              all_goals exact bodyPost_ret (v := .agg #[.int .i64 (-((y + 9223372036854775808) / 2) - 1), .int .i64 ((a : Int) + 9 + 1), .int .i64 0]) (by simp [results, Tryd.results71, go_sem] <;> omega) rfl ⟨by rw [HE.out, HP.out]; rfl, (Below.refl _ _).alloc (Nat.le_refl _) _⟩
            · have hp2 : ((y + 9223372036854775808) % 2 == 1) = false := by simpa using hp
              have HP : Hid ((y + 9223372036854775808) / 2 = unf (acc s a (9 + 1) : Int)) := by show _ = _; rw [← HZ.out, unf_even hp2]
              clear hp
              go_wp2
              all_goals exact bodyPost_ret (v := .agg #[.int .i64 ((y + 9223372036854775808) / 2), .int .i64 ((a : Int) + 9 + 1), .int .i64 0]) (by simp [results, Tryd.results71, go_sem] <;> omega) rfl ⟨by rw [HE.out, HP.out]; rfl, (Below.refl _ _).alloc (Nat.le_refl _) _⟩
      · have hk8 : k < 9 := by omega
        obtain ⟨z, hsh, z0, z1, hacc⟩ := step_low (s := s) (a := a) hk8 HB.out
        have HZ : Hid (y + z = (acc s a (k + 1) : Int)) := by show _ = _; rw [HY.out]; exact hacc
        clear hacc
        by_cases hb3 : b < 128
        · by_cases hb4 : b = 0 ∧ 0 < k
          · obtain ⟨hb5, hb6⟩ := hb4
            have HE : Hid (go s a 0 10 = (0, 0, 3)) := by
              show _ = _
              rw [HG.out, go_zero (by omega) (by have := HB.out; omega) (by omega)]
            go_wp2
            all_goals exact bodyPost_ret (v := .agg #[.int .i64 0, .int .i64 0, .int .i64 3]) (by simp [results, Tryd.results71, go_sem]) rfl ⟨by rw [HE.out]; rfl, (Below.refl _ _).alloc (Nat.le_refl _) _⟩
          · have HE : Hid (go s a 0 10 = (unf (acc s a (k + 1) : Int), ((a + k + 1 : Nat) : Int), 0)) := by
              show _ = _
              rw [HG.out, go_last (by omega) (by omega) (by have := HB.out; omega) (by have := HB.out; omega)]
            have hb5 : b = 0 → k = 0 := by omega
            by_cases hp : ((y + z) % 2 == 1) = true
            · have HP : Hid (-((y + z) / 2) - 1 = unf (acc s a (k + 1) : Int)) := by show _ = _; rw [← HZ.out, unf_odd hp]
              go_wp2
              all_goals exact bodyPost_ret (v := .agg #[.int .i64 (-((y + z) / 2) - 1), .int .i64 ((a : Int) + k + 1), .int .i64 0]) (by simp [results, Tryd.results71, go_sem] <;> omega) rfl ⟨by rw [HE.out, HP.out]; rfl, (Below.refl _ _).alloc (Nat.le_refl _) _⟩
            · have hp2 : ((y + z) % 2 == 1) = false := by simpa using hp
              have HP : Hid ((y + z) / 2 = unf (acc s a (k + 1) : Int)) := by show _ = _; rw [← HZ.out, unf_even hp2]
              clear hp
              go_wp2
              all_goals exact bodyPost_ret (v := .agg #[.int .i64 ((y + z) / 2), .int .i64 ((a : Int) + k + 1), .int .i64 0]) (by simp [results, Tryd.results71, go_sem] <;> omega) rfl ⟨by rw [HE.out, HP.out]; rfl, (Below.refl _ _).alloc (Nat.le_refl _) _⟩
        · have HE : Hid (go s a 0 10 = go s a (k + 1) ((9 - (k + 1)) + 1)) := by
            show _ = _
            rw [HG.out, go_more (by omega) hk8 (by have := HB.out; omega)]
            congr 1; omega
          have HU : Hid (acc s a (k + 1) < 9223372036854775808) := acc_u63 (by omega)
          go_wp2
          go_round
          case rel => exact ⟨k + 1, y + z, by omega, by go_num, rfl, HZ.out, HE.out, by omega, by have := HZ.out; have := HU.out; omega⟩
          case measure => simp [intOf]; omega

set_option maxHeartbeats 400000 in
theorem spec_any (s : ByteArray) (i : Int) (w : World) (hs : s.size ≤ maxLen) (w0 : (Lit.int .i64 i).wf = true) :
    Calls Tryd.prog 71 #[.string s, .int .i64 i] w fun e w' => e = .returned (outN (numV s i)) ∧ Below w.heap.size w w' := by
  unfold maxLen at hs
  obtain ⟨i1, i2⟩ := i64_of i w0
  by_cases h1 : 8000 < s.size
  · rw [numV_long h1]
    go_enter Tryd.func71, Tryd.ntmps71
    go_wp2
    exact bodyPost_ret (v := .agg #[.int .i64 0, .int .i64 0, .int .i64 2]) (by simp [results, Tryd.results71, go_sem]) rfl ⟨rfl, (Below.refl _ _).alloc (Nat.le_refl _) _⟩
  · rw [numV_short h1]
    by_cases h2 : i < 0
    · rw [getV_neg h2]
      go_enter Tryd.func71, Tryd.ntmps71
      go_wp2
      exact bodyPost_ret (v := .agg #[.int .i64 0, .int .i64 0, .int .i64 1]) (by simp [results, Tryd.results71, go_sem]) rfl ⟨rfl, (Below.refl _ _).alloc (Nat.le_refl _) _⟩
    · have e : i = (i.toNat : Int) := by omega
      have e2 : getV s i = go s i.toNat 0 10 := by rw [e]; exact getV_pos
      rw [e2]
      exact spec_pos s i i.toNat w (by omega) e (by omega) i2
theorem spec_out (s : ByteArray) (i : Int) (w : World) (hs : s.size ≤ maxLen) (w0 : (Lit.int .i64 i).wf = true) :
    Calls Tryd.prog 71 #[.string s, .int .i64 i] w fun e w' => e = .returned (.agg #[.int .i64 (numV s i).1, .int .i64 (numV s i).2.1, .int .i64 (numV s i).2.2]) ∧ Below w.heap.size w w' := spec_any s i w hs w0
end Go.Proofs.YthpjpjefncnppaaDoor.gs
