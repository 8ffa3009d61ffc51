/-
  The model's Mac and Stretch at every argument: what the plain functions tell; no old block turns.
  The model's chain of a log: ChainStart, ChainNext, l05Chain, LogText by plain functions; no old block turns. No condition.
  The model's l03Is; no old block turns. No condition.
-/
import Derived.Test.YtcfekhahibklfaaDoorShaAll
import Derived.Test.YtcfekhahibklfaaDoorMg12
import Derived.Test.YtcfekhahibklfaaDoorMg5
namespace Go.Proofs.YtcfekhahibklfaaDoor.sh
open Go.ChangeShapes Go.WideShapes Go.ChangeAt Go.RowKit
set_option linter.unusedVariables false

set_option maxRecDepth 20000 in
set_option maxHeartbeats 4000000 in
theorem macM_any (key t : ByteArray) (w : World) (hk : key.size ≤ 8000) (ht : t.size ≤ 8000) :
    Calls Tryd.prog 52 #[.string key, .string t] w fun e w' => e = .returned (.string (macB key t)) ∧ Below w.heap.size w w' := by
  by_cases hlong : 64 < key.size
  · have HK : Hid (keyB key = shaB key.data.toList) := if_pos hlong
    have hks := keyB_size key
    have HM : Hid (macB key t = shaB ((padS (keyB key).data.toList 92).data.toList ++ (shaB ((padS (keyB key).data.toList 54).data.toList ++ t.data.toList)).data.toList)) := rfl
    have hz92 := padS_size (keyB key).data.toList 92
    have hz54 := padS_size (keyB key).data.toList 54
    go_enter Tryd.func52, Tryd.ntmps52
    go_wp2_with fail
    refine (all_any key w (by omega)).mono ?_
    rw [← HK.out]
    rintro e w0 ⟨rfl, hC0⟩
    go_wp2_with fail
    refine (padM_any (keyB key) 92 _ w0 hks rfl).mono ?_
    rintro e w1 ⟨rfl, hB1⟩
    have hC1 := hC0.trans (hB1.mono hC0.size)
    clear hB1
    go_wp2_with fail
    refine (padM_any (keyB key) 54 _ w1 hks rfl).mono ?_
    rintro e w2 ⟨rfl, hB2⟩
    have hC2 := hC1.trans (hB2.mono hC1.size)
    clear hB2 hC1
    go_wp2_with fail
    refine (all_any (padS (keyB key).data.toList 54 ++ t) w2 (by simp only [ByteArray.size_append]; omega)).mono ?_
    rintro e w3 ⟨rfl, hB3⟩
    have hC3 := hC2.trans (hB3.mono hC2.size)
    clear hB3 hC2
    have hzi := shaB_size (padS (keyB key).data.toList 54 ++ t).data.toList
    generalize hI : shaB (padS (keyB key).data.toList 54 ++ t).data.toList = I at *
    have HI : Hid (shaB (padS (keyB key).data.toList 54 ++ t).data.toList = I) := hI
    clear hI
    go_wp2_with fail
    refine (all_any (padS (keyB key).data.toList 92 ++ I) w3 (by simp only [ByteArray.size_append]; omega)).mono ?_
    rintro e w4 ⟨rfl, hB4⟩
    have hC4 := hC3.trans (hB4.mono hC3.size)
    go_wp2_with fail
    go_ret
    refine ⟨ret_str ?_, hC4⟩
    rw [HM.out, ← HI.out]
    simp only [ByteArray.data_append, Array.toList_append]
  · have HM : Hid (macB key t = shaB ((padS key.data.toList 92).data.toList ++ (shaB ((padS key.data.toList 54).data.toList ++ t.data.toList)).data.toList)) := by
      show _ = _
      unfold macB; rw [show keyB key = key from if_neg hlong]
    have hks : key.size ≤ 64 := by omega
    have hz92 := padS_size key.data.toList 92
    have hz54 := padS_size key.data.toList 54
    have hC0 := Below.refl w.heap.size w
    go_enter Tryd.func52, Tryd.ntmps52
    go_wp2_with fail
    refine (padM_any key 92 _ w hks rfl).mono ?_
    rintro e w1 ⟨rfl, hB1⟩
    have hC1 := hC0.trans (hB1.mono hC0.size)
    clear hB1
    go_wp2_with fail
    refine (padM_any key 54 _ w1 hks rfl).mono ?_
    rintro e w2 ⟨rfl, hB2⟩
    have hC2 := hC1.trans (hB2.mono hC1.size)
    clear hB2 hC1
    go_wp2_with fail
    refine (all_any (padS key.data.toList 54 ++ t) w2 (by simp only [ByteArray.size_append]; omega)).mono ?_
    rintro e w3 ⟨rfl, hB3⟩
    have hC3 := hC2.trans (hB3.mono hC2.size)
    clear hB3 hC2
    have hzi := shaB_size (padS key.data.toList 54 ++ t).data.toList
    generalize hI : shaB (padS key.data.toList 54 ++ t).data.toList = I at *
    have HI : Hid (shaB (padS key.data.toList 54 ++ t).data.toList = I) := hI
    clear hI
    go_wp2_with fail
    refine (all_any (padS key.data.toList 92 ++ I) w3 (by simp only [ByteArray.size_append]; omega)).mono ?_
    rintro e w4 ⟨rfl, hB4⟩
    have hC4 := hC3.trans (hB4.mono hC3.size)
    go_wp2_with fail
    go_ret
    refine ⟨ret_str ?_, hC4⟩
    rw [HM.out, ← HI.out]
    simp only [ByteArray.data_append, Array.toList_append]
end Go.Proofs.YtcfekhahibklfaaDoor.sh

namespace Go.Proofs.YtcfekhahibklfaaDoor.lm
open Go.ChangeShapes Go.WideShapes Go.ChangeAt Go.RowKit
open Go.Proofs.YtcfekhahibklfaaDoor.wi (heap_lt calls_w wp_w)
open Go.Proofs.YtcfekhahibklfaaDoor.lg Go.Proofs.YtcfekhahibklfaaDoor.ss
open Go.Proofs.YtcfekhahibklfaaDoor.sh (macB macB_size macM_any)
set_option linter.unusedVariables false

theorem macB_32 : ∀ k x : ByteArray, (macB k x).size = 32 := macB_size
theorem chainS_le (key : ByteArray) : (chainS macB key).size ≤ 32 := by
  by_cases h : KeyL key
  · rw [chainS_size macB_32 h]; exact Nat.le_refl _
  · rw [chainS_no h]; exact Nat.zero_le _
theorem chainN_le (key c r : ByteArray) : (chainN macB key c r).size ≤ 32 := by
  by_cases h : KeyL key ∧ c.size = 32 ∧ r.size ≤ 200
  · rw [chainN_size macB_32 h.1 h.2.1 h.2.2]; exact Nat.le_refl _
  · rw [chainN_no h]; exact Nat.zero_le _
theorem chainF_le (key : ByteArray) : ∀ (l : List ByteArray) (c : ByteArray), c.size ≤ 32 → (chainF macB key c l).size ≤ 32
  | [], c, h => h
  | r :: l, c, h => chainF_le key l _ (chainN_le key c r)
theorem chain_le (key : ByteArray) (l : List ByteArray) : (chain macB key l).size ≤ 32 := chainF_le key l _ (chainS_le key)

set_option maxHeartbeats 8000000 in
theorem startM_any (key : ByteArray) (w : World) (hk : key.size ≤ maxLen) :
    Calls Tryd.prog 19 #[.string key] w fun r w' => r = .returned (.string (chainS macB key)) ∧ Below w.heap.size w w' := by
  by_cases h : KeyL key
  · have HK : Hid (∀ u, Calls Tryd.prog 47 #[.string key] u fun e w' => e = .returned (.bool true) ∧ w' = u) := fun u => keyM_yes key u h
    have HM : Hid (∀ u, Calls Tryd.prog 52 #[.string key, .string ⟨#[108, 111, 103]⟩] u fun e w' => e = .returned (.string (macB key logW)) ∧ Below u.heap.size u w') := fun u => macM_any key logW u (by have := h.2; omega) (by decide)
    rw [chainS_yes h]
    obtain ⟨x, hx⟩ : ∃ x, x = macB key logW := ⟨_, rfl⟩
    rw [← hx] at HM ⊢
    clear hx h
    go_enter Tryd.func19, Tryd.ntmps19
    go_wp2_with (first | (go_at_call 47; (with_reducible refine (HK.out _).mono ?_); rintro r w' ⟨rfl, hw'⟩; obtain rfl := hw'.symm) | (go_at_call 52; (refine (HM.out _).mono ?_); rintro r w' ⟨rfl, hb⟩))
    go_ret
    exact ⟨rfl, hb⟩
  · have HK : Hid (∀ u, Calls Tryd.prog 47 #[.string key] u fun e w' => e = .returned (.bool false) ∧ w' = u) := fun u => keyM_no key u hk h
    rw [chainS_no h]
    clear h
    go_enter Tryd.func19, Tryd.ntmps19
    go_wp2_with (go_at_call 47; (with_reducible refine (HK.out _).mono ?_); rintro r w' ⟨rfl, hw'⟩; obtain rfl := hw'.symm)
    go_ret
    exact ⟨rfl, Below.refl _ _⟩
set_option maxHeartbeats 8000000 in
theorem nextM_any (key c r : ByteArray) (w : World) (hk : key.size ≤ maxLen) (hc : c.size ≤ maxLen) (hr : r.size ≤ maxLen) :
    Calls Tryd.prog 17 #[.string key, .string c, .string r] w fun e w' => e = .returned (.string (chainN macB key c r)) ∧ Below w.heap.size w w' := by
  have HC : Hid (∀ u, Calls Tryd.prog 49 #[.string r] u fun e w' => e = .returned (.bool (decide (r.size ≤ 200))) ∧ w' = u) := fun u => recM_any r u hr
  unfold maxLen at hc hr
  by_cases h : KeyL key
  · have HK : Hid (∀ u, Calls Tryd.prog 47 #[.string key] u fun e w' => e = .returned (.bool true) ∧ w' = u) := fun u => keyM_yes key u h
    by_cases h32 : c.size = 32
    · by_cases h200 : r.size ≤ 200
      · rw [decide_eq_true h200] at HC
        have HM : Hid (∀ u, Calls Tryd.prog 52 #[.string key, .string (c ++ r)] u fun e w' => e = .returned (.string (macB key (c ++ r))) ∧ Below u.heap.size u w') := fun u => macM_any key (c ++ r) u (by have := h.2; omega) (by rw [ByteArray.size_append]; omega)
        rw [chainN_yes h h32 h200]
        obtain ⟨x, hx⟩ : ∃ x, x = macB key (c ++ r) := ⟨_, rfl⟩
        rw [← hx] at HM ⊢
        have d32 : ((c.size : Int) == 32) = true := by simp; omega
        clear hx h
        go_enter Tryd.func17, Tryd.ntmps17
        go_wp2_with (first | (go_at_call 47; (with_reducible refine (HK.out _).mono ?_); rintro r w' ⟨rfl, hw'⟩; obtain rfl := hw'.symm) | (go_at_call 49; (with_reducible refine (HC.out _).mono ?_); rintro r w' ⟨rfl, hw'⟩; obtain rfl := hw'.symm) | (go_at_call 52; (refine (HM.out _).mono ?_); rintro r w' ⟨rfl, hb⟩))
        go_ret
        exact ⟨rfl, hb⟩
      · rw [decide_eq_false h200] at HC
        rw [chainN_no fun x => h200 x.2.2]
        have d32 : ((c.size : Int) == 32) = true := by simp; omega
        clear h
        go_enter Tryd.func17, Tryd.ntmps17
        go_wp2_with (first | (go_at_call 47; (with_reducible refine (HK.out _).mono ?_); rintro r w' ⟨rfl, hw'⟩; obtain rfl := hw'.symm) | (go_at_call 49; (with_reducible refine (HC.out _).mono ?_); rintro r w' ⟨rfl, hw'⟩; obtain rfl := hw'.symm))
        go_ret
        exact ⟨rfl, Below.refl _ _⟩
    · rw [chainN_no fun x => h32 x.2.1]
      have d32 : ((c.size : Int) == 32) = false := by simp; omega
      clear h HC
      go_enter Tryd.func17, Tryd.ntmps17
      go_wp2_with (first | (go_at_call 47; (with_reducible refine (HK.out _).mono ?_); rintro r w' ⟨rfl, hw'⟩; obtain rfl := hw'.symm))
      go_ret
      exact ⟨rfl, Below.refl _ _⟩
  · have HK : Hid (∀ u, Calls Tryd.prog 47 #[.string key] u fun e w' => e = .returned (.bool false) ∧ w' = u) := fun u => keyM_no key u hk h
    rw [chainN_no fun x => h x.1]
    clear h HC
    go_enter Tryd.func17, Tryd.ntmps17
    go_wp2_with (first | (go_at_call 47; (with_reducible refine (HK.out _).mono ?_); rintro r w' ⟨rfl, hw'⟩; obtain rfl := hw'.symm))
    go_ret
    exact ⟨rfl, Below.refl _ _⟩
end Go.Proofs.YtcfekhahibklfaaDoor.lm

namespace Go.Proofs.YtcfekhahibklfaaDoor.lm
open Go.ChangeShapes Go.WideShapes Go.ChangeAt Go.RowKit
open Go.Proofs.YtcfekhahibklfaaDoor.wi (heap_lt calls_w wp_w)
open Go.Proofs.YtcfekhahibklfaaDoor.lg Go.Proofs.YtcfekhahibklfaaDoor.ss
open Go.Proofs.YtcfekhahibklfaaDoor.sh (macB macB_size macM_any)
set_option linter.unusedVariables false

theorem isM_any (n lo hi : Int) (w : World) : Calls Tryd.prog 56 #[.int .i64 n, .int .i64 lo, .int .i64 hi] w fun r w' => r = .returned (.bool (decide (lo ≤ n ∧ n ≤ hi))) ∧ w' = w := by
  by_cases h0 : lo ≤ n
  · have d : decide (lo ≤ n ∧ n ≤ hi) = decide (n ≤ hi) := decide_eq_decide.2 ⟨fun h => h.2, fun h => ⟨h0, h⟩⟩
    rw [d]
    clear d
    go_enter Tryd.func56, Tryd.ntmps56
    go_wp2
    go_ret
    exact ⟨rfl, rfl⟩
  · rw [decide_eq_false (fun h => h0 h.1)]
    go_enter Tryd.func56, Tryd.ntmps56
    go_wp2
    go_ret
    exact ⟨rfl, rfl⟩
end Go.Proofs.YtcfekhahibklfaaDoor.lm
