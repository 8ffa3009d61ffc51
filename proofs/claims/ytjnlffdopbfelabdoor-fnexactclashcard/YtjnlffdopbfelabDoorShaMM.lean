/-
  The model's Mac and Stretch at every argument: what the plain functions tell; no old block turns.
-/
import Derived.Test.YtjnlffdopbfelabDoorShaAll
import Derived.Test.YtjnlffdopbfelabDoorShaMac
namespace Go.Proofs.YtjnlffdopbfelabDoor.sh
open Go.ChangeShapes Go.WideShapes Go.ChangeAt Go.RowKit
set_option linter.unusedVariables false

set_option maxRecDepth 20000 in
set_option maxHeartbeats 4000000 in
theorem macM_any (key t : ByteArray) (w : World) (hk : key.size ≤ 8000) (ht : t.size ≤ 8000) :
    Calls Tryd.prog 24 #[.string key, .string t] w fun e w' => e = .returned (.string (macB key t)) ∧ Below w.heap.size w w' := by
  by_cases hlong : 64 < key.size
  · have HK : Hid (keyB key = shaB key.data.toList) := if_pos hlong
    have hks := keyB_size key
    have HM : Hid (macB key t = shaB ((padS (keyB key).data.toList 92).data.toList ++ (shaB ((padS (keyB key).data.toList 54).data.toList ++ t.data.toList)).data.toList)) := rfl
    have hz92 := padS_size (keyB key).data.toList 92
    have hz54 := padS_size (keyB key).data.toList 54
    go_enter Tryd.func24, Tryd.ntmps24
    go_wp2_with fail
    refine (all_any key w (by omega)).mono ?_
    rw [← HK.out]
    rintro e w0 ⟨rfl, hC0⟩
    go_wp2_with fail
    refine (padM_any (keyB key) 92 _ w0 hks rfl).mono ?_
    rintro e w1 ⟨rfl, hB1⟩
    have hC1 := hC0.trans (hB1.mono hC0.size)
    clear hB1
    go_wp2_with fail
    refine (padM_any (keyB key) 54 _ w1 hks rfl).mono ?_
    rintro e w2 ⟨rfl, hB2⟩
    have hC2 := hC1.trans (hB2.mono hC1.size)
    clear hB2 hC1
    go_wp2_with fail
    refine (all_any (padS (keyB key).data.toList 54 ++ t) w2 (by simp only [ByteArray.size_append]; omega)).mono ?_
    rintro e w3 ⟨rfl, hB3⟩
    have hC3 := hC2.trans (hB3.mono hC2.size)
    clear hB3 hC2
    have hzi := shaB_size (padS (keyB key).data.toList 54 ++ t).data.toList
    generalize hI : shaB (padS (keyB key).data.toList 54 ++ t).data.toList = I at *
    have HI : Hid (shaB (padS (keyB key).data.toList 54 ++ t).data.toList = I) := hI
    clear hI
    go_wp2_with fail
    refine (all_any (padS (keyB key).data.toList 92 ++ I) w3 (by simp only [ByteArray.size_append]; omega)).mono ?_
    rintro e w4 ⟨rfl, hB4⟩
    have hC4 := hC3.trans (hB4.mono hC3.size)
    go_wp2_with fail
    go_ret
    refine ⟨ret_str ?_, hC4⟩
    rw [HM.out, ← HI.out]
    simp only [ByteArray.data_append, Array.toList_append]
  · have HM : Hid (macB key t = shaB ((padS key.data.toList 92).data.toList ++ (shaB ((padS key.data.toList 54).data.toList ++ t.data.toList)).data.toList)) := by
      show _ = _
      unfold macB; rw [show keyB key = key from if_neg hlong]
    have hks : key.size ≤ 64 := by omega
    have hz92 := padS_size key.data.toList 92
    have hz54 := padS_size key.data.toList 54
    have hC0 := Below.refl w.heap.size w
    go_enter Tryd.func24, Tryd.ntmps24
    go_wp2_with fail
    refine (padM_any key 92 _ w hks rfl).mono ?_
    rintro e w1 ⟨rfl, hB1⟩
    have hC1 := hC0.trans (hB1.mono hC0.size)
    clear hB1
    go_wp2_with fail
    refine (padM_any key 54 _ w1 hks rfl).mono ?_
    rintro e w2 ⟨rfl, hB2⟩
    have hC2 := hC1.trans (hB2.mono hC1.size)
    clear hB2 hC1
    go_wp2_with fail
    refine (all_any (padS key.data.toList 54 ++ t) w2 (by simp only [ByteArray.size_append]; omega)).mono ?_
    rintro e w3 ⟨rfl, hB3⟩
    have hC3 := hC2.trans (hB3.mono hC2.size)
    clear hB3 hC2
    have hzi := shaB_size (padS key.data.toList 54 ++ t).data.toList
    generalize hI : shaB (padS key.data.toList 54 ++ t).data.toList = I at *
    have HI : Hid (shaB (padS key.data.toList 54 ++ t).data.toList = I) := hI
    clear hI
    go_wp2_with fail
    refine (all_any (padS key.data.toList 92 ++ I) w3 (by simp only [ByteArray.size_append]; omega)).mono ?_
    rintro e w4 ⟨rfl, hB4⟩
    have hC4 := hC3.trans (hB4.mono hC3.size)
    go_wp2_with fail
    go_ret
    refine ⟨ret_str ?_, hC4⟩
    rw [HM.out, ← HI.out]
    simp only [ByteArray.data_append, Array.toList_append]
end Go.Proofs.YtjnlffdopbfelabDoor.sh
