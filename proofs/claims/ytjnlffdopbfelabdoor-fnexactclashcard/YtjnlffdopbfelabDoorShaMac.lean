/-
  The program's Mac and Stretch at every argument: what the plain functions tell; no old block turns. Condition: the table of the rounds' numbers lies in its variable.
-/
import Derived.Test.YtjnlffdopbfelabDoorShaOne
import Derived.Test.YtjnlffdopbfelabDoorShaPad
namespace Go.Proofs.YtjnlffdopbfelabDoor.sh
open Go.ChangeShapes Go.WideShapes Go.ChangeAt Go.RowKit
set_option linter.unusedVariables false

/-- the key of a mac -/
def keyB (key : ByteArray) : ByteArray := if 64 < key.size then shaB key.data.toList else key
theorem keyB_size (key : ByteArray) : (keyB key).size ≤ 64 := by
  unfold keyB; split
  · rw [shaB_size]; omega
  · omega
def macB (key t : ByteArray) : ByteArray := shaB ((padS (keyB key).data.toList 92).data.toList ++ (shaB ((padS (keyB key).data.toList 54).data.toList ++ t.data.toList)).data.toList)
theorem macB_size (key t : ByteArray) : (macB key t).size = 32 := shaB_size _
/-- what Mac answers -/
def macA (key t : ByteArray) : ByteArray := if 8000 < key.size ∨ 8000 < t.size then ⟨#[]⟩ else macB key t
theorem macA_no {key t : ByteArray} (h : 8000 < key.size ∨ 8000 < t.size) : macA key t = ⟨#[]⟩ := if_pos h
theorem macA_yes {key t : ByteArray} (h : ¬ (8000 < key.size ∨ 8000 < t.size)) : macA key t = macB key t := if_neg h

set_option maxRecDepth 20000 in
set_option maxHeartbeats 4000000 in
theorem implMac_core (key t : ByteArray) (w : World) (hk : key.size ≤ 8000) (ht : t.size ≤ 8000) (hT : Tab w) :
    Calls Tryd.prog 31 #[.string key, .string t] w fun e w' => e = .returned (.string (macB key t)) ∧ Below w.heap.size w w' := by
  by_cases hlong : 64 < key.size
  · have HK : Hid (keyB key = shaB key.data.toList) := if_pos hlong
    have hks := keyB_size key
    have HM : Hid (macB key t = shaB ((padS (keyB key).data.toList 92).data.toList ++ (shaB ((padS (keyB key).data.toList 54).data.toList ++ t.data.toList)).data.toList)) := rfl
    have hz92 := padS_size (keyB key).data.toList 92
    have hz54 := padS_size (keyB key).data.toList 54
    go_enter Tryd.func31, Tryd.ntmps31
    go_wp2_with fail
    refine (digest1 key w (by omega) hT).mono ?_
    rw [← HK.out]
    rintro e w0 ⟨rfl, hC0⟩
    go_wp2_with fail
    refine (masked_any (keyB key) 92 _ w0 hks rfl).mono ?_
    rintro e w1 ⟨rfl, hB1⟩
    have hC1 := hC0.trans (hB1.mono hC0.size)
    clear hB1
    go_wp2_with fail
    refine (masked_any (keyB key) 54 _ w1 hks rfl).mono ?_
    rintro e w2 ⟨rfl, hB2⟩
    have hC2 := hC1.trans (hB2.mono hC1.size)
    clear hB2 hC1
    go_wp2_with fail
    refine (digest2 _ _ w2 (by omega) (hT.up hC2)).mono ?_
    rintro e w3 ⟨rfl, hB3⟩
    have hC3 := hC2.trans (hB3.mono hC2.size)
    clear hB3 hC2
    go_wp2_with fail
    refine (digest2 _ _ w3 (by rw [shaB_size]; omega) (hT.up hC3)).mono ?_
    rintro e w4 ⟨rfl, hB4⟩
    have hC4 := hC3.trans (hB4.mono hC3.size)
    go_wp2_with fail
    go_ret
    exact ⟨ret_str HM.out.symm, hC4⟩
  · have HM : Hid (macB key t = shaB ((padS key.data.toList 92).data.toList ++ (shaB ((padS key.data.toList 54).data.toList ++ t.data.toList)).data.toList)) := by
      show _ = _
      unfold macB; rw [show keyB key = key from if_neg hlong]
    have hks : key.size ≤ 64 := by omega
    have hz92 := padS_size key.data.toList 92
    have hz54 := padS_size key.data.toList 54
    have hC0 := Below.refl w.heap.size w
    go_enter Tryd.func31, Tryd.ntmps31
    go_wp2_with fail
    refine (masked_any key 92 _ w hks rfl).mono ?_
    rintro e w1 ⟨rfl, hB1⟩
    have hC1 := hC0.trans (hB1.mono hC0.size)
    clear hB1
    go_wp2_with fail
    refine (masked_any key 54 _ w1 hks rfl).mono ?_
    rintro e w2 ⟨rfl, hB2⟩
    have hC2 := hC1.trans (hB2.mono hC1.size)
    clear hB2 hC1
    go_wp2_with fail
    refine (digest2 _ _ w2 (by omega) (hT.up hC2)).mono ?_
    rintro e w3 ⟨rfl, hB3⟩
    have hC3 := hC2.trans (hB3.mono hC2.size)
    clear hB3 hC2
    go_wp2_with fail
    refine (digest2 _ _ w3 (by rw [shaB_size]; omega) (hT.up hC3)).mono ?_
    rintro e w4 ⟨rfl, hB4⟩
    have hC4 := hC3.trans (hB4.mono hC3.size)
    go_wp2_with fail
    go_ret
    exact ⟨ret_str HM.out.symm, hC4⟩

theorem implMac_any (key t : ByteArray) (w : World) (hk : key.size ≤ maxLen) (ht : t.size ≤ maxLen) (hT : Tab w) :
    Calls Tryd.prog 31 #[.string key, .string t] w fun e w' => e = .returned (.string (macA key t)) ∧ Below w.heap.size w w' := by
  unfold maxLen at hk ht
  by_cases hb : 8000 < key.size ∨ 8000 < t.size
  · rw [macA_no hb]
    by_cases h1 : 8000 < key.size
    · clear hb
      go_enter Tryd.func31, Tryd.ntmps31
      go_wp2
      go_ret
      exact ⟨rfl, Below.refl _ _⟩
    · have h2 : 8000 < t.size := by omega
      clear hb
      go_enter Tryd.func31, Tryd.ntmps31
      go_wp2
      go_ret
      exact ⟨rfl, Below.refl _ _⟩
  · rw [macA_yes hb]
    exact implMac_core key t w (by omega) (by omega) hT

end Go.Proofs.YtjnlffdopbfelabDoor.sh
