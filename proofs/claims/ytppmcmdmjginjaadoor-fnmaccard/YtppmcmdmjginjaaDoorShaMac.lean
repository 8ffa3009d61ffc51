/-
  The program's Mac and Stretch at every argument: what the plain functions tell; no old block turns. Condition: the table of the rounds' numbers lies in its variable.
-/
import Derived.Test.YtppmcmdmjginjaaDoorShaOne
import Derived.Test.YtppmcmdmjginjaaDoorShaPad
namespace Go.Proofs.YtppmcmdmjginjaaDoor.sh
open Go.ChangeShapes Go.WideShapes Go.ChangeAt Go.RowKit
set_option linter.unusedVariables false

/-- the key of a mac -/
def keyB (key : ByteArray) : ByteArray := if 64 < key.size then shaB key.data.toList else key
theorem keyB_size (key : ByteArray) : (keyB key).size ≤ 64 := by
  unfold keyB; split
  · rw [shaB_size]; omega
  · omega
def macB (key t : ByteArray) : ByteArray := shaB ((padS (keyB key).data.toList 92).data.toList ++ (shaB ((padS (keyB key).data.toList 54).data.toList ++ t.data.toList)).data.toList)
theorem macB_size (key t : ByteArray) : (macB key t).size = 32 := shaB_size _
/-- what Mac answers -/
def macA (key t : ByteArray) : ByteArray := if 8000 < key.size ∨ 8000 < t.size then ⟨#[]⟩ else macB key t
theorem macA_no {key t : ByteArray} (h : 8000 < key.size ∨ 8000 < t.size) : macA key t = ⟨#[]⟩ := if_pos h
theorem macA_yes {key t : ByteArray} (h : ¬ (8000 < key.size ∨ 8000 < t.size)) : macA key t = macB key t := if_neg h

set_option maxRecDepth 20000 in
set_option maxHeartbeats 4000000 in
theorem implMac_core (key t : ByteArray) (w : World) (hk : key.size ≤ 8000) (ht : t.size ≤ 8000) (hT : Tab w) :
    Calls Tryd.prog 16 #[.string key, .string t] w fun e w' => e = .returned (.string (macB key t)) ∧ Below w.heap.size w w' := by
  by_cases hlong : 64 < key.size
  · have HK : Hid (keyB key = shaB key.data.toList) := if_pos hlong
    have hks := keyB_size key
    have HM : Hid (macB key t = shaB ((padS (keyB key).data.toList 92).data.toList ++ (shaB ((padS (keyB key).data.toList 54).data.toList ++ t.data.toList)).data.toList)) := rfl
    have hz92 := padS_size (keyB key).data.toList 92
    have hz54 := padS_size (keyB key).data.toList 54
    go_enter Tryd.func16, Tryd.ntmps16
    go_wp2_with fail
    refine (digest1 key w (by omega) hT).mono ?_
    rw [← HK.out]
    rintro e w0 ⟨rfl, hC0⟩
    go_wp2_with fail
    refine (masked_any (keyB key) 92 _ w0 hks rfl).mono ?_
    rintro e w1 ⟨rfl, hB1⟩
    have hC1 := hC0.trans (hB1.mono hC0.size)
    clear hB1
    go_wp2_with fail
    refine (masked_any (keyB key) 54 _ w1 hks rfl).mono ?_
    rintro e w2 ⟨rfl, hB2⟩
    have hC2 := hC1.trans (hB2.mono hC1.size)
    clear hB2 hC1
    go_wp2_with fail
    refine (digest2 _ _ w2 (by omega) (hT.up hC2)).mono ?_
    rintro e w3 ⟨rfl, hB3⟩
    have hC3 := hC2.trans (hB3.mono hC2.size)
    clear hB3 hC2
    go_wp2_with fail
    refine (digest2 _ _ w3 (by rw [shaB_size]; omega) (hT.up hC3)).mono ?_
    rintro e w4 ⟨rfl, hB4⟩
    have hC4 := hC3.trans (hB4.mono hC3.size)
    go_wp2_with fail
    go_ret
    exact ⟨ret_str HM.out.symm, hC4⟩
  · have HM : Hid (macB key t = shaB ((padS key.data.toList 92).data.toList ++ (shaB ((padS key.data.toList 54).data.toList ++ t.data.toList)).data.toList)) := by
      show _ = _
      unfold macB; rw [show keyB key = key from if_neg hlong]
    have hks : key.size ≤ 64 := by omega
    have hz92 := padS_size key.data.toList 92
    have hz54 := padS_size key.data.toList 54
    have hC0 := Below.refl w.heap.size w
    go_enter Tryd.func16, Tryd.ntmps16
    go_wp2_with fail
    refine (masked_any key 92 _ w hks rfl).mono ?_
    rintro e w1 ⟨rfl, hB1⟩
    have hC1 := hC0.trans (hB1.mono hC0.size)
    clear hB1
    go_wp2_with fail
    refine (masked_any key 54 _ w1 hks rfl).mono ?_
    rintro e w2 ⟨rfl, hB2⟩
    have hC2 := hC1.trans (hB2.mono hC1.size)
    clear hB2 hC1
    go_wp2_with fail
    refine (digest2 _ _ w2 (by omega) (hT.up hC2)).mono ?_
    rintro e w3 ⟨rfl, hB3⟩
    have hC3 := hC2.trans (hB3.mono hC2.size)
    clear hB3 hC2
    go_wp2_with fail
    refine (digest2 _ _ w3 (by rw [shaB_size]; omega) (hT.up hC3)).mono ?_
    rintro e w4 ⟨rfl, hB4⟩
    have hC4 := hC3.trans (hB4.mono hC3.size)
    go_wp2_with fail
    go_ret
    exact ⟨ret_str HM.out.symm, hC4⟩

theorem implMac_any (key t : ByteArray) (w : World) (hk : key.size ≤ maxLen) (ht : t.size ≤ maxLen) (hT : Tab w) :
    Calls Tryd.prog 16 #[.string key, .string t] w fun e w' => e = .returned (.string (macA key t)) ∧ Below w.heap.size w w' := by
  unfold maxLen at hk ht
  by_cases hb : 8000 < key.size ∨ 8000 < t.size
  · rw [macA_no hb]
    by_cases h1 : 8000 < key.size
    · clear hb
      go_enter Tryd.func16, Tryd.ntmps16
      go_wp2
      go_ret
      exact ⟨rfl, Below.refl _ _⟩
    · have h2 : 8000 < t.size := by omega
      clear hb
      go_enter Tryd.func16, Tryd.ntmps16
      go_wp2
      go_ret
      exact ⟨rfl, Below.refl _ _⟩
  · rw [macA_yes hb]
    exact implMac_core key t w (by omega) (by omega) hT

def saltB : ByteArray := ⟨#[115, 97, 108, 116]⟩
/-- what a pass is behind n rounds -/
def strB (pass : ByteArray) : Nat → ByteArray
  | 0 => saltB
  | n + 1 => macB pass (strB pass n)
theorem strB_size (pass : ByteArray) (n : Nat) : (strB pass n).size ≤ 32 := by
  cases n with
  | zero => exact (show saltB.size ≤ 32 by decide)
  | succ n => exact Nat.le_of_eq (macB_size _ _)
def strA (pass : ByteArray) (n : Int) : ByteArray := if 8000 < pass.size ∨ n < 1 ∨ 100 < n then ⟨#[]⟩ else strB pass n.toNat
theorem strA_no {pass : ByteArray} {n : Int} (h : 8000 < pass.size ∨ n < 1 ∨ 100 < n) : strA pass n = ⟨#[]⟩ := if_pos h
theorem strA_yes {pass : ByteArray} {n : Int} (h : ¬ (8000 < pass.size ∨ n < 1 ∨ 100 < n)) : strA pass n = strB pass n.toNat := if_neg h
set_option maxHeartbeats 2000000 in
theorem implStretch_core (pass : ByteArray) (n : Nat) (w : World) (hk : pass.size ≤ 8000) (h0 : 1 ≤ n) (h1 : n ≤ 100) (hT : Tab w) :
    Calls Tryd.prog 20 #[.string pass, .int .i64 (n : Int)] w fun e w' => e = .returned (.string (strB pass n)) ∧ Below w.heap.size w w' := by
  go_enter Tryd.func20, Tryd.ntmps20
  go_wp2
  go_loopw [5, 18] (fun v i u => ∃ k : Nat, k ≤ n ∧ i = .int .i64 k ∧ v = .string (strB pass k) ∧ Below w.heap.size w u) (fun _ i _ => n - (intOf i).toNat)
  case atStart => exact ⟨0, by omega, rfl, rfl, Below.refl _ _⟩
  case round =>
    obtain ⟨k, hk', rfl, rfl, hB⟩ := hrel
    have hz := strB_size pass k
    by_cases hlt : k < n
    · go_wp2_with (go_at_call 16; refine (implMac_core pass (strB pass k) wr hk (by omega) (hT.up hB)).mono ?_; rintro e w2 ⟨rfl, hB2⟩; have hC2 := hB.trans (hB2.mono hB.size); clear hB2)
      go_roundw
      case rel => exact ⟨k + 1, by omega, by go_num, rfl, hC2⟩
      case measure => simp [intOf]; omega
    · obtain rfl : k = n := by omega
      go_wp2
      go_ret
      exact ⟨rfl, hB⟩
theorem implStretch_any (pass : ByteArray) (n : Int) (w : World) (hk : pass.size ≤ maxLen) (hT : Tab w) :
    Calls Tryd.prog 20 #[.string pass, .int .i64 n] w fun e w' => e = .returned (.string (strA pass n)) ∧ Below w.heap.size w w' := by
  unfold maxLen at hk
  by_cases hb : 8000 < pass.size ∨ n < 1 ∨ 100 < n
  · rw [strA_no hb]
    by_cases h1 : 8000 < pass.size
    · clear hb
      go_enter Tryd.func20, Tryd.ntmps20
      go_wp2
      go_ret
      exact ⟨rfl, Below.refl _ _⟩
    · by_cases h2 : n < 1
      · clear hb
        go_enter Tryd.func20, Tryd.ntmps20
        go_wp2
        go_ret
        exact ⟨rfl, Below.refl _ _⟩
      · have h3 : 100 < n := by omega
        clear hb
        go_enter Tryd.func20, Tryd.ntmps20
        go_wp2
        go_ret
        exact ⟨rfl, Below.refl _ _⟩
  · rw [strA_yes hb]
    obtain ⟨m, rfl⟩ : ∃ m : Nat, n = (m : Int) := ⟨n.toNat, by omega⟩
    exact implStretch_core pass m w (by omega) (by omega) (by omega) hT
end Go.Proofs.YtppmcmdmjginjaaDoor.sh
