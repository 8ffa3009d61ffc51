/-
  The program's Mac and Stretch at every argument: what the plain functions tell; no old block turns. Condition: the table of the rounds' numbers lies in its variable.
  The program's keyRight, recordRight, nextBy and its step, ChainStart: what the plain functions tell; no old block turns. Condition, where a mac is made: the table of the rounds' numbers lies in its variable.
-/
import Derived.Test.YtcfekhahibklfaaDoorMg10
import Derived.Test.YtcfekhahibklfaaDoorShaPad
import Derived.Test.YtcfekhahibklfaaDoorMg4
import Derived.Test.YtcfekhahibklfaaDoorLogS0
import Derived.Test.YtcfekhahibklfaaDoorJoin
namespace Go.Proofs.YtcfekhahibklfaaDoor.sh
open Go.ChangeShapes Go.WideShapes Go.ChangeAt Go.RowKit
set_option linter.unusedVariables false

/-- the key of a mac -/
def keyB (key : ByteArray) : ByteArray := if 64 < key.size then shaB key.data.toList else key
theorem keyB_size (key : ByteArray) : (keyB key).size ≤ 64 := by
  unfold keyB; split
  · rw [shaB_size]; omega
  · omega
def macB (key t : ByteArray) : ByteArray := shaB ((padS (keyB key).data.toList 92).data.toList ++ (shaB ((padS (keyB key).data.toList 54).data.toList ++ t.data.toList)).data.toList)
theorem macB_size (key t : ByteArray) : (macB key t).size = 32 := shaB_size _
/-- what Mac answers -/
def macA (key t : ByteArray) : ByteArray := if 8000 < key.size ∨ 8000 < t.size then ⟨#[]⟩ else macB key t
theorem macA_no {key t : ByteArray} (h : 8000 < key.size ∨ 8000 < t.size) : macA key t = ⟨#[]⟩ := if_pos h
theorem macA_yes {key t : ByteArray} (h : ¬ (8000 < key.size ∨ 8000 < t.size)) : macA key t = macB key t := if_neg h

set_option maxRecDepth 20000 in
set_option maxHeartbeats 4000000 in
theorem implMac_core (key t : ByteArray) (w : World) (hk : key.size ≤ 8000) (ht : t.size ≤ 8000) (hT : Tab w) :
    Calls Tryd.prog 30 #[.string key, .string t] w fun e w' => e = .returned (.string (macB key t)) ∧ Below w.heap.size w w' := by
  by_cases hlong : 64 < key.size
  · have HK : Hid (keyB key = shaB key.data.toList) := if_pos hlong
    have hks := keyB_size key
    have HM : Hid (macB key t = shaB ((padS (keyB key).data.toList 92).data.toList ++ (shaB ((padS (keyB key).data.toList 54).data.toList ++ t.data.toList)).data.toList)) := rfl
    have hz92 := padS_size (keyB key).data.toList 92
    have hz54 := padS_size (keyB key).data.toList 54
    go_enter Tryd.func30, Tryd.ntmps30
    go_wp2_with fail
    refine (digest1 key w (by omega) hT).mono ?_
    rw [← HK.out]
    rintro e w0 ⟨rfl, hC0⟩
    go_wp2_with fail
    refine (masked_any (keyB key) 92 _ w0 hks rfl).mono ?_
    rintro e w1 ⟨rfl, hB1⟩
    have hC1 := hC0.trans (hB1.mono hC0.size)
    clear hB1
    go_wp2_with fail
    refine (masked_any (keyB key) 54 _ w1 hks rfl).mono ?_
    rintro e w2 ⟨rfl, hB2⟩
    have hC2 := hC1.trans (hB2.mono hC1.size)
    clear hB2 hC1
    go_wp2_with fail
    refine (digest2 _ _ w2 (by omega) (hT.up hC2)).mono ?_
    rintro e w3 ⟨rfl, hB3⟩
    have hC3 := hC2.trans (hB3.mono hC2.size)
    clear hB3 hC2
    go_wp2_with fail
    refine (digest2 _ _ w3 (by rw [shaB_size]; omega) (hT.up hC3)).mono ?_
    rintro e w4 ⟨rfl, hB4⟩
    have hC4 := hC3.trans (hB4.mono hC3.size)
    go_wp2_with fail
    go_ret
    exact ⟨ret_str HM.out.symm, hC4⟩
  · have HM : Hid (macB key t = shaB ((padS key.data.toList 92).data.toList ++ (shaB ((padS key.data.toList 54).data.toList ++ t.data.toList)).data.toList)) := by
      show _ = _
      unfold macB; rw [show keyB key = key from if_neg hlong]
    have hks : key.size ≤ 64 := by omega
    have hz92 := padS_size key.data.toList 92
    have hz54 := padS_size key.data.toList 54
    have hC0 := Below.refl w.heap.size w
    go_enter Tryd.func30, Tryd.ntmps30
    go_wp2_with fail
    refine (masked_any key 92 _ w hks rfl).mono ?_
    rintro e w1 ⟨rfl, hB1⟩
    have hC1 := hC0.trans (hB1.mono hC0.size)
    clear hB1
    go_wp2_with fail
    refine (masked_any key 54 _ w1 hks rfl).mono ?_
    rintro e w2 ⟨rfl, hB2⟩
    have hC2 := hC1.trans (hB2.mono hC1.size)
    clear hB2 hC1
    go_wp2_with fail
    refine (digest2 _ _ w2 (by omega) (hT.up hC2)).mono ?_
    rintro e w3 ⟨rfl, hB3⟩
    have hC3 := hC2.trans (hB3.mono hC2.size)
    clear hB3 hC2
    go_wp2_with fail
    refine (digest2 _ _ w3 (by rw [shaB_size]; omega) (hT.up hC3)).mono ?_
    rintro e w4 ⟨rfl, hB4⟩
    have hC4 := hC3.trans (hB4.mono hC3.size)
    go_wp2_with fail
    go_ret
    exact ⟨ret_str HM.out.symm, hC4⟩

theorem implMac_any (key t : ByteArray) (w : World) (hk : key.size ≤ maxLen) (ht : t.size ≤ maxLen) (hT : Tab w) :
    Calls Tryd.prog 30 #[.string key, .string t] w fun e w' => e = .returned (.string (macA key t)) ∧ Below w.heap.size w w' := by
  unfold maxLen at hk ht
  by_cases hb : 8000 < key.size ∨ 8000 < t.size
  · rw [macA_no hb]
    by_cases h1 : 8000 < key.size
    · clear hb
      go_enter Tryd.func30, Tryd.ntmps30
      go_wp2
      go_ret
      exact ⟨rfl, Below.refl _ _⟩
    · have h2 : 8000 < t.size := by omega
      clear hb
      go_enter Tryd.func30, Tryd.ntmps30
      go_wp2
      go_ret
      exact ⟨rfl, Below.refl _ _⟩
  · rw [macA_yes hb]
    exact implMac_core key t w (by omega) (by omega) hT

end Go.Proofs.YtcfekhahibklfaaDoor.sh

namespace Go.Proofs.YtcfekhahibklfaaDoor.li
open Go.ChangeShapes Go.WideShapes Go.ChangeAt Go.RowKit
open Go.Proofs.YtcfekhahibklfaaDoor.wi (heap_lt calls_w wp_w)
open Go.Proofs.YtcfekhahibklfaaDoor.lg Go.Proofs.YtcfekhahibklfaaDoor.ss
open Go.Proofs.YtcfekhahibklfaaDoor.sh (macB macB_size macA macA_yes implMac_any Tab Tab.up)
open Go.Proofs.YtcfekhahibklfaaDoor.jo (joined_any joinB_two total_append total_one)
set_option linter.unusedVariables false

theorem keyI_yes (key : ByteArray) (w : World) (h : KeyL key) : Calls Tryd.prog 34 #[.string key] w fun e w' => e = .returned (.bool true) ∧ w' = w := by
  obtain ⟨h0, h1⟩ := h
  have d : decide ((key.size : Int) ≤ 64) = true := decide_eq_true (by omega)
  go_enter Tryd.func34, Tryd.ntmps34
  go_wp2
  go_ret
  exact ⟨rfl, rfl⟩
theorem keyI_no (key : ByteArray) (w : World) (hk : key.size ≤ maxLen) (h : ¬ KeyL key) : Calls Tryd.prog 34 #[.string key] w fun e w' => e = .returned (.bool false) ∧ w' = w := by
  unfold maxLen at hk
  unfold KeyL at h
  by_cases h0 : 1 ≤ key.size
  · have d : decide ((key.size : Int) ≤ 64) = false := decide_eq_false (by omega)
    go_enter Tryd.func34, Tryd.ntmps34
    go_wp2
    go_ret
    exact ⟨rfl, rfl⟩
  · go_enter Tryd.func34, Tryd.ntmps34
    go_wp2
    go_ret
    exact ⟨rfl, rfl⟩
theorem recI_any (r : ByteArray) (w : World) (hr : r.size ≤ maxLen) : Calls Tryd.prog 50 #[.string r] w fun e w' => e = .returned (.bool (decide (r.size ≤ 200))) ∧ w' = w := by
  unfold maxLen at hr
  have d : decide ((r.size : Int) ≤ 200) = decide (r.size ≤ 200) := decide_eq_decide.2 (by omega)
  go_enter Tryd.func50, Tryd.ntmps50
  go_wp2
  go_ret
  exact ⟨by rw [← d]; rfl, rfl⟩
/-- a text in a variable of its own -/
def boxT (key : ByteArray) : Obj := .cells #[.string key] 9
theorem nextBy_any (key : ByteArray) (w : World) : Calls Tryd.prog 51 #[.string key] w fun e w' => e = .returned (.func (.func 72) #[] #[.pointer (some ⟨w.heap.size, 0, none⟩)]) ∧ w' = w.alloc (boxT key) := by
  go_enter Tryd.func51, Tryd.ntmps51
  go_wp2
  go_ret
  exact ⟨rfl, rfl⟩
theorem joined2_drew (s t : ByteArray) (u : World) (h : s.size + t.size ≤ 1099511627776) :
    Calls Tryd.prog 39 #[.slice (some ⟨u.heap.size, 0, none⟩) 2 2] (u.alloc (.cells #[.string s, .string t] 9)).drew fun e w' => e = .returned (.string (s ++ t)) ∧ Below u.heap.size u w' := by
  refine (joined_any [s, t] u.heap.size 2 (u.alloc (.cells #[.string s, .string t] 9)).drew (by simp) (by simp) (by rw [show [s, t] = [s] ++ [t] from rfl, total_append, total_one, total_one]; omega) (fun i hi => ?_)).mono ?_
  · match i, hi with
    | 0, _ => simp
    | 1, _ => simp
  · rintro e w' ⟨rfl, hb⟩
    rw [joinB_two]
    exact ⟨rfl, ((Below.refl _ _).alloc (Nat.le_refl _) _).drew.trans (hb.mono (by simp))⟩
set_option maxHeartbeats 4000000 in
theorem step_any (key c r : ByteArray) (B : Nat) (w : World) (hk : key.size ≤ 8000) (hc : c.size + r.size ≤ 8000) (hT : Tab w) (hB : w.cell? ⟨B, 0, none⟩ = some (.string key)) :
    Calls Tryd.prog 72 #[.string c, .string r, .pointer (some ⟨B, 0, none⟩)] w fun e w' => e = .returned (.string (macB key (c ++ r))) ∧ Below w.heap.size w w' := by
  have HBl : Hid (B < w.heap.size) := World.block_lt_of_cell? w _ hB
  have HJ : Hid (∀ u, Calls Tryd.prog 39 #[.slice (some ⟨u.heap.size, 0, none⟩) 2 2] (u.alloc (.cells #[.string c, .string r] 9)).drew fun e w' => e = .returned (.string (c ++ r)) ∧ Below u.heap.size u w') := fun u => joined2_drew c r u (by omega)
  have HM : Hid (∀ u, Below w.heap.size w u → Calls Tryd.prog 30 #[.string key, .string (c ++ r)] u fun e w' => e = .returned (.string (macB key (c ++ r))) ∧ Below u.heap.size u w') := fun u hu => by
    have h := implMac_any key (c ++ r) u (by unfold maxLen; omega) (by rw [ByteArray.size_append]; unfold maxLen; omega) (hT.up hu)
    rwa [macA_yes (by rw [ByteArray.size_append]; omega)] at h
  obtain ⟨x, hx⟩ : ∃ x, x = c ++ r := ⟨_, rfl⟩
  rw [← hx] at HJ HM ⊢
  obtain ⟨y, hy⟩ : ∃ y, y = macB key x := ⟨_, rfl⟩
  rw [← hy] at HM ⊢
  clear hy hx hT
  go_enter Tryd.func72, Tryd.ntmps72
  go_wp2_with fail
  have hB' : w.drew.cell? ⟨B, 0, none⟩ = some (.string key) := hB
  have hB3 : (w.alloc (.cells #[.string c, .string r] 9)).drew.cell? ⟨B, 0, none⟩ = some (.string key) := (((Below.refl w.heap.size w).alloc (Nat.le_refl _) _).cell (p := ⟨B, 0, none⟩) HBl.out).trans hB
  have hne : ¬ B = w.heap.size := by have := HBl.out; omega
  go_region_with (first | (go_at_call 39; (with_reducible refine (HJ.out _).mono ?_); rintro e u1 ⟨rfl, hb2⟩; have hB2 : u1.cell? ⟨B, 0, none⟩ = some (.string key) := (hb2.cell (p := ⟨B, 0, none⟩) HBl.out).trans hB) | (go_at_call 30; (with_reducible refine (HM.out _ hb2).mono ?_); rintro e u2 ⟨rfl, hb3⟩; have hb4 := hb2.trans (hb3.mono hb2.size)))
  all_goals
    go_wp2_with fail
    go_ret
    exact ⟨rfl, hb4⟩
set_option maxHeartbeats 4000000 in
theorem startI_any (key : ByteArray) (w : World) (hk : key.size ≤ maxLen) (hT : Tab w) :
    Calls Tryd.prog 18 #[.string key] w fun r w' => r = .returned (.string (chainS macB key)) ∧ Below w.heap.size w w' := by
  by_cases h : KeyL key
  · have HK : Hid (∀ u, Calls Tryd.prog 34 #[.string key] u fun e w' => e = .returned (.bool true) ∧ w' = u) := fun u => keyI_yes key u h
    have HM : Hid (Calls Tryd.prog 30 #[.string key, .string ⟨#[108, 111, 103]⟩] w fun e w' => e = .returned (.string (macB key logW)) ∧ Below w.heap.size w w') := by
      have h2 := implMac_any key logW w hk (by decide) hT
      rwa [macA_yes (by have := h.2; have := logW_size; omega)] at h2
    rw [chainS_yes h]
    obtain ⟨x, hx⟩ : ∃ x, x = macB key logW := ⟨_, rfl⟩
    rw [← hx] at HM ⊢
    clear hx h hT
    go_enter Tryd.func18, Tryd.ntmps18
    go_wp2_with (first | (go_at_call 34; (with_reducible refine (HK.out _).mono ?_); rintro r w' ⟨rfl, hw'⟩; obtain rfl := hw'.symm) | (go_at_call 30; (refine (HM.out).mono ?_); rintro r w' ⟨rfl, hb⟩))
    go_ret
    exact ⟨rfl, hb⟩
  · have HK : Hid (∀ u, Calls Tryd.prog 34 #[.string key] u fun e w' => e = .returned (.bool false) ∧ w' = u) := fun u => keyI_no key u hk h
    rw [chainS_no h]
    clear h hT
    go_enter Tryd.func18, Tryd.ntmps18
    go_wp2_with (go_at_call 34; (with_reducible refine (HK.out _).mono ?_); rintro r w' ⟨rfl, hw'⟩; obtain rfl := hw'.symm)
    go_ret
    exact ⟨rfl, Below.refl _ _⟩
end Go.Proofs.YtcfekhahibklfaaDoor.li
