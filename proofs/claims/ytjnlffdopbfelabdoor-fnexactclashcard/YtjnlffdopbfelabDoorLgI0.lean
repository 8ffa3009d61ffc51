/-
  The program's keyRight, recordRight, nextBy and its step, ChainStart: what the plain functions tell; no old block turns. Condition, where a mac is made: the table of the rounds' numbers lies in its variable.
-/
import Derived.Test.YtjnlffdopbfelabDoorLogC
import Derived.Test.YtjnlffdopbfelabDoorLogS0
import Derived.Test.YtjnlffdopbfelabDoorShaMac
import Derived.Test.YtjnlffdopbfelabDoorJoin
namespace Go.Proofs.YtjnlffdopbfelabDoor.li
open Go.ChangeShapes Go.WideShapes Go.ChangeAt Go.RowKit
open Go.Proofs.YtjnlffdopbfelabDoor.wi (heap_lt calls_w wp_w)
open Go.Proofs.YtjnlffdopbfelabDoor.lg Go.Proofs.YtjnlffdopbfelabDoor.ss
open Go.Proofs.YtjnlffdopbfelabDoor.sh (macB macB_size macA macA_yes implMac_any Tab Tab.up)
open Go.Proofs.YtjnlffdopbfelabDoor.jo (joined_any joinB_two total_append total_one)
set_option linter.unusedVariables false

theorem keyI_yes (key : ByteArray) (w : World) (h : KeyL key) : Calls Tryd.prog 15 #[.string key] w fun e w' => e = .returned (.bool true) ∧ w' = w := by
  obtain ⟨h0, h1⟩ := h
  have d : decide ((key.size : Int) ≤ 64) = true := decide_eq_true (by omega)
  go_enter Tryd.func15, Tryd.ntmps15
  go_wp2
  go_ret
  exact ⟨rfl, rfl⟩
theorem keyI_no (key : ByteArray) (w : World) (hk : key.size ≤ maxLen) (h : ¬ KeyL key) : Calls Tryd.prog 15 #[.string key] w fun e w' => e = .returned (.bool false) ∧ w' = w := by
  unfold maxLen at hk
  unfold KeyL at h
  by_cases h0 : 1 ≤ key.size
  · have d : decide ((key.size : Int) ≤ 64) = false := decide_eq_false (by omega)
    go_enter Tryd.func15, Tryd.ntmps15
    go_wp2
    go_ret
    exact ⟨rfl, rfl⟩
  · go_enter Tryd.func15, Tryd.ntmps15
    go_wp2
    go_ret
    exact ⟨rfl, rfl⟩
theorem recI_any (r : ByteArray) (w : World) (hr : r.size ≤ maxLen) : Calls Tryd.prog 25 #[.string r] w fun e w' => e = .returned (.bool (decide (r.size ≤ 200))) ∧ w' = w := by
  unfold maxLen at hr
  have d : decide ((r.size : Int) ≤ 200) = decide (r.size ≤ 200) := decide_eq_decide.2 (by omega)
  go_enter Tryd.func25, Tryd.ntmps25
  go_wp2
  go_ret
  exact ⟨by rw [← d]; rfl, rfl⟩
/-- a text in a variable of its own -/
def boxT (key : ByteArray) : Obj := .cells #[.string key] 9
theorem nextBy_any (key : ByteArray) (w : World) : Calls Tryd.prog 33 #[.string key] w fun e w' => e = .returned (.func (.func 39) #[] #[.pointer (some ⟨w.heap.size, 0, none⟩)]) ∧ w' = w.alloc (boxT key) := by
  go_enter Tryd.func33, Tryd.ntmps33
  go_wp2
  go_ret
  exact ⟨rfl, rfl⟩
theorem joined2_drew (s t : ByteArray) (u : World) (h : s.size + t.size ≤ 1099511627776) :
    Calls Tryd.prog 34 #[.slice (some ⟨u.heap.size, 0, none⟩) 2 2] (u.alloc (.cells #[.string s, .string t] 9)).drew fun e w' => e = .returned (.string (s ++ t)) ∧ Below u.heap.size u w' := by
  refine (joined_any [s, t] u.heap.size 2 (u.alloc (.cells #[.string s, .string t] 9)).drew (by simp) (by simp) (by rw [show [s, t] = [s] ++ [t] from rfl, total_append, total_one, total_one]; omega) (fun i hi => ?_)).mono ?_
  · match i, hi with
    | 0, _ => simp
    | 1, _ => simp
  · rintro e w' ⟨rfl, hb⟩
    rw [joinB_two]
    exact ⟨rfl, ((Below.refl _ _).alloc (Nat.le_refl _) _).drew.trans (hb.mono (by simp))⟩
set_option maxHeartbeats 4000000 in
theorem step_any (key c r : ByteArray) (B : Nat) (w : World) (hk : key.size ≤ 8000) (hc : c.size + r.size ≤ 8000) (hT : Tab w) (hB : w.cell? ⟨B, 0, none⟩ = some (.string key)) :
    Calls Tryd.prog 39 #[.string c, .string r, .pointer (some ⟨B, 0, none⟩)] w fun e w' => e = .returned (.string (macB key (c ++ r))) ∧ Below w.heap.size w w' := by
  have HBl : Hid (B < w.heap.size) := World.block_lt_of_cell? w _ hB
  have HJ : Hid (∀ u, Calls Tryd.prog 34 #[.slice (some ⟨u.heap.size, 0, none⟩) 2 2] (u.alloc (.cells #[.string c, .string r] 9)).drew fun e w' => e = .returned (.string (c ++ r)) ∧ Below u.heap.size u w') := fun u => joined2_drew c r u (by omega)
  have HM : Hid (∀ u, Below w.heap.size w u → Calls Tryd.prog 31 #[.string key, .string (c ++ r)] u fun e w' => e = .returned (.string (macB key (c ++ r))) ∧ Below u.heap.size u w') := fun u hu => by
    have h := implMac_any key (c ++ r) u (by unfold maxLen; omega) (by rw [ByteArray.size_append]; unfold maxLen; omega) (hT.up hu)
    rwa [macA_yes (by rw [ByteArray.size_append]; omega)] at h
  obtain ⟨x, hx⟩ : ∃ x, x = c ++ r := ⟨_, rfl⟩
  rw [← hx] at HJ HM ⊢
  obtain ⟨y, hy⟩ : ∃ y, y = macB key x := ⟨_, rfl⟩
  rw [← hy] at HM ⊢
  clear hy hx hT
  go_enter Tryd.func39, Tryd.ntmps39
  go_wp2_with fail
  have hB' : w.drew.cell? ⟨B, 0, none⟩ = some (.string key) := hB
  have hB3 : (w.alloc (.cells #[.string c, .string r] 9)).drew.cell? ⟨B, 0, none⟩ = some (.string key) := (((Below.refl w.heap.size w).alloc (Nat.le_refl _) _).cell (p := ⟨B, 0, none⟩) HBl.out).trans hB
  have hne : ¬ B = w.heap.size := by have := HBl.out; omega
  go_region_with (first | (go_at_call 34; (with_reducible refine (HJ.out _).mono ?_); rintro e u1 ⟨rfl, hb2⟩; have hB2 : u1.cell? ⟨B, 0, none⟩ = some (.string key) := (hb2.cell (p := ⟨B, 0, none⟩) HBl.out).trans hB) | (go_at_call 31; (with_reducible refine (HM.out _ hb2).mono ?_); rintro e u2 ⟨rfl, hb3⟩; have hb4 := hb2.trans (hb3.mono hb2.size)))
  all_goals
    go_wp2_with fail
    go_ret
    exact ⟨rfl, hb4⟩
set_option maxHeartbeats 4000000 in
theorem startI_any (key : ByteArray) (w : World) (hk : key.size ≤ maxLen) (hT : Tab w) :
    Calls Tryd.prog 26 #[.string key] w fun r w' => r = .returned (.string (chainS macB key)) ∧ Below w.heap.size w w' := by
  by_cases h : KeyL key
  · have HK : Hid (∀ u, Calls Tryd.prog 15 #[.string key] u fun e w' => e = .returned (.bool true) ∧ w' = u) := fun u => keyI_yes key u h
    have HM : Hid (Calls Tryd.prog 31 #[.string key, .string ⟨#[108, 111, 103]⟩] w fun e w' => e = .returned (.string (macB key logW)) ∧ Below w.heap.size w w') := by
      have h2 := implMac_any key logW w hk (by decide) hT
      rwa [macA_yes (by have := h.2; have := logW_size; omega)] at h2
    rw [chainS_yes h]
    obtain ⟨x, hx⟩ : ∃ x, x = macB key logW := ⟨_, rfl⟩
    rw [← hx] at HM ⊢
    clear hx h hT
    go_enter Tryd.func26, Tryd.ntmps26
    go_wp2_with (first | (go_at_call 15; (with_reducible refine (HK.out _).mono ?_); rintro r w' ⟨rfl, hw'⟩; obtain rfl := hw'.symm) | (go_at_call 31; (refine (HM.out).mono ?_); rintro r w' ⟨rfl, hb⟩))
    go_ret
    exact ⟨rfl, hb⟩
  · have HK : Hid (∀ u, Calls Tryd.prog 15 #[.string key] u fun e w' => e = .returned (.bool false) ∧ w' = u) := fun u => keyI_no key u hk h
    rw [chainS_no h]
    clear h hT
    go_enter Tryd.func26, Tryd.ntmps26
    go_wp2_with (go_at_call 15; (with_reducible refine (HK.out _).mono ?_); rintro r w' ⟨rfl, hw'⟩; obtain rfl := hw'.symm)
    go_ret
    exact ⟨rfl, Below.refl _ _⟩
end Go.Proofs.YtjnlffdopbfelabDoor.li
