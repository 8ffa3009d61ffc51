/-
  Texts that are plain, numbers between two others, at every argument: the program's isPrinted, allRunes, within, the model's l03Is, l06Plain tell what the plain conditions tell. No condition.
-/
import Derived.Test.YtndjjhcdnlkekaaDoorGl0
import Derived.Laws.RangeAny
import Derived.Laws.RangeString
import Derived.FnLit
import Derived.LoopTactic
namespace Go.Proofs.YtndjjhcdnlkekaaDoor.gb
open Go.ChangeShapes Go.WideShapes Go.ChangeAt Go.RowKit
open Go.Proofs.YtndjjhcdnlkekaaDoor.sc (prn AllB AllB.not ret_b d_true d_false)
open Classical
set_option linter.unusedVariables false

theorem width_pos (s : ByteArray) (pos : Nat) (h : pos < s.size) : 1 ≤ (Utf8.decode s pos).2 := by
  by_cases ha : (s[pos]'h).toNat < 128
  · rw [decode_ascii s pos h ha]
    exact Nat.le_refl _
  · exact (decode_high s pos h (by omega)).2
/-- a rune that passes is a byte that passes -/
theorem rune_pass {p : Nat → Prop} (hp : ∀ b, p b → b < 128) (s : ByteArray) (pos : Nat) (h : pos < s.size) : p (Utf8.decode s pos).1 ↔ p (s[pos]'h).toNat := by
  by_cases ha : (s[pos]'h).toNat < 128
  · rw [decode_ascii s pos h ha]
  · have h1 := (decode_high s pos h (by omega)).1
    exact ⟨fun h => by have := hp _ h; omega, fun h => by have := hp _ h; omega⟩
theorem rune_width {p : Nat → Prop} (hp : ∀ b, p b → b < 128) (s : ByteArray) (pos : Nat) (h : pos < s.size) (hq : p (s[pos]'h).toNat) : (Utf8.decode s pos).2 = 1 := by
  rw [decode_ascii s pos h (hp _ hq)]
theorem prn_lt : ∀ b, prn b → b < 128 := fun b h => by have := h.2; omega
theorem below_iter {w : World} (s : ByteArray) (pos : Nat) : Below w.heap.size w (w.iter s pos) := (Below.refl _ _).alloc (Nat.le_refl _) _

theorem isPrinted_any (r : Nat) (w : World) (hr : r ≤ 2147483647) :
    Calls Tryd.prog 56 #[.int .i32 (r : Int)] w fun e w' => e = .returned (.bool (decide (prn r))) ∧ w' = w := by
  by_cases h1 : 32 ≤ r
  · by_cases h2 : r ≤ 126
    · rw [decide_eq_true (show prn r from ⟨h1, h2⟩)]
      go_enter Tryd.func56, Tryd.ntmps56
      go_wp2
      go_ret
      exact ⟨ret_b (by first | (simp; done) | (simp; omega)), rfl⟩
    · rw [decide_eq_false (fun h : prn r => h2 h.2)]
      go_enter Tryd.func56, Tryd.ntmps56
      go_wp2
      go_ret
      exact ⟨ret_b (by first | (simp; done) | (simp; omega)), rfl⟩
  · rw [decide_eq_false (fun h : prn r => h1 h.1)]
    go_enter Tryd.func56, Tryd.ntmps56
    go_wp2
    go_ret
    exact ⟨ret_b (by first | (simp; done) | (simp; omega)), rfl⟩
set_option maxHeartbeats 2000000 in
theorem all_prn (s : ByteArray) (w : World) :
    Calls Tryd.prog 55 #[.string s, .func (.func 56) #[] #[]] w fun e w' => e = .returned (.bool (decide (AllB prn s))) ∧ Below w.heap.size w w' := by
  have HBI : Hid (∀ pos, Below w.heap.size w (w.iter s pos)) := fun pos => below_iter s pos
  go_enter Tryd.func55, Tryd.ntmps55
  go_wp2
  go_loopw [] (fun w' => ∃ pos : Nat, w' = w.iter s pos ∧ pos ≤ s.size ∧ ∀ j, j < pos → ∀ h : j < s.size, prn (s[j]'h).toNat) (fun w' => s.size - w'.iterPos w.heap.size)
  case atStart => exact ⟨0, rfl, Nat.zero_le _, fun j hj => by omega⟩
  case round =>
    obtain ⟨pos, rfl, hle, hall⟩ := hrel
    by_cases hp : pos < s.size
    · have hnx : ∀ ty, (Instr.next (.pointer (some ⟨w.heap.size, 0, none⟩)) true ty).run Tryd.prog (w.iter s pos) = _ := fun ty => run_next_any w s pos ty hp
      have hpass := rune_pass prn_lt s pos hp
      have hwid := rune_width prn_lt s pos hp
      have hd := decode_le s pos
      by_cases hq : prn (s[pos]'hp).toNat
      · have hw1 := hwid hq
        have hr1 := hpass.2 hq
        have HN : Hid (∀ j, j < pos + 1 → ∀ h : j < s.size, prn (s[j]'h).toNat) := fun j hj hj' => by
          by_cases e : j = pos
          · subst e; exact hq
          · exact hall j (by omega) hj'
        rw [hw1] at hnx
        have hc := isPrinted_any (Utf8.decode s pos).1 (w.iter s (pos + 1)) hd
        rw [decide_eq_true hr1] at hc
        generalize (Utf8.decode s pos).1 = r at hnx hc
        clear hall hpass hwid hd hw1 hr1 hq
        go_wp2_with (go_at_call 56; refine hc.mono ?_; rintro e w2 ⟨rfl, hw2⟩; obtain rfl := hw2.symm)
        go_roundw
        case rel => exact ⟨pos + 1, rfl, by omega, HN.out⟩
        case measure => simp; omega
      · have hr1 : ¬ prn (Utf8.decode s pos).1 := fun h => hq (hpass.1 h)
        have HR : Hid (decide (AllB prn s) = false) := decide_eq_false (AllB.not hp hq)
        have hc := isPrinted_any (Utf8.decode s pos).1 (w.iter s (pos + (Utf8.decode s pos).2)) hd
        rw [decide_eq_false hr1] at hc
        generalize (Utf8.decode s pos).1 = r at hnx hc
        generalize pos + (Utf8.decode s pos).2 = q at hnx hc
        clear hall hpass hwid hd hr1 hq
        go_wp2_with (go_at_call 56; refine hc.mono ?_; rintro e w2 ⟨rfl, hw2⟩; obtain rfl := hw2.symm)
        go_ret
        exact ⟨ret_b HR.out.symm, HBI.out _⟩
    · have hnx : ∀ ty, (Instr.next (.pointer (some ⟨w.heap.size, 0, none⟩)) true ty).run Tryd.prog (w.iter s pos) = _ := fun ty => run_next_end w s pos ty hp
      have HR : Hid (decide (AllB prn s) = true) := decide_eq_true fun j h => hall j (by omega) h
      clear hall
      go_wp2
      go_ret
      exact ⟨ret_b HR.out.symm, HBI.out _⟩

set_option maxHeartbeats 2000000 in
theorem plainM_any (s : ByteArray) (w : World) (hs : s.size ≤ maxLen) :
    Calls Tryd.prog 50 #[.string s] w fun e w' => e = .returned (.bool (decide (AllB prn s))) ∧ w' = w := by
  unfold maxLen at hs
  go_enter Tryd.func50, Tryd.ntmps50
  go_wp2
  go_loop [3] (fun i => ∃ k : Nat, k ≤ s.size ∧ i = .int .i64 k ∧ Hid (∀ j, j < k → ∀ h : j < s.size, prn (s[j]'h).toNat)) (fun i => s.size - (intOf i).toNat)
  case atStart => exact ⟨0, Nat.zero_le _, rfl, fun j hj => by omega⟩
  case round =>
    obtain ⟨k, hk, rfl, hall⟩ := hrel
    by_cases hlt : k < s.size
    · by_cases hq : prn (s[k]'hlt).toNat
      · have HN : Hid (∀ j, j < k + 1 → ∀ h : j < s.size, prn (s[j]'h).toNat) := fun j hj hj' => by
          by_cases e : j = k
          · subst e; exact hq
          · exact hall.out j (by omega) hj'
        have h1 : ¬ ((s[k]'hlt).toNat : Int) < 32 := by have := hq.1; omega
        have h2 : ((s[k]'hlt).toNat : Int) ≤ 126 := by have := hq.2; omega
        clear hall hq
        go_wp2
        go_round
        case rel => exact ⟨k + 1, by omega, by go_num, HN⟩
        case measure => simp [intOf]; omega
      · have HR : Hid (decide (AllB prn s) = false) := decide_eq_false (AllB.not hlt hq)
        rcases (show ((s[k]'hlt).toNat : Int) < 32 ∨ 126 < ((s[k]'hlt).toNat : Int) by unfold prn at hq; omega) with hl | hl
        · clear hall hq
          go_wp2
          go_ret
          exact ⟨ret_b HR.out.symm, rfl⟩
        · have h1 : ¬ ((s[k]'hlt).toNat : Int) < 32 := by omega
          clear hall hq
          go_wp2
          go_ret
          exact ⟨ret_b HR.out.symm, rfl⟩
    · have HR : Hid (decide (AllB prn s) = true) := decide_eq_true fun j h => hall.out j (by omega) h
      clear hall
      go_wp2
      go_ret
      exact ⟨ret_b HR.out.symm, rfl⟩
theorem is_any (n lo hi : Int) (w : World) : Calls Tryd.prog 30 #[.int .i64 n, .int .i64 lo, .int .i64 hi] w fun e w' => e = .returned (.bool (decide (lo ≤ n ∧ n ≤ hi))) ∧ w' = w := by
  by_cases h1 : lo ≤ n
  · by_cases h2 : n ≤ hi
    · rw [decide_eq_true ⟨h1, h2⟩]
      go_enter Tryd.func30, Tryd.ntmps30
      go_wp2
      go_ret
      exact ⟨rfl, rfl⟩
    · rw [decide_eq_false (fun h => h2 h.2)]
      go_enter Tryd.func30, Tryd.ntmps30
      go_wp2
      go_ret
      exact ⟨rfl, rfl⟩
  · rw [decide_eq_false (fun h => h1 h.1)]
    go_enter Tryd.func30, Tryd.ntmps30
    go_wp2
    go_ret
    exact ⟨rfl, rfl⟩
theorem within_any (n lo hi : Int) (w : World) : Calls Tryd.prog 54 #[.int .i64 n, .int .i64 lo, .int .i64 hi] w fun e w' => e = .returned (.bool (decide (lo ≤ n ∧ n ≤ hi))) ∧ w' = w := by
  by_cases h1 : lo ≤ n
  · by_cases h2 : n ≤ hi
    · rw [decide_eq_true ⟨h1, h2⟩]
      go_enter Tryd.func54, Tryd.ntmps54
      go_wp2
      go_ret
      exact ⟨rfl, rfl⟩
    · rw [decide_eq_false (fun h => h2 h.2)]
      go_enter Tryd.func54, Tryd.ntmps54
      go_wp2
      go_ret
      exact ⟨rfl, rfl⟩
  · rw [decide_eq_false (fun h => h1 h.1)]
    go_enter Tryd.func54, Tryd.ntmps54
    go_wp2
    go_ret
    exact ⟨rfl, rfl⟩
end Go.Proofs.YtndjjhcdnlkekaaDoor.gb
