/-
  The program's isPrinted, isNumberPart, allRunes at every text: they tell what the plain conditions tell; no old block turns. No condition.
-/
import Derived.Test.YtikkohecanmefaaSc0
import Derived.Laws.RangeAny
import Derived.Laws.RangeString
import Derived.FnLit
import Derived.LoopTactic
namespace Go.Proofs.Ytikkohecanmefaa.sc
open Go.ChangeShapes Go.WideShapes Go.ChangeAt Go.RowKit
open Classical
set_option linter.unusedVariables false

theorem width_pos (s : ByteArray) (pos : Nat) (h : pos < s.size) : 1 ≤ (Utf8.decode s pos).2 := by
  by_cases ha : (s[pos]'h).toNat < 128
  · rw [decode_ascii s pos h ha]
    exact Nat.le_refl _
  · exact (decode_high s pos h (by omega)).2
/-- a rune that passes is a byte that passes -/
theorem rune_pass {p : Nat → Prop} (hp : ∀ b, p b → b < 128) (s : ByteArray) (pos : Nat) (h : pos < s.size) : p (Utf8.decode s pos).1 ↔ p (s[pos]'h).toNat := by
  by_cases ha : (s[pos]'h).toNat < 128
  · rw [decode_ascii s pos h ha]
  · have h1 := (decode_high s pos h (by omega)).1
    exact ⟨fun h => by have := hp _ h; omega, fun h => by have := hp _ h; omega⟩
theorem rune_width {p : Nat → Prop} (hp : ∀ b, p b → b < 128) (s : ByteArray) (pos : Nat) (h : pos < s.size) (hq : p (s[pos]'h).toNat) : (Utf8.decode s pos).2 = 1 := by
  rw [decode_ascii s pos h (hp _ hq)]
theorem prn_lt : ∀ b, prn b → b < 128 := fun b h => by have := h.2; omega
theorem par_lt : ∀ b, par b → b < 128 := fun b h => by rcases h with h | h <;> omega
theorem below_iter {w : World} (s : ByteArray) (pos : Nat) : Below w.heap.size w (w.iter s pos) := (Below.refl _ _).alloc (Nat.le_refl _) _

theorem isPrinted_any (r : Nat) (w : World) (hr : r ≤ 2147483647) :
    Calls Try.prog 39 #[.int .i32 (r : Int)] w fun e w' => e = .returned (.bool (decide (prn r))) ∧ w' = w := by
  by_cases h1 : 32 ≤ r
  · by_cases h2 : r ≤ 126
    · rw [decide_eq_true (show prn r from ⟨h1, h2⟩)]
      go_enter Try.func39, Try.ntmps39
      go_wp2
      go_ret
      exact ⟨ret_b (by first | (simp; done) | (simp; omega)), rfl⟩
    · rw [decide_eq_false (fun h : prn r => h2 h.2)]
      go_enter Try.func39, Try.ntmps39
      go_wp2
      go_ret
      exact ⟨ret_b (by first | (simp; done) | (simp; omega)), rfl⟩
  · rw [decide_eq_false (fun h : prn r => h1 h.1)]
    go_enter Try.func39, Try.ntmps39
    go_wp2
    go_ret
    exact ⟨ret_b (by first | (simp; done) | (simp; omega)), rfl⟩
theorem isNumberPart_any (r : Nat) (w : World) (hr : r ≤ 2147483647) :
    Calls Try.prog 61 #[.int .i32 (r : Int)] w fun e w' => e = .returned (.bool (decide (par r))) ∧ w' = w := by
  rcases (show r < 48 ∨ (48 ≤ r ∧ r ≤ 57) ∨ (57 < r ∧ r < 59) ∨ r = 59 ∨ 59 < r by omega) with h | h | h | h | h
  · rw [decide_eq_false (fun h' : par r => by rcases h' with h' | h' <;> omega)]
    go_enter Try.func61, Try.ntmps61
    go_wp2
    go_ret
    exact ⟨ret_b (by first | (simp; done) | (simp; omega)), rfl⟩
  · rw [decide_eq_true (show par r from .inl h)]
    go_enter Try.func61, Try.ntmps61
    go_wp2
    go_ret
    exact ⟨ret_b (by first | (simp; done) | (simp; omega)), rfl⟩
  · rw [decide_eq_false (fun h' : par r => by rcases h' with h' | h' <;> omega)]
    go_enter Try.func61, Try.ntmps61
    go_wp2
    go_ret
    exact ⟨ret_b (by first | (simp; done) | (simp; omega)), rfl⟩
  · rw [decide_eq_true (show par r from .inr h)]
    go_enter Try.func61, Try.ntmps61
    go_wp2
    go_ret
    exact ⟨ret_b (by first | (simp; done) | (simp; omega)), rfl⟩
  · rw [decide_eq_false (fun h' : par r => by rcases h' with h' | h' <;> omega)]
    go_enter Try.func61, Try.ntmps61
    go_wp2
    go_ret
    exact ⟨ret_b (by first | (simp; done) | (simp; omega)), rfl⟩

set_option maxHeartbeats 2000000 in
theorem all_prn (s : ByteArray) (w : World) :
    Calls Try.prog 38 #[.string s, .func (.func 39) #[] #[]] w fun e w' => e = .returned (.bool (decide (AllB prn s))) ∧ Below w.heap.size w w' := by
  have HBI : Hid (∀ pos, Below w.heap.size w (w.iter s pos)) := fun pos => below_iter s pos
  go_enter Try.func38, Try.ntmps38
  go_wp2
  go_loopw [] (fun w' => ∃ pos : Nat, w' = w.iter s pos ∧ pos ≤ s.size ∧ ∀ j, j < pos → ∀ h : j < s.size, prn (s[j]'h).toNat) (fun w' => s.size - w'.iterPos w.heap.size)
  case atStart => exact ⟨0, rfl, Nat.zero_le _, fun j hj => by omega⟩
  case round =>
    obtain ⟨pos, rfl, hle, hall⟩ := hrel
    by_cases hp : pos < s.size
    · have hnx : ∀ ty, (Instr.next (.pointer (some ⟨w.heap.size, 0, none⟩)) true ty).run Try.prog (w.iter s pos) = _ := fun ty => run_next_any w s pos ty hp
      have hpass := rune_pass prn_lt s pos hp
      have hwid := rune_width prn_lt s pos hp
      have hd := decode_le s pos
      by_cases hq : prn (s[pos]'hp).toNat
      · have hw1 := hwid hq
        have hr1 := hpass.2 hq
        have HN : Hid (∀ j, j < pos + 1 → ∀ h : j < s.size, prn (s[j]'h).toNat) := fun j hj hj' => by
          by_cases e : j = pos
          · subst e; exact hq
          · exact hall j (by omega) hj'
        rw [hw1] at hnx
        have hc := isPrinted_any (Utf8.decode s pos).1 (w.iter s (pos + 1)) hd
        rw [decide_eq_true hr1] at hc
        generalize (Utf8.decode s pos).1 = r at hnx hc
        clear hall hpass hwid hd hw1 hr1 hq
        go_wp2_with (go_at_call 39; refine hc.mono ?_; rintro e w2 ⟨rfl, hw2⟩; obtain rfl := hw2.symm)
        go_roundw
        case rel => exact ⟨pos + 1, rfl, by omega, HN.out⟩
        case measure => simp; omega
      · have hr1 : ¬ prn (Utf8.decode s pos).1 := fun h => hq (hpass.1 h)
        have HR : Hid (decide (AllB prn s) = false) := decide_eq_false (AllB.not hp hq)
        have hc := isPrinted_any (Utf8.decode s pos).1 (w.iter s (pos + (Utf8.decode s pos).2)) hd
        rw [decide_eq_false hr1] at hc
        generalize (Utf8.decode s pos).1 = r at hnx hc
        generalize pos + (Utf8.decode s pos).2 = q at hnx hc
        clear hall hpass hwid hd hr1 hq
        go_wp2_with (go_at_call 39; refine hc.mono ?_; rintro e w2 ⟨rfl, hw2⟩; obtain rfl := hw2.symm)
        go_ret
        exact ⟨ret_b HR.out.symm, HBI.out _⟩
    · have hnx : ∀ ty, (Instr.next (.pointer (some ⟨w.heap.size, 0, none⟩)) true ty).run Try.prog (w.iter s pos) = _ := fun ty => run_next_end w s pos ty hp
      have HR : Hid (decide (AllB prn s) = true) := decide_eq_true fun j h => hall j (by omega) h
      clear hall
      go_wp2
      go_ret
      exact ⟨ret_b HR.out.symm, HBI.out _⟩

set_option maxHeartbeats 2000000 in
theorem all_par (s : ByteArray) (w : World) :
    Calls Try.prog 38 #[.string s, .func (.func 61) #[] #[]] w fun e w' => e = .returned (.bool (decide (AllB par s))) ∧ Below w.heap.size w w' := by
  have HBI : Hid (∀ pos, Below w.heap.size w (w.iter s pos)) := fun pos => below_iter s pos
  go_enter Try.func38, Try.ntmps38
  go_wp2
  go_loopw [] (fun w' => ∃ pos : Nat, w' = w.iter s pos ∧ pos ≤ s.size ∧ ∀ j, j < pos → ∀ h : j < s.size, par (s[j]'h).toNat) (fun w' => s.size - w'.iterPos w.heap.size)
  case atStart => exact ⟨0, rfl, Nat.zero_le _, fun j hj => by omega⟩
  case round =>
    obtain ⟨pos, rfl, hle, hall⟩ := hrel
    by_cases hp : pos < s.size
    · have hnx : ∀ ty, (Instr.next (.pointer (some ⟨w.heap.size, 0, none⟩)) true ty).run Try.prog (w.iter s pos) = _ := fun ty => run_next_any w s pos ty hp
      have hpass := rune_pass par_lt s pos hp
      have hwid := rune_width par_lt s pos hp
      have hd := decode_le s pos
      by_cases hq : par (s[pos]'hp).toNat
      · have hw1 := hwid hq
        have hr1 := hpass.2 hq
        have HN : Hid (∀ j, j < pos + 1 → ∀ h : j < s.size, par (s[j]'h).toNat) := fun j hj hj' => by
          by_cases e : j = pos
          · subst e; exact hq
          · exact hall j (by omega) hj'
        rw [hw1] at hnx
        have hc := isNumberPart_any (Utf8.decode s pos).1 (w.iter s (pos + 1)) hd
        rw [decide_eq_true hr1] at hc
        generalize (Utf8.decode s pos).1 = r at hnx hc
        clear hall hpass hwid hd hw1 hr1 hq
        go_wp2_with (go_at_call 61; refine hc.mono ?_; rintro e w2 ⟨rfl, hw2⟩; obtain rfl := hw2.symm)
        go_roundw
        case rel => exact ⟨pos + 1, rfl, by omega, HN.out⟩
        case measure => simp; omega
      · have hr1 : ¬ par (Utf8.decode s pos).1 := fun h => hq (hpass.1 h)
        have HR : Hid (decide (AllB par s) = false) := decide_eq_false (AllB.not hp hq)
        have hc := isNumberPart_any (Utf8.decode s pos).1 (w.iter s (pos + (Utf8.decode s pos).2)) hd
        rw [decide_eq_false hr1] at hc
        generalize (Utf8.decode s pos).1 = r at hnx hc
        generalize pos + (Utf8.decode s pos).2 = q at hnx hc
        clear hall hpass hwid hd hr1 hq
        go_wp2_with (go_at_call 61; refine hc.mono ?_; rintro e w2 ⟨rfl, hw2⟩; obtain rfl := hw2.symm)
        go_ret
        exact ⟨ret_b HR.out.symm, HBI.out _⟩
    · have hnx : ∀ ty, (Instr.next (.pointer (some ⟨w.heap.size, 0, none⟩)) true ty).run Try.prog (w.iter s pos) = _ := fun ty => run_next_end w s pos ty hp
      have HR : Hid (decide (AllB par s) = true) := decide_eq_true fun j h => hall j (by omega) h
      clear hall
      go_wp2
      go_ret
      exact ⟨ret_b HR.out.symm, HBI.out _⟩
end Go.Proofs.Ytikkohecanmefaa.sc
