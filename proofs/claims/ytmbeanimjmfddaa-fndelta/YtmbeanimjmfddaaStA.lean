/-
  How many bytes two texts begin with alike: the program's alike. No condition.
-/
import Derived.Test.YtmbeanimjmfddaaStW
namespace Go.Proofs.Ytmbeanimjmfddaa.st
open Go.ChangeShapes Go.WideShapes Go.ChangeAt Go.RowKit
open Classical
set_option linter.unusedVariables false

set_option maxHeartbeats 4000000 in
theorem alikeI_any (a b : ByteArray) (w : World) (ha : a.size ≤ maxLen) (hb : b.size ≤ maxLen) :
    Calls Try.prog 38 #[.string a, .string b] w fun e w' => e = .returned (.int .i64 (alike a b : Int)) ∧ Below w.heap.size w w' := by
  unfold maxLen at ha hb
  have HB : Hid (Below w.heap.size w w) := Below.refl _ _
  go_enter Try.func38, Try.ntmps38
  by_cases hm : b.size < a.size
  · go_wp2
    go_loopw [13] (fun i u => ∃ k : Nat, k ≤ b.size ∧ i = .int .i64 k ∧ Hid (SoFar a b k) ∧ Hid (Below w.heap.size w u)) (fun i _ => b.size - (intOf i).toNat)
    case atStart => exact ⟨0, Nat.zero_le _, rfl, SoFar.zero a b, HB⟩
    case round =>
      obtain ⟨k, hk, rfl, HS, HU⟩ := hrel
      by_cases hlt : k < b.size
      · have h1 : k < a.size := by omega
        have h2 : k < b.size := by omega
        have HD : Hid (∀ n, Below w.heap.size w (wr.drewN n)) := fun n => ss.below_drewN HU.out n
        by_cases e : (a[k]'h1).toNat = (b[k]'h2).toNat
        · have HN : Hid (SoFar a b (k + 1)) := HS.out.succ h1 h2 e
          have e1 : (((a[k]'h1).toNat : Int) != ((b[k]'h2).toNat : Int)) = false := by simp [e]
          clear HS e
          go_wp2_with fail
          go_quiet (fail)
          go_wp2
          exact ⟨⟨k + 1, by omega, by go_num, HN, HD.out _⟩, by simp [intOf]; omega⟩
        · have HA : Hid (alike a b = k) := alike_at HS.out h1 h2 e
          have e1 : (((a[k]'h1).toNat : Int) != ((b[k]'h2).toNat : Int)) = true := by simp; omega
          clear HS e
          go_wp2_with fail
          go_quiet (fail)
          go_wp2
          go_ret
          exact ⟨by rw [HA.out]; rfl, HD.out _⟩
      · obtain rfl : k = b.size := by omega
        have HA : Hid (alike a b = b.size) := alike_end HS.out (by omega) (by omega) (by omega)
        clear HS
        go_wp2
        go_ret
        exact ⟨by rw [HA.out]; rfl, HU.out⟩
  · go_wp2
    go_loopw [13] (fun i u => ∃ k : Nat, k ≤ a.size ∧ i = .int .i64 k ∧ Hid (SoFar a b k) ∧ Hid (Below w.heap.size w u)) (fun i _ => a.size - (intOf i).toNat)
    case atStart => exact ⟨0, Nat.zero_le _, rfl, SoFar.zero a b, HB⟩
    case round =>
      obtain ⟨k, hk, rfl, HS, HU⟩ := hrel
      by_cases hlt : k < a.size
      · have h1 : k < a.size := by omega
        have h2 : k < b.size := by omega
        have HD : Hid (∀ n, Below w.heap.size w (wr.drewN n)) := fun n => ss.below_drewN HU.out n
        by_cases e : (a[k]'h1).toNat = (b[k]'h2).toNat
        · have HN : Hid (SoFar a b (k + 1)) := HS.out.succ h1 h2 e
          have e1 : (((a[k]'h1).toNat : Int) != ((b[k]'h2).toNat : Int)) = false := by simp [e]
          clear HS e
          go_wp2_with fail
          go_quiet (fail)
          go_wp2
          exact ⟨⟨k + 1, by omega, by go_num, HN, HD.out _⟩, by simp [intOf]; omega⟩
        · have HA : Hid (alike a b = k) := alike_at HS.out h1 h2 e
          have e1 : (((a[k]'h1).toNat : Int) != ((b[k]'h2).toNat : Int)) = true := by simp; omega
          clear HS e
          go_wp2_with fail
          go_quiet (fail)
          go_wp2
          go_ret
          exact ⟨by rw [HA.out]; rfl, HD.out _⟩
      · obtain rfl : k = a.size := by omega
        have HA : Hid (alike a b = a.size) := alike_end HS.out (by omega) (by omega) (by omega)
        clear HS
        go_wp2
        go_ret
        exact ⟨by rw [HA.out]; rfl, HU.out⟩
end Go.Proofs.Ytmbeanimjmfddaa.st
