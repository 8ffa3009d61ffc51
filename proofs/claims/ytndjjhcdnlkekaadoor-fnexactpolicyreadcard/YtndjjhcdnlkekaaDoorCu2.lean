/-
  The model's word behind which a blank stands. No condition.
-/
import Derived.Test.YtndjjhcdnlkekaaDoorCu1
import Derived.Deep.RegionHeld3
import Derived.OrdersHeld
import Derived.Deep.RegionWith
namespace Go.Proofs.YtndjjhcdnlkekaaDoor.cu
open Go.ChangeShapes Go.WideShapes Go.ChangeAt Go.RowKit
open Go.Proofs.YtndjjhcdnlkekaaDoor.gb (bat bat_eq GlobR)
open Go.Proofs.YtndjjhcdnlkekaaDoor.rl
open Classical
set_option linter.unusedVariables false

def WordOut (s : ByteArray) (e : Ending) : Prop := (∃ i, FirstAt s 32 i ∧ e = .returned (.tuple #[.string (s.extract 0 i), .string (s.extract (i + 1) s.size)])) ∨ NoneOf s 32 ∧ e = .returned (.tuple #[.string s, .string ⟨#[]⟩])
set_option maxHeartbeats 2000000 in
theorem word_any (s : ByteArray) (w : World) (hs : s.size ≤ maxLen) :
    Calls Tryd.prog 59 #[.string s] w fun e w' => WordOut s e ∧ Below w.heap.size w w' := by
  unfold maxLen at hs
  have H0 : Hid (∀ j, j < 0 → bat s j ≠ 32) := fun j h => by omega
  go_enter Tryd.func59, Tryd.ntmps59
  go_wp2
  go_loopw [4] (fun i u => ∃ k : Nat, k ≤ s.size ∧ i = .int .i64 k ∧ Hid (∀ j, j < k → bat s j ≠ 32) ∧ u = w) (fun i _ => s.size - (intOf i).toNat)
  case atStart => exact ⟨0, Nat.zero_le _, rfl, H0, rfl⟩
  case round =>
    clear H0
    obtain ⟨k, hk, rfl, HN, rfl⟩ := hrel
    have HB : Hid (Below wr.heap.size wr wr) := Below.refl _ _
    by_cases hlt : k < s.size
    · have hb := bat_eq hlt
      by_cases hc : bat s k = 32
      · have HW : Hid (WordOut s _) := .inl ⟨k, ⟨hlt, hc, HN.out⟩, rfl⟩
        have hv : (s[k].toNat : Int) = 32 := by rw [← hb, hc]; rfl
        have hv2 : s[k].toNat = 32 := by rw [← hb, hc]
        clear HN hc hb
        go_wp2
        have hw1 : IntKind.i64.wrap ((k : Int) + 1) = (k : Int) + 1 := by rw [IntKind.wrap_i64]; omega
        have hw2 : ((k : Int) + 1).toNat = k + 1 := by omega
        go_region
        go_wp2
        go_ret2
        exact ⟨HW.out, HB.out.drew⟩
      · have HN2 : Hid (∀ j, j < k + 1 → bat s j ≠ 32) := fun j hj => by
          rcases Nat.lt_succ_iff_lt_or_eq.1 hj with h | rfl
          · exact HN.out j h
          · exact hc
        have hv : ¬ (s[k].toNat : Int) = 32 := by rw [← hb]; omega
        have hv2 : ¬ s[k].toNat = 32 := by rw [← hb]; omega
        clear HN hc hb
        go_wp2
        go_round
        case rel => exact ⟨k + 1, by omega, by go_num, HN2, trivial⟩
        case measure => simp [intOf]; omega
    · have HW : Hid (WordOut s _) := .inr ⟨fun j hj => HN.out j (by omega), rfl⟩
      clear HN
      go_wp2
      go_ret2
      exact ⟨HW.out, HB.out⟩
end Go.Proofs.YtndjjhcdnlkekaaDoor.cu
