/-
  What a rule may say: the program's rulings, five of them in a row of the call's own. No condition.
-/
import Derived.Test.YtndjjhcdnlkekaaDoorGl3
import Derived.Test.YtndjjhcdnlkekaaDoorRegW
import Derived.Test.YtndjjhcdnlkekaaDoorOwnT
import Derived.Maps.AppendAt
namespace Go.Proofs.YtndjjhcdnlkekaaDoor.rl
open Go.ChangeShapes Go.WideShapes Go.ChangeAt Go.RowKit
open Go.Proofs.YtndjjhcdnlkekaaDoor.sc (ret_b)
open Go.Proofs.YtndjjhcdnlkekaaDoor.wi (heap_lt calls_w wp_w)
open Go.Proofs.YtndjjhcdnlkekaaDoor.ot (below_own)
open Classical
set_option linter.unusedVariables false

def denyV : Value := .iface 69 (.agg #[])
def allowV : Value := .iface 86 (.agg #[])
def holdV (n : Int) : Value := .iface 88 (.agg #[.int .i64 n])
def rulV : List Value := [denyV, allowV, holdV 1, holdV 2, holdV 3]
theorem infoR : (Tryd.prog.info? 51).map (fun i => (i.zero, i.size, i.bytes)) = some (some .nilIface, 1, 16) := by kernel_rfl
theorem rul_next (k : Nat) (h : k < 3) : rulV.take (2 + k) ++ [holdV ((k : Int) + 1)] = rulV.take (2 + (k + 1)) := by
  rcases (show k = 0 ∨ k = 1 ∨ k = 2 by omega) with rfl | rfl | rfl <;> rfl
set_option maxHeartbeats 4000000 in
theorem rulings_any (w : World) :
    Calls Tryd.prog 51 #[] w fun e w' => ∃ g c, e = .returned (.slice (some ⟨g, 0, none⟩) 5 c) ∧ w.heap.size ≤ g ∧ g < w'.heap.size ∧ (∀ j, j < 5 → w'.cell? ⟨g, j, none⟩ = rulV[j]?) ∧ Below w.heap.size w w' := by
  obtain ⟨i0, hi, hz0, hz1, hz2⟩ := info_parts infoR
  have HI : Hid (Tryd.prog.info? 51 = some i0 ∧ i0.zero = some .nilIface ∧ i0.size = 1 ∧ i0.bytes = 16) := ⟨hi, hz0, hz1, hz2⟩
  clear hi hz0 hz1 hz2
  have H0 : Hid ((w.alloc (.cells #[denyV, allowV] 51)).ownsRow w.heap.size 51 1 (.slice (some ⟨w.heap.size, 0, none⟩) 2 2) 2 (rulV.take 2)) := ⟨rfl, .inr ⟨w.heap.size, 2, #[denyV, allowV], rfl, Nat.le_refl _, heap_alloc_new _ _, Nat.le_refl _, by decide, rfl, rfl⟩⟩
  have HB0 : Hid (Below w.heap.size w (w.alloc (.cells #[denyV, allowV] 51))) := (Below.refl _ _).alloc (Nat.le_refl _) _
  go_enter Tryd.func51, Tryd.ntmps51
  go_wp2_with fail
  refine wp_w (fun u => u.ownsRow w.heap.size 51 1 (.slice (some ⟨w.heap.size, 0, none⟩) 2 2) 2 (rulV.take 2) ∧ Below w.heap.size w u) ⟨H0.out, HB0.out⟩ ?_
  clear H0 HB0
  rintro u0 ⟨hO0, hB0⟩
  go_loopw [1, 8] (fun v i u => ∃ k : Nat, k ≤ 3 ∧ i = .int .i64 k ∧ Hid (u.ownsRow w.heap.size 51 1 v (2 + k) (rulV.take (2 + k))) ∧ Hid (Below w.heap.size w u)) (fun _ i _ => 3 - (intOf i).toNat)
  case atStart => exact ⟨0, by omega, rfl, hO0, hB0⟩
  case round =>
    clear hO0 hB0
    obtain ⟨k, hk, rfl, HO, HB⟩ := hrel
    obtain ⟨g, c, hp⟩ : ∃ g c, u1 = .slice (some ⟨g, 0, none⟩) (2 + k) c := by
      rcases HO.out.2 with ⟨hv, hn⟩ | ⟨g, cap2, cur, hv, _⟩
      · omega
      · exact ⟨_, _, hv⟩
    subst hp
    by_cases hlt : k < 3
    · have hO2 : Hid (∀ o, World.ownsRow (wr.alloc o) w.heap.size 51 1 (.slice (some ⟨g, 0, none⟩) (2 + k) c) (2 + k) (rulV.take (2 + k))) := fun o => HO.out.alloc o
      have hs2 : Hid (∀ o, w.heap.size ≤ (wr.alloc o).heap.size) := fun o => Nat.le_trans HB.out.size (by rw [World.size_alloc]; exact Nat.le_succ _)
      have HBX : Hid (∀ o u', (wr.alloc o).grownBy u' (Value.slice (some ⟨g, 0, none⟩) (2 + k) c).ownBlock → Below w.heap.size w u') := fun o u' hg => below_own (HB.out.alloc HB.out.size o) hg (hO2.out o) (Nat.le_refl _) (hs2.out o)
      have HRN : Hid (rulV.take (2 + k) ++ [holdV ((k : Int) + 1)] = rulV.take (2 + (k + 1))) := rul_next k hlt
      have hk1 : (k : Int) < 3 := by omega
      clear HO HB
      obtain ⟨L, hL⟩ : ∃ L, L = rulV.take (2 + k) := ⟨_, rfl⟩
      rw [← hL] at hO2 HRN
      clear hL
      obtain ⟨m, hm⟩ : ∃ m, m = 2 + k := ⟨_, rfl⟩
      have hm9 : m < 10 := by omega
      rw [← hm] at hO2 HBX ⊢
      have HM : Hid (m = 2 + k) := hm
      clear hm
      go_wp2_with (at_builtin; refine wpList_append_own _ rfl _ _ 71 rfl w.heap.size 51 i0 .nilIface 1 16 Tryd.underlying71 HI.out.1 HI.out.2.1 HI.out.2.2.1 HI.out.2.2.2 rfl (by decide) (.slice (some ⟨g, 0, none⟩) m c) m L rfl (hO2.out _) ⟨wr.heap.size, 0, none⟩ 1 1 [holdV ((k : Int) + 1)] rfl rfl (cell_one_new _ _ _) (by simp [Value.oneCell', holdV]) (by unfold maxLen; omega) (by omega) (hs2.out _) ?_; intro v4 w4 hown hgr hnil; clear hnil)
      have HF : Hid (w4.ownsRow w.heap.size 51 1 v4 (2 + (k + 1)) (rulV.take (2 + (k + 1)))) := by
        rw [← HRN.out, show 2 + (k + 1) = m + 1 by rw [HM.out]; omega]; exact hown
      have HBF : Hid (Below w.heap.size w w4) := HBX.out _ w4 hgr
      clear hown hgr hO2 hs2 HBX HRN HM
      go_wp2
      exact ⟨⟨k + 1, by omega, by go_num, HF, HBF⟩, by simp [intOf]; omega⟩
    · obtain rfl : k = 3 := by omega
      have HC : Hid (∀ j, j < 5 → wr.cell? ⟨g, j, none⟩ = rulV[j]?) := fun j hj => by
        rw [HO.out.cellAt j (by omega)]; rfl
      have HG : Hid (w.heap.size ≤ g ∧ g < wr.heap.size) := by
        rcases HO.out.2 with ⟨hv, hn⟩ | ⟨g', cap2, cur, hv, hb, hg, _⟩
        · omega
        · cases hv; exact ⟨hb, heap_lt hg⟩
      clear HO
      go_wp2
      go_ret
      exact ⟨g, c, rfl, HG.out.1, HG.out.2, HC.out, HB.out⟩
end Go.Proofs.YtndjjhcdnlkekaaDoor.rl
