/-
  The library's strings.Trim at a blank: it tells the text itself just if it neither begins nor ends with one. No condition.
-/
import Derived.Test.YtndjjhcdnlkekaaDoorGl1
import Derived.Deep.RegionWith
namespace Go.Proofs.YtndjjhcdnlkekaaDoor.gb
open Go.ChangeShapes Go.WideShapes Go.ChangeAt Go.RowKit
open Go.Proofs.YtndjjhcdnlkekaaDoor.sc (prn AllB AllB.not ret_b d_true d_false)
open Classical
set_option linter.unusedVariables false

theorem ext_all (s : ByteArray) : s.extract 0 s.size = s := by simp
theorem ext_size (s : ByteArray) (a b : Nat) (h : b ≤ s.size) : (s.extract a b).size = b - a := by simp; omega
theorem ext_get (s : ByteArray) (a b j : Nat) (h : j < (s.extract a b).size) (h' : a + j < s.size) : ((s.extract a b)[j]'h) = s[a + j]'h' := by rw [ByteArray.getElem_extract]
theorem ext_more (s : ByteArray) (k : Nat) (h : k ≤ s.size) : (s.extract k s.size).extract 1 (s.extract k s.size).size = s.extract (k + 1) s.size := by
  rw [ext_size s k s.size (Nat.le_refl _)]
  apply ByteArray.ext
  simp
  congr 1; omega
theorem ext_less (s : ByteArray) (m : Nat) (h : m ≤ s.size) : (s.extract 0 m).extract 0 ((s.extract 0 m).size - 1) = s.extract 0 (m - 1) := by
  rw [ext_size s 0 m h]
  apply ByteArray.ext
  simp
def strLen : Value → Nat
  | .string t => t.size
  | _ => 0
set_option maxHeartbeats 2000000 in
theorem trimL_any (s : ByteArray) (w : World) (hs : s.size ≤ maxLen) :
    Calls Tryd.prog 63 #[.string s, .int .u8 32] w fun e w' => (∃ k, k ≤ s.size ∧ e = .returned (.string (s.extract k s.size)) ∧ (bat s 0 = 32 → 0 < s.size → 0 < k) ∧ (bat s 0 ≠ 32 → k = 0)) ∧ w' = w := by
  unfold maxLen at hs
  go_enter Tryd.func63, Tryd.ntmps63
  go_wp2
  go_loop [0] (fun x => ∃ k : Nat, k ≤ s.size ∧ x = .string (s.extract k s.size) ∧ Hid (bat s 0 ≠ 32 → k = 0)) (fun x => strLen x)
  case atStart => exact ⟨0, Nat.zero_le _, by rw [ext_all], fun _ => rfl⟩
  case round =>
    obtain ⟨k, hk, rfl, HK⟩ := hrel
    have hz := ext_size s k s.size (Nat.le_refl _)
    have HM : Hid (k ≤ s.size → (s.extract k s.size).extract 1 (s.extract k s.size).size = s.extract (k + 1) s.size) := ext_more s k
    by_cases hlt : k < s.size
    · have hg := ext_get s k s.size 0 (by omega) (by omega)
      have HG : Hid (bat s k = (s[k]'hlt).toNat) := bat_eq hlt
      have h0 : 0 < (s.extract k s.size).size := by omega
      obtain ⟨t, ht⟩ : ∃ t, t = s.extract k s.size := ⟨_, rfl⟩
      have HT : Hid (t.extract 1 t.size = s.extract (k + 1) s.size) := by rw [ht]; exact HM.out hk
      simp only [← ht] at hz hg h0 ⊢
      by_cases hb : bat s k = 32
      · have HK2 : Hid (bat s 0 ≠ 32 → k + 1 = 0) := fun h => by have := HK.out h; subst this; exact absurd hb h
        have h1 : ((t[0]'h0).toNat : Int) = 32 := by rw [hg]; simp only [Nat.add_zero]; rw [← HG.out, hb]; rfl
        have HZ : Hid (t.extract 1 (s.size - k) = s.extract (k + 1) s.size) := by rw [← hz]; exact HT.out
        have HZ3 : Hid ((t.extract 1 (s.size - k)).size < t.size) := by
          show _ < _
          rw [HZ.out, ext_size s (k + 1) s.size (Nat.le_refl _)]; omega
        clear hg HG HM ht HT hb HK
        go_wp2
        exact ⟨⟨k + 1, by omega, by rw [HZ.out], HK2⟩, HZ3.out⟩
      · have h1 : ¬ ((t[0]'h0).toNat : Int) = 32 := by rw [hg]; simp only [Nat.add_zero]; rw [← HG.out]; omega
        have HB : Hid (∃ k, k ≤ s.size ∧ Ending.returned (.string t) = .returned (.string (s.extract k s.size)) ∧ (bat s 0 = 32 → 0 < s.size → 0 < k) ∧ (bat s 0 ≠ 32 → k = 0)) := ⟨k, hk, by rw [ht], fun h _ => Nat.pos_of_ne_zero fun e => by subst e; exact hb h, HK.out⟩
        clear hg HG HM HT ht HK hb
        go_wp2
        go_ret
        exact ⟨HB.out, rfl⟩
    · obtain rfl : k = s.size := by omega
      have hz0 : (s.extract s.size s.size).size = 0 := by omega
      have HB : Hid (∃ k, k ≤ s.size ∧ Ending.returned (.string (s.extract s.size s.size)) = .returned (.string (s.extract k s.size)) ∧ (bat s 0 = 32 → 0 < s.size → 0 < k) ∧ (bat s 0 ≠ 32 → k = 0)) := ⟨s.size, hk, rfl, fun _ h => h, HK.out⟩
      generalize s.extract s.size s.size = t at *
      clear HM HK hz
      go_wp2
      go_ret
      exact ⟨HB.out, rfl⟩
set_option maxHeartbeats 2000000 in
theorem trimR_any (s : ByteArray) (w : World) (hs : s.size ≤ maxLen) :
    Calls Tryd.prog 64 #[.string s, .int .u8 32] w fun e w' => (∃ m, m ≤ s.size ∧ e = .returned (.string (s.extract 0 m)) ∧ (bat s (s.size - 1) = 32 → 0 < s.size → m < s.size) ∧ (bat s (s.size - 1) ≠ 32 → m = s.size)) ∧ w' = w := by
  unfold maxLen at hs
  go_enter Tryd.func64, Tryd.ntmps64
  go_wp2
  go_loop [0] (fun x => ∃ m : Nat, m ≤ s.size ∧ x = .string (s.extract 0 m) ∧ Hid (bat s (s.size - 1) ≠ 32 → m = s.size)) (fun x => strLen x)
  case atStart => exact ⟨s.size, Nat.le_refl _, by rw [ext_all], fun _ => rfl⟩
  case round =>
    obtain ⟨m, hm, rfl, HK⟩ := hrel
    have hz := ext_size s 0 m hm
    have HM : Hid ((s.extract 0 m).extract 0 ((s.extract 0 m).size - 1) = s.extract 0 (m - 1)) := ext_less s m hm
    by_cases hlt : 0 < m
    · have hg := ext_get s 0 m (m - 1) (by omega) (by omega)
      have HG : Hid (bat s (m - 1) = (s[m - 1]'(by omega)).toNat) := bat_eq (by omega)
      obtain ⟨t, ht⟩ : ∃ t, t = s.extract 0 m := ⟨_, rfl⟩
      have HT : Hid (t.extract 0 (t.size - 1) = s.extract 0 (m - 1)) := by rw [ht]; exact HM.out
      simp only [← ht] at hz hg ⊢
      have hzm : t.size = m := by omega
      have h0 : m - 1 < t.size := by omega
      by_cases hb : bat s (m - 1) = 32
      · have HK2 : Hid (bat s (s.size - 1) ≠ 32 → m - 1 = s.size) := fun h => by have := HK.out h; subst this; exact absurd hb h
        have h1 : ((t[m - 1]'h0).toNat : Int) = 32 := by rw [hg]; simp only [Nat.zero_add]; rw [← HG.out, hb]; rfl
        have HZ : Hid (t.extract 0 (m - 1) = s.extract 0 (m - 1)) := by have := HT.out; rwa [hzm] at this
        have HZ3 : Hid ((t.extract 0 (m - 1)).size < t.size) := by
          show _ < _
          rw [HZ.out, ext_size s 0 (m - 1) (by omega)]; omega
        clear hg HG HM ht HT hb HK hz
        go_wp2
        exact ⟨⟨m - 1, by omega, by rw [HZ.out], HK2⟩, HZ3.out⟩
      · have h1 : ¬ ((t[m - 1]'h0).toNat : Int) = 32 := by rw [hg]; simp only [Nat.zero_add]; rw [← HG.out]; omega
        have HB : Hid (∃ m, m ≤ s.size ∧ Ending.returned (.string t) = .returned (.string (s.extract 0 m)) ∧ (bat s (s.size - 1) = 32 → 0 < s.size → m < s.size) ∧ (bat s (s.size - 1) ≠ 32 → m = s.size)) := ⟨m, hm, by rw [ht], fun h _ => by
          by_cases e : m = s.size
          · subst e; exact absurd h hb
          · omega, HK.out⟩
        clear hg HG HM HT ht HK hb hz
        go_wp2
        go_ret
        exact ⟨HB.out, rfl⟩
    · obtain rfl : m = 0 := by omega
      have hz0 : (s.extract 0 0).size = 0 := by omega
      have HB : Hid (∃ m, m ≤ s.size ∧ Ending.returned (.string (s.extract 0 0)) = .returned (.string (s.extract 0 m)) ∧ (bat s (s.size - 1) = 32 → 0 < s.size → m < s.size) ∧ (bat s (s.size - 1) ≠ 32 → m = s.size)) := ⟨0, hm, rfl, fun _ h => h, HK.out⟩
      generalize s.extract 0 0 = t at *
      clear HM HK hz
      go_wp2
      go_ret
      exact ⟨HB.out, rfl⟩
end Go.Proofs.YtndjjhcdnlkekaaDoor.gb
