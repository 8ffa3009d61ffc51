/-
  Slices of states in the law's hands: markStateS, heldStateS. No condition.
-/
import Derived.Test.YtjjfdkmhoocfhaaStV
import Derived.Deep.RegionWith
namespace Go.Proofs.Ytjjfdkmhoocfhaa.st
open Go.ChangeShapes Go.WideShapes Go.ChangeAt Go.RowKit
open Go.Proofs.Ytjjfdkmhoocfhaa.wi (heap_lt calls_w wp_w)
open Go.Proofs.Ytjjfdkmhoocfhaa.ss (markT markText_any)
set_option linter.unusedVariables false

theorem RowX.set1 {u : World} {g off : Nat} {l : List Ln} (h : RowX u g off l) (k : Nat) (hk : k < l.length) (z : Int) : RowX (u.setCell ⟨g, off + k * 2, none⟩ (.int .i64 z)) g off (l.set k (z, (l.getD k ln0).2)) := by
  obtain ⟨cur, h1, h2⟩ := h
  refine ⟨_, h1.set (off + k * 2) (.int .i64 z), fun j hj => ?_⟩
  rw [List.length_set] at hj
  obtain ⟨a1, a2⟩ := h2 j hj
  have s1 : off + k * 2 < cur.size := (Array.getElem?_eq_some_iff.1 (h2 k hk).1).1
  by_cases e : j = k
  · subst e
    have e1 : (l.set j (z, (l.getD j ln0).2)).getD j ln0 = (z, (l.getD j ln0).2) := by simp [List.getD, hk]
    rw [e1]
    constructor
    · simp [s1]
    · rw [Array.getElem?_setIfInBounds_ne (by omega)]; exact a2
  · have e1 : (l.set k (z, (l.getD k ln0).2)).getD j ln0 = l.getD j ln0 := by simp [List.getD, Ne.symm e]
    rw [e1, Array.getElem?_setIfInBounds_ne (by omega), Array.getElem?_setIfInBounds_ne (by omega)]
    exact ⟨a1, a2⟩
theorem RowX.set2 {u : World} {g off : Nat} {l : List Ln} (h : RowX u g off l) (k : Nat) (hk : k < l.length) (t : ByteArray) : RowX (u.setCell ⟨g, off + k * 2 + 1, none⟩ (.string t)) g off (l.set k ((l.getD k ln0).1, t)) := by
  obtain ⟨cur, h1, h2⟩ := h
  refine ⟨_, h1.set (off + k * 2 + 1) (.string t), fun j hj => ?_⟩
  rw [List.length_set] at hj
  obtain ⟨a1, a2⟩ := h2 j hj
  have s1 : off + k * 2 + 1 < cur.size := (Array.getElem?_eq_some_iff.1 (h2 k hk).2).1
  by_cases e : j = k
  · subst e
    have e1 : (l.set j ((l.getD j ln0).1, t)).getD j ln0 = ((l.getD j ln0).1, t) := by simp [List.getD, hk]
    rw [e1]
    constructor
    · rw [Array.getElem?_setIfInBounds_ne (by omega)]; exact a1
    · simp [s1]
  · have e1 : (l.set k ((l.getD k ln0).1, t)).getD j ln0 = l.getD j ln0 := by simp [List.getD, Ne.symm e]
    rw [e1, Array.getElem?_setIfInBounds_ne (by omega), Array.getElem?_setIfInBounds_ne (by omega)]
    exact ⟨a1, a2⟩
/-- half way: the number is marked -/
def Half (w : World) (g off n k : Nat) (u : World) : Prop := w.grownBy u (some g) ∧ ∃ l : List Ln, l.length = n ∧ Mk l k ∧ (l.getD k ln0).1 = 2 * (k : Int) + 1 ∧ RowX u g off l
theorem Half.up {w u u' : World} {g off n k : Nat} (h : Half w g off n k u) (hb : Below u.heap.size u u') : Half w g off n k u' := by
  obtain ⟨hg, l, hl, hm, h1, hr⟩ := h
  exact ⟨grown_up hg hb, l, hl, hm, h1, hr.up hb⟩
theorem Mk.keep {l : List Ln} {k : Nat} (h : Mk l k) (x : Ln) : Mk (l.set k x) k := fun j hj => by
  have := h j hj
  simpa [List.getD, show ¬ k = j by omega] using this
theorem Marked.half {w u : World} {g off n k : Nat} (h : Marked w g off n k u) (hk : k < n) : Half w g off n k (u.setCell ⟨g, off + k * 2, none⟩ (.int .i64 (2 * (k : Int) + 1))) := by
  obtain ⟨hg, l, hl, hm, hr⟩ := h
  have hr2 := hr.set1 k (by omega) (2 * (k : Int) + 1)
  exact ⟨grown_set hg, l.set k (2 * (k : Int) + 1, (l.getD k ln0).2), by rw [List.length_set]; exact hl, hm.keep _, by simp [List.getD, hl, hk], hr2⟩
theorem Half.whole {w u : World} {g off n k : Nat} (h : Half w g off n k u) (hk : k < n) : Marked w g off n (k + 1) (u.setCell ⟨g, off + k * 2 + 1, none⟩ (.string (markT (2 * k + 2)))) := by
  obtain ⟨hg, l, hl, hm, h1, hr⟩ := h
  have hr2 := hr.set2 k (by omega) (markT (2 * k + 2))
  rw [h1] at hr2
  exact ⟨grown_set hg, l.set k (2 * (k : Int) + 1, markT (2 * k + 2)), by rw [List.length_set]; exact hl, hm.set (by omega), hr2⟩
theorem Half.at {w u : World} {g off n k : Nat} (h : Half w g off n k u) (hk : k < n) : (∃ x, u.cell? ⟨g, off + k * 2 + 1, none⟩ = some (.string x)) ∧ ∀ k, u.frozen? ⟨g, k, none⟩ = false := by
  obtain ⟨hg, l, hl, hm, h1, hr⟩ := h
  exact ⟨⟨_, (hr.row k (by omega)).2⟩, hr.frozen⟩
set_option maxRecDepth 20000 in
set_option maxHeartbeats 4000000 in
theorem markS_row (g off cap : Nat) (l : List Ln) (w : World) (hl : l.length ≤ 1048576) (hr : RowX w g off l) :
    Calls Try.prog 48 #[.slice (some ⟨g, off, none⟩) l.length cap, .int .i64 1] w fun r w' => r = .returned (.int .i64 (2 * (l.length : Int) + 1)) ∧ Marked w g off l.length l.length w' := by
  have H0 : Hid (Marked w g off l.length 0 w) := ⟨⟨rfl, rfl, rfl, Nat.le_refl _, fun _ _ _ => rfl⟩, l, rfl, Mk.zero l, hr⟩
  clear hr
  obtain ⟨n, hn⟩ : ∃ n, n = l.length := ⟨_, rfl⟩
  rw [← hn] at hl H0 ⊢
  clear hn
  go_enter Try.func48, Try.ntmps48
  go_wp2
  go_loopw [1, 5] (fun kk i u => ∃ k : Nat, k ≤ n ∧ i = .int .i64 k ∧ kk = .int .i64 (2 * (k : Int) + 1) ∧ Hid (Marked w g off n k u)) (fun _ i _ => n - (intOf i).toNat)
  case atStart => exact ⟨0, Nat.zero_le _, rfl, rfl, H0⟩
  case round =>
    clear H0
    obtain ⟨k, hk, rfl, rfl, HM⟩ := hrel
    by_cases hlt : k < n
    · have HT : Hid (∀ u, Calls Try.prog 56 #[.int .i64 (2 * (k : Int) + 1 + 1)] u fun r w' => r = .returned (.string (markT (2 * k + 2))) ∧ Below u.heap.size u w') := fun u => by
        have := markText_any (2 * k + 2) u (by omega) (by omega)
        have e : ((2 * k + 2 : Nat) : Int) = 2 * (k : Int) + 1 + 1 := by omega
        rwa [e] at this
      obtain ⟨z, hz⟩ : ∃ z, z = markT (2 * k + 2) := ⟨_, rfl⟩
      have HS : Hid (∀ u, Half w g off n k u → Marked w g off n (k + 1) (u.setCell ⟨g, off + k * 2 + 1, none⟩ (.string z))) := fun u h => by rw [hz]; exact h.whole hlt
      have HH := HM.out.half hlt
      rw [← hz] at HT
      clear hz
      obtain ⟨⟨y, c0⟩, ⟨x, c1⟩, f1⟩ := HM.out.at k hlt
      go_wp2_with (go_at_call 56; fail)
      refine calls_w (Half w g off n k) HH ?_
      clear HM HH c0 c1 f1 y x
      intro u hu
      refine (HT.out u).mono ?_
      rintro r w1 ⟨rfl, hb1⟩
      have hM := hu.up hb1
      obtain ⟨⟨x, c1⟩, f1⟩ := hM.at hlt
      have HS2 : Hid (Marked w g off n (k + 1) (w1.setCell ⟨g, off + k * 2 + 1, none⟩ (.string z))) := HS.out w1 hM
      clear hM hu hb1 HT HS
      go_wp2
      exact ⟨⟨k + 1, by omega, by go_num, by go_num, HS2⟩, by simp [intOf]; omega⟩
    · obtain rfl : k = n := by omega
      go_wp2
      go_ret
      exact ⟨rfl, HM.out⟩
end Go.Proofs.Ytjjfdkmhoocfhaa.st
