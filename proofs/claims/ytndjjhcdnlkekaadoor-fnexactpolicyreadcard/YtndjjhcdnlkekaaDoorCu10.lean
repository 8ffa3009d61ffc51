/-
  The law's own marks on a policy's rules. No condition.
-/
import Derived.Test.YtndjjhcdnlkekaaDoorCu7
import Derived.Test.YtndjjhcdnlkekaaDoorLogU
namespace Go.Proofs.YtndjjhcdnlkekaaDoor.cu
open Go.ChangeShapes Go.WideShapes Go.ChangeAt Go.RowKit
open Go.Proofs.YtndjjhcdnlkekaaDoor.rl
open Go.Proofs.YtndjjhcdnlkekaaDoor.wi (heap_lt calls_w wp_w)
open Go.Proofs.YtndjjhcdnlkekaaDoor.ss (markT markText_any)
open Classical
set_option linter.unusedVariables false

/-- the mark in cell i -/
def mv (i : Nat) : Value := if i % 4 < 2 then .int .i64 ((i : Int) + 1) else .string (markT (i + 1))
theorem mv0 (k : Nat) : mv (k * 4) = .int .i64 (4 * (k : Int) + 1) := by
  unfold mv; rw [if_pos (by omega)]; congr 1; omega
theorem mv1 (k : Nat) : mv (k * 4 + 1) = .int .i64 (4 * (k : Int) + 1 + 1) := by
  unfold mv; rw [if_pos (by omega)]; congr 1; omega
theorem mv2 (k : Nat) : mv (k * 4 + 2) = .string (markT (4 * k + 3)) := by
  unfold mv; rw [if_neg (by omega), show k * 4 + 2 + 1 = 4 * k + 3 by omega]
theorem mv3 (k : Nat) : mv (k * 4 + 3) = .string (markT (4 * k + 4)) := by
  unfold mv; rw [if_neg (by omega), show k * 4 + 3 + 1 = 4 * k + 4 by omega]
/-- the first c cells of the row are marked -/
def Mks (w : World) (g off n c : Nat) (u : World) : Prop := w.grownBy u (some g) ∧ ∃ cur, rw.At u g cur 26 ∧ (∀ i, i < c → cur[off + i]? = some (mv i)) ∧ ∀ j, j < n → (∃ z, cur[off + (j * 4)]? = some (.int .i64 z)) ∧ (∃ z, cur[off + (j * 4 + 1)]? = some (.int .i64 z)) ∧ (∃ s, cur[off + (j * 4 + 2)]? = some (.string s)) ∧ ∃ s, cur[off + (j * 4 + 3)]? = some (.string s)
theorem grown_set {u w : World} {g k : Nat} {v : Value} (h : w.grownBy u (some g)) : w.grownBy (u.setCell ⟨g, k, none⟩ v) (some g) :=
  ⟨h.os, h.tape, h.output, by have := h.size; simpa [World.setCell] using this, fun j hj hne => (heap_setCell_other _ _ _ _ (fun hh => hne (by rw [hh]))).trans (h.block j hj hne)⟩
theorem grown_up {u u' w : World} {row : Option Nat} (h : w.grownBy u row) (hb : Below u.heap.size u u') : w.grownBy u' row :=
  ⟨hb.os.trans h.os, hb.tape.trans h.tape, hb.output.trans h.output, Nat.le_trans h.size hb.size, fun j hj hne => (hb.block j (Nat.lt_of_lt_of_le hj h.size)).trans (h.block j hj hne)⟩
theorem Mks.up {w u u' : World} {g off n c : Nat} (h : Mks w g off n c u) (hb : Below u.heap.size u u') : Mks w g off n c u' := by
  obtain ⟨h1, cur, h2, h3, h4⟩ := h
  exact ⟨grown_up h1 hb, cur, h2.up hb, h3, h4⟩
theorem set_at {cur : Array Value} {p i : Nat} {x y : Value} (h : cur[p]? = some y) : (cur.setIfInBounds p x)[i]? = if i = p then some x else cur[i]? := by
  have hp : p < cur.size := (Array.getElem?_eq_some_iff.1 h).1
  by_cases e : i = p
  · subst e; simp [hp]
  · rw [if_neg e, Array.getElem?_setIfInBounds_ne (fun h => e h.symm)]
theorem Mks.step {w u : World} {g off n k r : Nat} (h : Mks w g off n (k * 4 + r) u) (hk : k < n) (hr : r < 4) : Mks w g off n (k * 4 + r + 1) (u.setCell ⟨g, off + (k * 4 + r), none⟩ (mv (k * 4 + r))) := by
  obtain ⟨h1, cur, h2, h3, h4⟩ := h
  have hc : ∃ y, cur[off + (k * 4 + r)]? = some y := by
    obtain ⟨⟨a, ha⟩, ⟨b, hb⟩, ⟨c, hc⟩, ⟨d, hd⟩⟩ := h4 k hk
    rcases (show r = 0 ∨ r = 1 ∨ r = 2 ∨ r = 3 by omega) with rfl | rfl | rfl | rfl
    · exact ⟨_, ha⟩
    · exact ⟨_, hb⟩
    · exact ⟨_, hc⟩
    · exact ⟨_, hd⟩
  obtain ⟨y, hy⟩ := hc
  refine ⟨grown_set h1, cur.setIfInBounds (off + (k * 4 + r)) (mv (k * 4 + r)), h2.set _ _, fun i hi => ?_, fun j hj => ?_⟩
  · rw [set_at hy]
    by_cases e : i = k * 4 + r
    · subst e; rw [if_pos rfl]
    · rw [if_neg (by omega)]; exact h3 i (by omega)
  · obtain ⟨⟨a, ha⟩, ⟨b, hb⟩, ⟨c, hc⟩, ⟨d, hd⟩⟩ := h4 j hj
    have m1 : ∀ i, i % 4 < 2 → ∃ z, mv i = .int .i64 z := fun i hi => ⟨_, by unfold mv; rw [if_pos hi]⟩
    have m2 : ∀ i, ¬ i % 4 < 2 → ∃ z, mv i = .string z := fun i hi => ⟨_, by unfold mv; rw [if_neg hi]⟩
    rw [set_at hy, set_at hy, set_at hy, set_at hy]
    refine ⟨?_, ?_, ?_, ?_⟩
    · split
      · obtain ⟨z, hz⟩ := m1 (k * 4 + r) (by omega); exact ⟨z, by rw [hz]⟩
      · exact ⟨a, ha⟩
    · split
      · obtain ⟨z, hz⟩ := m1 (k * 4 + r) (by omega); exact ⟨z, by rw [hz]⟩
      · exact ⟨b, hb⟩
    · split
      · obtain ⟨z, hz⟩ := m2 (k * 4 + r) (by omega); exact ⟨z, by rw [hz]⟩
      · exact ⟨c, hc⟩
    · split
      · obtain ⟨z, hz⟩ := m2 (k * 4 + r) (by omega); exact ⟨z, by rw [hz]⟩
      · exact ⟨d, hd⟩
theorem Mks.at {w u : World} {g off n c : Nat} (h : Mks w g off n c u) {k : Nat} (hk : k < n) : (∃ z, u.cell? ⟨g, off + k * 4, none⟩ = some (.int .i64 z)) ∧ (∃ z, u.cell? ⟨g, off + k * 4 + 1, none⟩ = some (.int .i64 z)) ∧ (∃ s, u.cell? ⟨g, off + k * 4 + 2, none⟩ = some (.string s)) ∧ (∃ s, u.cell? ⟨g, off + k * 4 + 3, none⟩ = some (.string s)) ∧ ∀ j, u.frozen? ⟨g, j, none⟩ = false := by
  obtain ⟨h1, cur, h2, h3, h4⟩ := h
  obtain ⟨⟨a, ha⟩, ⟨b, hb⟩, ⟨c, hc⟩, ⟨d, hd⟩⟩ := h4 k hk
  exact ⟨⟨a, (h2.cell _).trans ha⟩, ⟨b, (h2.cell _).trans hb⟩, ⟨c, (h2.cell _).trans hc⟩, ⟨d, (h2.cell _).trans hd⟩, fun j => h2.frozen j⟩
theorem Mks.val {w u : World} {g off n c : Nat} (h : Mks w g off n c u) {i : Nat} (hi : i < c) : u.cell? ⟨g, off + i, none⟩ = some (mv i) := by
  obtain ⟨h1, cur, h2, h3, h4⟩ := h
  exact (h2.cell _).trans (h3 i hi)
set_option maxRecDepth 20000 in
set_option maxHeartbeats 4000000 in
theorem markRows (g off cap n : Nat) (w : World) (hl : n ≤ 12) (h : Mks w g off n 0 w) :
    Calls Tryd.prog 44 #[.slice (some ⟨g, off, none⟩) n cap, .int .i64 1] w fun r w' => r = .returned (.int .i64 (4 * (n : Int) + 1)) ∧ Mks w g off n (n * 4) w' := by
  have H0 : Hid (Mks w g off n (0 * 4) w) := h
  clear h
  go_enter Tryd.func44, Tryd.ntmps44
  go_wp2
  go_loopw [1, 5] (fun kk i u => ∃ k : Nat, k ≤ n ∧ i = .int .i64 k ∧ kk = .int .i64 (4 * (k : Int) + 1) ∧ Hid (Mks w g off n (k * 4) u)) (fun _ i _ => n - (intOf i).toNat)
  case atStart => exact ⟨0, Nat.zero_le _, rfl, rfl, H0⟩
  case round =>
    clear H0
    obtain ⟨k, hk, rfl, rfl, HM⟩ := hrel
    by_cases hlt : k < n
    · have HT1 : Hid (∀ u, Calls Tryd.prog 62 #[.int .i64 (4 * (k : Int) + 1 + 1 + 1)] u fun r w' => r = .returned (.string (markT (4 * k + 3))) ∧ Below u.heap.size u w') := fun u => by
        have := markText_any (4 * k + 3) u (by omega) (by omega)
        have e : ((4 * k + 3 : Nat) : Int) = 4 * (k : Int) + 1 + 1 + 1 := by omega
        rwa [e] at this
      have HT2 : Hid (∀ u, Calls Tryd.prog 62 #[.int .i64 (4 * (k : Int) + 1 + 1 + 1 + 1)] u fun r w' => r = .returned (.string (markT (4 * k + 4))) ∧ Below u.heap.size u w') := fun u => by
        have := markText_any (4 * k + 4) u (by omega) (by omega)
        have e : ((4 * k + 4 : Nat) : Int) = 4 * (k : Int) + 1 + 1 + 1 + 1 := by omega
        rwa [e] at this
      obtain ⟨z1, hz1⟩ : ∃ z, z = markT (4 * k + 3) := ⟨_, rfl⟩
      obtain ⟨z2, hz2⟩ : ∃ z, z = markT (4 * k + 4) := ⟨_, rfl⟩
      have HS2 : Hid (∀ u, Mks w g off n (k * 4 + 2) u → Mks w g off n (k * 4 + 3) (u.setCell ⟨g, off + k * 4 + 2, none⟩ (.string z1))) := fun u h => by
        have := h.step (r := 2) hlt (by omega); rw [mv2, ← hz1] at this; exact this
      have HS3 : Hid (∀ u, Mks w g off n (k * 4 + 3) u → Mks w g off n ((k + 1) * 4) (u.setCell ⟨g, off + k * 4 + 3, none⟩ (.string z2))) := fun u h => by
        have := h.step (r := 3) hlt (by omega); rw [mv3, ← hz2] at this; rw [show (k + 1) * 4 = k * 4 + 3 + 1 by omega]; exact this
      have HH : Mks w g off n (k * 4 + 2) ((wr.setCell ⟨g, off + k * 4, none⟩ (.int .i64 (4 * (k : Int) + 1))).setCell ⟨g, off + k * 4 + 1, none⟩ (.int .i64 (4 * (k : Int) + 1 + 1))) := by
        have a := HM.out.step (r := 0) hlt (by omega)
        have b := a.step (r := 1) hlt (by omega)
        rw [mv1, show mv (k * 4 + 0) = .int .i64 (4 * (k : Int) + 1) from mv0 k] at b
        exact b
      rw [← hz1] at HT1
      rw [← hz2] at HT2
      clear hz1 hz2
      obtain ⟨⟨y0, c0⟩, ⟨y1, c1⟩, ⟨y2, c2⟩, ⟨y3, c3⟩, f1⟩ := HM.out.at hlt
      go_wp2_with (go_at_call 62; fail)
      refine calls_w (Mks w g off n (k * 4 + 2)) HH ?_
      clear HM HH c0 c1 c2 c3 f1 y0 y1 y2 y3
      intro u hu
      refine (HT1.out u).mono ?_
      rintro r w1 ⟨rfl, hb1⟩
      have hM := hu.up hb1
      obtain ⟨⟨y0, c0⟩, ⟨y1, c1⟩, ⟨y2, c2⟩, ⟨y3, c3⟩, f1⟩ := hM.at hlt
      have hM2 := HS2.out w1 hM
      clear hM hu hb1 HT1 HS2
      go_wp2_with (go_at_call 62; fail)
      refine calls_w (Mks w g off n (k * 4 + 3)) hM2 ?_
      clear hM2 c0 c1 c2 c3 f1 y0 y1 y2 y3
      intro u hu
      refine (HT2.out u).mono ?_
      rintro r w1 ⟨rfl, hb1⟩
      have hM := hu.up hb1
      obtain ⟨⟨y0, c0⟩, ⟨y1, c1⟩, ⟨y2, c2⟩, ⟨y3, c3⟩, f1⟩ := hM.at hlt
      have HS4 : Hid (Mks w g off n ((k + 1) * 4) (w1.setCell ⟨g, off + k * 4 + 3, none⟩ (.string z2))) := HS3.out w1 hM
      clear hM hu hb1 HT2 HS3
      go_wp2
      exact ⟨⟨k + 1, by omega, by go_num, by go_num, HS4⟩, by simp [intOf]; omega⟩
    · obtain rfl : k = n := by omega
      go_wp2
      go_ret
      exact ⟨rfl, HM.out⟩
end Go.Proofs.YtndjjhcdnlkekaaDoor.cu
