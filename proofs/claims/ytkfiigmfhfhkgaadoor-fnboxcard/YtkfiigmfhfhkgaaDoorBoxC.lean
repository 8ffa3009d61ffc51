/-
  The law on boxes for every bytes that are drawn from, where these are at most 2^20 each and the two tables lie in their variables: it answers true; no old block turns.
-/
import Derived.Test.YtkfiigmfhfhkgaaDoorDrawBox3
import Derived.Test.YtkfiigmfhfhkgaaDoorDrawBox4
import Derived.Test.YtkfiigmfhfhkgaaDoorBoxIS
import Derived.Test.YtkfiigmfhfhkgaaDoorBoxOut
import Derived.Deep.RegionWith
import Derived.Deep.Cut
namespace Go.Proofs.YtkfiigmfhfhkgaaDoor.cc
open Go.ChangeShapes Go.WideShapes Go.ChangeAt Go.RowKit
open Go.Proofs.YtkfiigmfhfhkgaaDoor.dr (Codes)
open Go.Proofs.YtkfiigmfhfhkgaaDoor.db
set_option linter.unusedVariables false

/-- what is known inside the law: the answer of OpenBox lies in its block -/
def InX (w : World) (p : Nat) (T : ByteArray) (c : Int) (u : World) : Prop := Below w.heap.size w u ∧ u.heap[p]? = some (.cells #[.string T, .int .i64 0, .int .i64 c] 31 (0, 0))
theorem InX.up {w u u' : World} {p : Nat} {T : ByteArray} {c : Int} (h : InX w p T c u) (hb : Below u.heap.size u u') : InX w p T c u' := ⟨h.1.trans (hb.mono h.1.size), (hb.block _ (ltR h.2)).trans h.2⟩
theorem InX.drew {w u : World} {p : Nat} {T : ByteArray} {c : Int} (h : InX w p T c u) : InX w p T c u.drew := ⟨h.1.drew, h.2⟩
theorem InX.cells {w u : World} {p : Nat} {T : ByteArray} {c : Int} (h : InX w p T c u) : u.cell? ⟨p, 0, none⟩ = some (.string T) ∧ u.cell? ⟨p, 1, none⟩ = some (.int .i64 0) ∧ u.cell? ⟨p, 2, none⟩ = some (.int .i64 c) := by
  obtain ⟨k0, k1, k2, _⟩ := cells3 h.2
  exact ⟨k0, k1, k2⟩
theorem wp_wX {P : Program} {c : Code} {Q : Exit → Act → World → Prop} {a : Act} {w : World} (I : World → Prop) (hI : I w) (h : ∀ u, I u → c.wp P Q a u) : c.wp P Q a w := h w hI
theorem empty_beq {X : ByteArray} (h : ¬ X = ⟨#[]⟩) : (X.toList == ([] : List UInt8)) = false := by
  simp only [beq_eq_false_iff_ne, ne_eq, toList_dataQ]
  intro e; exact h (bytes_injQ e)

set_option maxRecDepth 20000 in
set_option maxHeartbeats 16000000 in
theorem boxCore (a0 : Option Addr) (len0 cap0 : Nat) (a1 : Option Addr) (len1 cap1 : Nat) (w : World) (c0 : Codes w w.heap.size a0 len0) (c1 : Codes w w.heap.size a1 len1) (hg : Both w) :
    Calls Tryd.prog 6 #[.slice a0 len0 cap0, .slice a1 len1 cap1] w fun e w' => e = .returned (.bool true) ∧ Below w.heap.size w w' := by
  have l0 := c0.1
  have l1 := c1.1
  have HC0 : Hid (Codes w w.heap.size a0 len0) := c0
  have HC1 : Hid (∀ u, Below w.heap.size w u → Codes u u.heap.size a1 len1) := fun u hb => by
    obtain ⟨hl, h⟩ := c1.below hb
    refine ⟨hl, h.imp id fun ⟨b, off, e, hB, hc⟩ => ⟨b, off, e, by have := hb.size; omega, hc⟩⟩
  have HG : Hid (∀ u, Below w.heap.size w u → Both u) := fun u hb => hg.up hb
  clear c0 c1 hg
  go_enter Tryd.func6, Tryd.ntmps6
  go_wp2_with fail
  refine (drawSealBox_any a0 len0 cap0 _ HC0.out).mono ?_
  rintro e w1 ⟨key, n, t, rfl, hk, n0, n1, ht, hB1⟩
  clear HC0
  go_wp2_with fail
  refine (implSeal_any key n t w1 (by unfold maxLen; omega) (by unfold maxLen; omega) (HG.out _ hB1)).mono ?_
  rintro e w2 ⟨rfl, hb2⟩
  have hB2 := hB1.trans (hb2.mono hB1.size)
  clear hb2 hB1
  obtain ⟨B, hX⟩ : ∃ B, B = sealA key n t := ⟨_, rfl⟩
  have HX : Hid (B = sealA key n t) := hX
  have hBs : B.size ≤ 1016 := by rw [hX]; exact sealA_size key n t
  rw [← hX]
  clear hX
  go_wp2_with fail
  refine (drawOpenBox_any a1 len1 cap1 _ (HC1.out _ hB2)).mono ?_
  rintro e w3 ⟨k, m, x, rfl, kk, m0, m1, hx, hb3⟩
  have hB3 := hB2.trans (hb3.mono hB2.size)
  clear hb3 hB2 HC1
  obtain ⟨T, c, hO⟩ : ∃ T c, openA k m x = (T, c) := ⟨_, _, rfl⟩
  have HO : Hid (openA k m x = (T, c)) := hO
  clear hO
  go_wp2_with fail
  refine (implOpen_out k m x T c HO.out w3 (by unfold maxLen; omega) (by unfold maxLen; omega) (HG.out _ hB3)).mono ?_
  rintro e w4 ⟨rfl, hb4⟩
  have hB4 := hB3.trans (hb4.mono hB3.size)
  clear hb4 hB3
  go_wp2_with fail
  obtain ⟨p, hp⟩ : ∃ p, p = w4.heap.size := ⟨_, rfl⟩
  rw [← hp]
  refine wp_wX (fun u => InX w p T c u) ⟨hB4.alloc hB4.size _, by rw [hp]; exact heap_alloc_new _ _⟩ ?_
  clear hp hB4
  intro u hI
  have hq : (T.toList == T.toList) = true := by simp
  go_cut [54] from 13 (fun b u => b = .bool false ∧ InX w p T c u)
  case first =>
    have HI := hI.drew
    clear hI
    obtain ⟨k0, k1, k2⟩ := HI.cells
    go_region_with (first | (go_at_call 38; (with_reducible refine (specSeal_any _ _ _ _ (by unfold maxLen; omega) (by unfold maxLen; omega)).mono ?_); rw [← HX.out]; rintro e u' ⟨rfl, hb⟩; replace HI := HI.up hb; clear hb k0 k1 k2; obtain ⟨k0, k1, k2⟩ := HI.cells) | (go_at_call 39; (with_reducible refine (specOpen_out _ _ _ _ _ HO.out _ (by unfold maxLen; omega) (by unfold maxLen; omega)).mono ?_); rintro e u' ⟨rfl, hb⟩; replace HI := HI.up hb; clear hb k0 k1 k2; obtain ⟨k0, k1, k2⟩ := HI.cells))
    all_goals
      go_wp2_with fail
      go_meet
      case rel => exact ⟨rfl, HI⟩
  case rest =>
    obtain ⟨rfl, hI2⟩ := hcut
    clear hI
    have Hop : Hid (c = 0 → T.size ≤ 1000 → sealA k m T = x) := fun h1 h2 => by
      have h := seal_open k m x
      rw [HO.out] at h
      exact h h1 h2
    clear HO
    obtain ⟨k0, k1, k2⟩ := hI2.cells
    by_cases hc : c = 0
    · subst hc
      by_cases hT : T.size ≤ 1000
      · have hTi : (T.size : Int) ≤ 1000 := by omega
        have HT : Hid (sealA k m T = x) := Hop.out rfl hT
        go_wp2_with fail
        refine (implSeal_any k m T _ (by unfold maxLen; omega) (by unfold maxLen; omega) (HG.out _ hI2.1)).mono ?_
        rw [HT.out]
        rintro e w8 ⟨rfl, hb8⟩
        replace hI2 := hI2.up hb8
        clear hb8 k0 k1 k2 Hop HT
        by_cases hB0 : B = ⟨#[]⟩
        · subst hB0
          go_wp2_with fail
          go_ret
          exact ⟨rfl, hI2.1⟩
        · have hBb := empty_beq hB0
          obtain ⟨ho, hs⟩ := open_seal key n t (by rw [← HX.out]; exact hB0)
          rw [← HX.out] at ho hs
          have hsz : (B.size : Int) = (t.size : Int) + 16 := by omega
          have ew : IntKind.i64.wrap ((t.size : Int) + 16) = (t.size : Int) + 16 := by rw [IntKind.wrap_i64]; omega
          have hszb : ((B.size : Int) == (t.size : Int) + 16) = true := by simp; omega
          have HP : Hid (openA key n B = (t, 0)) := ho
          clear ho
          have hqt : (t.toList == t.toList) = true := by simp
          go_wp2_with fail
          refine (implOpen_out key n B t 0 HP.out _ (by unfold maxLen; omega) (by unfold maxLen; omega) (HG.out _ hI2.1)).mono ?_
          rintro e w9 ⟨rfl, hb9⟩
          have hB9 := hI2.1.trans (hb9.mono hI2.1.size)
          go_wp2_with fail
          go_ret
          exact ⟨rfl, hB9⟩
      · have hTi : ¬ (T.size : Int) ≤ 1000 := by omega
        have hTd : decide ((T.size : Int) ≤ 1000) = false := decide_eq_false hTi
        by_cases hB0 : B = ⟨#[]⟩
        · subst hB0
          go_wp2_with fail
          go_ret
          exact ⟨rfl, hI2.1⟩
        · have hBb := empty_beq hB0
          obtain ⟨ho, hs⟩ := open_seal key n t (by rw [← HX.out]; exact hB0)
          rw [← HX.out] at ho hs
          have hsz : (B.size : Int) = (t.size : Int) + 16 := by omega
          have ew : IntKind.i64.wrap ((t.size : Int) + 16) = (t.size : Int) + 16 := by rw [IntKind.wrap_i64]; omega
          have hszb : ((B.size : Int) == (t.size : Int) + 16) = true := by simp; omega
          have HP : Hid (openA key n B = (t, 0)) := ho
          clear ho
          have hqt : (t.toList == t.toList) = true := by simp
          go_wp2_with fail
          refine (implOpen_out key n B t 0 HP.out _ (by unfold maxLen; omega) (by unfold maxLen; omega) (HG.out _ hI2.1)).mono ?_
          rintro e w9 ⟨rfl, hb9⟩
          have hB9 := hI2.1.trans (hb9.mono hI2.1.size)
          go_wp2_with fail
          go_ret
          exact ⟨rfl, hB9⟩
    · have hcb : (c == 0) = false := by simpa using hc
      by_cases hB0 : B = ⟨#[]⟩
      · subst hB0
        go_wp2_with fail
        go_ret
        exact ⟨rfl, hI2.1⟩
      · have hBb := empty_beq hB0
        obtain ⟨ho, hs⟩ := open_seal key n t (by rw [← HX.out]; exact hB0)
        rw [← HX.out] at ho hs
        have hsz : (B.size : Int) = (t.size : Int) + 16 := by omega
        have ew : IntKind.i64.wrap ((t.size : Int) + 16) = (t.size : Int) + 16 := by rw [IntKind.wrap_i64]; omega
        have hszb : ((B.size : Int) == (t.size : Int) + 16) = true := by simp; omega
        have HP : Hid (openA key n B = (t, 0)) := ho
        clear ho
        have hqt : (t.toList == t.toList) = true := by simp
        go_wp2_with fail
        refine (implOpen_out key n B t 0 HP.out _ (by unfold maxLen; omega) (by unfold maxLen; omega) (HG.out _ hI2.1)).mono ?_
        rintro e w9 ⟨rfl, hb9⟩
        have hB9 := hI2.1.trans (hb9.mono hI2.1.size)
        go_wp2_with fail
        go_ret
        exact ⟨rfl, hB9⟩
end Go.Proofs.YtkfiigmfhfhkgaaDoor.cc
