/-
  The model's quarter of a list of numbers: the plain function's list lies in the row behind it; nothing else turns.
-/
import Derived.Test.YtneahcoakbbdaaaDoorChaPlain
import Derived.Deep.MidRow
import Derived.Deep.Cut
import Derived.Deep.RegionWith
import Derived.BigRegion
import Derived.BigQuiet
import Derived.Deep.QuietTactic
import Derived.WalkSpells
import Derived.WalkSmall
import Derived.Laws.Tables
import Derived.Laws.CopyOwn
namespace Go.Proofs.YtneahcoakbbdaaaDoor.cc
open Go.ChangeShapes Go.WideShapes Go.ChangeAt Go.RowKit
open Go.Proofs.YtneahcoakbbdaaaDoor.sh (U wr xor bits_U wr_U or_comm)
set_option linter.unusedVariables false

set_option maxHeartbeats 1000000 in
theorem leftM_any (x : Int) (k : Nat) (w : World) (hk : 0 < k ∧ k < 32) (hx : U x) :
    Calls Tryd.prog 107 #[.int .u32 x, .int .u64 (k : Int)] w fun e w' => e = .returned (.int .u32 (rotl k x)) ∧ w' = w := by
  have e0 : ((32 : Int) - k).toNat = 32 - k := by omega
  go_enter Tryd.func107, Tryd.ntmps107
  go_wp2
  go_ret
  refine ⟨congrArg (fun y => Ending.returned (.int .u32 y)) ?_, rfl⟩
  unfold rotl wr
  rw [IntKind.wrap_u32]

/-- a row that begins with these numbers -/
def RowU (w : World) (g : Nat) (l : List Int) : Prop := ∃ cur, w.heap[g]? = some (.cells cur 85 (0, 0)) ∧ ∀ i, i < l.length → cur[i]? = some (.int .u32 (l.getD i 0))
theorem RowU.cell {w : World} {g : Nat} {l : List Int} (h : RowU w g l) (i : Nat) (hi : i < l.length) : w.cell? ⟨g, i, none⟩ = some (.int .u32 (l.getD i 0)) := by
  obtain ⟨cur, hh, hc⟩ := h
  rw [cell_of_row _ _ _ _ _ _ hh]; exact hc i hi
theorem RowU.free {w : World} {g : Nat} {l : List Int} (h : RowU w g l) (i : Nat) : w.frozen? ⟨g, i, none⟩ = false := by
  obtain ⟨cur, hh, hc⟩ := h
  exact frozen_of_row _ _ _ _ _ hh
theorem getD_set (l : List Int) (i j : Nat) (x : Int) (hj : j < l.length) : (l.set i x).getD j 0 = if i = j then x else l.getD j 0 := by
  rw [List.getD_eq_getElem?_getD, List.getElem?_set, List.getD_eq_getElem?_getD]
  by_cases h : i = j
  · subst h; simp [hj]
  · simp [h]
theorem RowU.set {w : World} {g : Nat} {l : List Int} (h : RowU w g l) (i : Nat) (hi : i < l.length) (x : Int) : RowU (w.setCell ⟨g, i, none⟩ (.int .u32 x)) g (l.set i x) := by
  obtain ⟨cur, hh, hc⟩ := h
  refine ⟨_, heap_setCell_same _ _ _ _ _ _ hh, fun j hj => ?_⟩
  rw [List.length_set] at hj
  have hs : i < cur.size := by
    rcases Nat.lt_or_ge i cur.size with h' | h'
    · exact h'
    · have := hc i hi; rw [Array.getElem?_eq_none h'] at this; cases this
  rw [getD_set l i j x hj, Array.getElem?_setIfInBounds]
  by_cases h : i = j
  · subst h; simp [hs]
  · simp [h, hc j hj]
theorem gset {a w : World} {p : Nat} (h : a.grownBy w (some p)) (i : Nat) (v : Value) : a.grownBy (w.setCell ⟨p, i, none⟩ v) (some p) :=
  ⟨h.os, h.tape, h.output, by simpa [World.setCell] using h.size, fun k hk hne => by
    rw [Below.heap_setCell _ _ _ _ (fun e => hne (by simp [e]))]
    exact h.block k hk hne⟩
theorem gdrew1 {a w : World} {r : Option Nat} (h : a.grownBy w r) : a.grownBy w.drew r := ⟨h.os, h.tape, h.output, h.size, h.block⟩

set_option maxRecDepth 20000 in
set_option maxHeartbeats 16000000 in
theorem quarterM_any (g cap n : Nat) (l : List Int) (a b c d : Nat) (w : World) (hU : AllU l) (hn : l.length = n) (hn16 : n ≤ 1000) (ha : a < n) (hb : b < n) (hc : c < n) (hd : d < n) (hr : RowU w g l) :
    Calls Tryd.prog 93 #[.slice (some ⟨g, 0, none⟩) n cap, .int .i64 (a : Int), .int .i64 (b : Int), .int .i64 (c : Int), .int .i64 (d : Int)] w fun e w' => e = .returned (.tuple #[]) ∧ RowU w' g (quarter l a b c d) ∧ w.grownBy w' (some g) := by
  have na0 : (0 : Int) ≤ (a : Int) := by omega
  have na1 : (a : Int) < (n : Int) := by omega
  have nb0 : (0 : Int) ≤ (b : Int) := by omega
  have nb1 : (b : Int) < (n : Int) := by omega
  have nc0 : (0 : Int) ≤ (c : Int) := by omega
  have nc1 : (c : Int) < (n : Int) := by omega
  have nd0 : (0 : Int) ≤ (d : Int) := by omega
  have nd1 : (d : Int) < (n : Int) := by omega
  have HQ : Hid (quarter l a b c d = xorTo 7 (addTo (xorTo 8 (addTo (xorTo 12 (addTo (xorTo 16 (addTo l a b) d a) c d) b c) a b) d a) c d) b c) := rfl
  have HR0 : Hid (RowU w g l) := hr
  have HG0 : Hid (w.grownBy w (some g)) := World.grownBy.refl _ _
  have HU0 : Hid (AllU l) := hU
  clear hr hU
  go_enter Tryd.func93, Tryd.ntmps93
  obtain ⟨l1, hl1⟩ : ∃ m, m = addTo l a b := ⟨_, rfl⟩
  have Hl1 : Hid (l1 = addTo l a b) := hl1
  have nl1 : l1.length = n := by rw [hl1, addTo_length]; exact hn
  have HU1 : Hid (AllU l1) := by rw [hl1]; exact HU0.out.set _ (wr_U _)
  clear hl1
  have cx := HR0.out.cell a (by omega)
  have cy := HR0.out.cell b (by omega)
  have fx := HR0.out.free a
  have HS : Hid (∀ z, z = wr (l.getD a 0 + l.getD b 0) → RowU (w.setCell ⟨g, a, none⟩ (.int .u32 z)).drew g l1 ∧ w.grownBy (w.setCell ⟨g, a, none⟩ (.int .u32 z)).drew (some g)) := fun z hz => ⟨by rw [Hl1.out, hz]; exact HR0.out.set a (by omega) _, gdrew1 (gset HG0.out _ _)⟩
  generalize l.getD a 0 = x1 at *
  generalize l.getD b 0 = x2 at *
  go_wp2_with fail
  go_cut [] from 10 (fun u => RowU u g l1 ∧ w.grownBy u (some g))
  case first =>
    go_region
    all_goals
      go_wp2_with fail
      go_meet
      case rel => exact HS.out _ (by unfold wr; rw [IntKind.wrap_u32])
  clear cx cy fx HS HR0 HG0 HU0
  obtain ⟨hr1, hg1⟩ := hcut
  rename World => v1
  have HR1 : Hid (RowU v1 g l1) := hr1
  have HG1 : Hid (w.grownBy v1 (some g)) := hg1
  clear hr1 hg1
  obtain ⟨l2, hl2⟩ : ∃ m, m = xorTo 16 l1 d a := ⟨_, rfl⟩
  have Hl2 : Hid (l2 = xorTo 16 l1 d a) := hl2
  have nl2 : l2.length = n := by rw [hl2, xorTo_length]; exact nl1
  have HU2 : Hid (AllU l2) := by rw [hl2]; exact HU1.out.set _ (rotl_U _ _)
  clear hl2
  have cx := HR1.out.cell d (by omega)
  have cy := HR1.out.cell a (by omega)
  have fx := HR1.out.free d
  have HS : Hid (∀ z, z = rotl 16 (xor (l1.getD d 0) (l1.getD a 0)) → RowU (v1.setCell ⟨g, d, none⟩ (.int .u32 z)).drew g l2 ∧ w.grownBy (v1.setCell ⟨g, d, none⟩ (.int .u32 z)).drew (some g)) := fun z hz => ⟨by rw [Hl2.out, hz]; exact HR1.out.set d (by omega) _, gdrew1 (gset HG1.out _ _)⟩
  generalize l1.getD d 0 = x1 at *
  generalize l1.getD a 0 = x2 at *
  go_wp2_with fail
  go_cut [] from 10 (fun u => RowU u g l2 ∧ w.grownBy u (some g))
  case first =>
    go_region_with (go_at_call 107; refine (leftM_any _ _ _ ⟨by decide, by decide⟩ (bits_U _ _ _)).mono ?_; rintro e w' ⟨rfl, rfl⟩)
    all_goals
      go_wp2_with fail
      go_meet
      case rel => exact HS.out _ (by rfl)
  clear cx cy fx HS HR1 HG1 HU1
  obtain ⟨hr2, hg2⟩ := hcut
  rename World => v2
  have HR2 : Hid (RowU v2 g l2) := hr2
  have HG2 : Hid (w.grownBy v2 (some g)) := hg2
  clear hr2 hg2
  obtain ⟨l3, hl3⟩ : ∃ m, m = addTo l2 c d := ⟨_, rfl⟩
  have Hl3 : Hid (l3 = addTo l2 c d) := hl3
  have nl3 : l3.length = n := by rw [hl3, addTo_length]; exact nl2
  have HU3 : Hid (AllU l3) := by rw [hl3]; exact HU2.out.set _ (wr_U _)
  clear hl3
  have cx := HR2.out.cell c (by omega)
  have cy := HR2.out.cell d (by omega)
  have fx := HR2.out.free c
  have HS : Hid (∀ z, z = wr (l2.getD c 0 + l2.getD d 0) → RowU (v2.setCell ⟨g, c, none⟩ (.int .u32 z)).drew g l3 ∧ w.grownBy (v2.setCell ⟨g, c, none⟩ (.int .u32 z)).drew (some g)) := fun z hz => ⟨by rw [Hl3.out, hz]; exact HR2.out.set c (by omega) _, gdrew1 (gset HG2.out _ _)⟩
  generalize l2.getD c 0 = x1 at *
  generalize l2.getD d 0 = x2 at *
  go_wp2_with fail
  go_cut [] from 10 (fun u => RowU u g l3 ∧ w.grownBy u (some g))
  case first =>
    go_region
    all_goals
      go_wp2_with fail
      go_meet
      case rel => exact HS.out _ (by unfold wr; rw [IntKind.wrap_u32])
  clear cx cy fx HS HR2 HG2 HU2
  obtain ⟨hr3, hg3⟩ := hcut
  rename World => v3
  have HR3 : Hid (RowU v3 g l3) := hr3
  have HG3 : Hid (w.grownBy v3 (some g)) := hg3
  clear hr3 hg3
  obtain ⟨l4, hl4⟩ : ∃ m, m = xorTo 12 l3 b c := ⟨_, rfl⟩
  have Hl4 : Hid (l4 = xorTo 12 l3 b c) := hl4
  have nl4 : l4.length = n := by rw [hl4, xorTo_length]; exact nl3
  have HU4 : Hid (AllU l4) := by rw [hl4]; exact HU3.out.set _ (rotl_U _ _)
  clear hl4
  have cx := HR3.out.cell b (by omega)
  have cy := HR3.out.cell c (by omega)
  have fx := HR3.out.free b
  have HS : Hid (∀ z, z = rotl 12 (xor (l3.getD b 0) (l3.getD c 0)) → RowU (v3.setCell ⟨g, b, none⟩ (.int .u32 z)).drew g l4 ∧ w.grownBy (v3.setCell ⟨g, b, none⟩ (.int .u32 z)).drew (some g)) := fun z hz => ⟨by rw [Hl4.out, hz]; exact HR3.out.set b (by omega) _, gdrew1 (gset HG3.out _ _)⟩
  generalize l3.getD b 0 = x1 at *
  generalize l3.getD c 0 = x2 at *
  go_wp2_with fail
  go_cut [] from 10 (fun u => RowU u g l4 ∧ w.grownBy u (some g))
  case first =>
    go_region_with (go_at_call 107; refine (leftM_any _ _ _ ⟨by decide, by decide⟩ (bits_U _ _ _)).mono ?_; rintro e w' ⟨rfl, rfl⟩)
    all_goals
      go_wp2_with fail
      go_meet
      case rel => exact HS.out _ (by rfl)
  clear cx cy fx HS HR3 HG3 HU3
  obtain ⟨hr4, hg4⟩ := hcut
  rename World => v4
  have HR4 : Hid (RowU v4 g l4) := hr4
  have HG4 : Hid (w.grownBy v4 (some g)) := hg4
  clear hr4 hg4
  obtain ⟨l5, hl5⟩ : ∃ m, m = addTo l4 a b := ⟨_, rfl⟩
  have Hl5 : Hid (l5 = addTo l4 a b) := hl5
  have nl5 : l5.length = n := by rw [hl5, addTo_length]; exact nl4
  have HU5 : Hid (AllU l5) := by rw [hl5]; exact HU4.out.set _ (wr_U _)
  clear hl5
  have cx := HR4.out.cell a (by omega)
  have cy := HR4.out.cell b (by omega)
  have fx := HR4.out.free a
  have HS : Hid (∀ z, z = wr (l4.getD a 0 + l4.getD b 0) → RowU (v4.setCell ⟨g, a, none⟩ (.int .u32 z)).drew g l5 ∧ w.grownBy (v4.setCell ⟨g, a, none⟩ (.int .u32 z)).drew (some g)) := fun z hz => ⟨by rw [Hl5.out, hz]; exact HR4.out.set a (by omega) _, gdrew1 (gset HG4.out _ _)⟩
  generalize l4.getD a 0 = x1 at *
  generalize l4.getD b 0 = x2 at *
  go_wp2_with fail
  go_cut [] from 10 (fun u => RowU u g l5 ∧ w.grownBy u (some g))
  case first =>
    go_region
    all_goals
      go_wp2_with fail
      go_meet
      case rel => exact HS.out _ (by unfold wr; rw [IntKind.wrap_u32])
  clear cx cy fx HS HR4 HG4 HU4
  obtain ⟨hr5, hg5⟩ := hcut
  rename World => v5
  have HR5 : Hid (RowU v5 g l5) := hr5
  have HG5 : Hid (w.grownBy v5 (some g)) := hg5
  clear hr5 hg5
  obtain ⟨l6, hl6⟩ : ∃ m, m = xorTo 8 l5 d a := ⟨_, rfl⟩
  have Hl6 : Hid (l6 = xorTo 8 l5 d a) := hl6
  have nl6 : l6.length = n := by rw [hl6, xorTo_length]; exact nl5
  have HU6 : Hid (AllU l6) := by rw [hl6]; exact HU5.out.set _ (rotl_U _ _)
  clear hl6
  have cx := HR5.out.cell d (by omega)
  have cy := HR5.out.cell a (by omega)
  have fx := HR5.out.free d
  have HS : Hid (∀ z, z = rotl 8 (xor (l5.getD d 0) (l5.getD a 0)) → RowU (v5.setCell ⟨g, d, none⟩ (.int .u32 z)).drew g l6 ∧ w.grownBy (v5.setCell ⟨g, d, none⟩ (.int .u32 z)).drew (some g)) := fun z hz => ⟨by rw [Hl6.out, hz]; exact HR5.out.set d (by omega) _, gdrew1 (gset HG5.out _ _)⟩
  generalize l5.getD d 0 = x1 at *
  generalize l5.getD a 0 = x2 at *
  go_wp2_with fail
  go_cut [] from 10 (fun u => RowU u g l6 ∧ w.grownBy u (some g))
  case first =>
    go_region_with (go_at_call 107; refine (leftM_any _ _ _ ⟨by decide, by decide⟩ (bits_U _ _ _)).mono ?_; rintro e w' ⟨rfl, rfl⟩)
    all_goals
      go_wp2_with fail
      go_meet
      case rel => exact HS.out _ (by rfl)
  clear cx cy fx HS HR5 HG5 HU5
  obtain ⟨hr6, hg6⟩ := hcut
  rename World => v6
  have HR6 : Hid (RowU v6 g l6) := hr6
  have HG6 : Hid (w.grownBy v6 (some g)) := hg6
  clear hr6 hg6
  obtain ⟨l7, hl7⟩ : ∃ m, m = addTo l6 c d := ⟨_, rfl⟩
  have Hl7 : Hid (l7 = addTo l6 c d) := hl7
  have nl7 : l7.length = n := by rw [hl7, addTo_length]; exact nl6
  have HU7 : Hid (AllU l7) := by rw [hl7]; exact HU6.out.set _ (wr_U _)
  clear hl7
  have cx := HR6.out.cell c (by omega)
  have cy := HR6.out.cell d (by omega)
  have fx := HR6.out.free c
  have HS : Hid (∀ z, z = wr (l6.getD c 0 + l6.getD d 0) → RowU (v6.setCell ⟨g, c, none⟩ (.int .u32 z)).drew g l7 ∧ w.grownBy (v6.setCell ⟨g, c, none⟩ (.int .u32 z)).drew (some g)) := fun z hz => ⟨by rw [Hl7.out, hz]; exact HR6.out.set c (by omega) _, gdrew1 (gset HG6.out _ _)⟩
  generalize l6.getD c 0 = x1 at *
  generalize l6.getD d 0 = x2 at *
  go_wp2_with fail
  go_cut [] from 10 (fun u => RowU u g l7 ∧ w.grownBy u (some g))
  case first =>
    go_region
    all_goals
      go_wp2_with fail
      go_meet
      case rel => exact HS.out _ (by unfold wr; rw [IntKind.wrap_u32])
  clear cx cy fx HS HR6 HG6 HU6
  obtain ⟨hr7, hg7⟩ := hcut
  rename World => v7
  have HR7 : Hid (RowU v7 g l7) := hr7
  have HG7 : Hid (w.grownBy v7 (some g)) := hg7
  clear hr7 hg7
  obtain ⟨l8, hl8⟩ : ∃ m, m = xorTo 7 l7 b c := ⟨_, rfl⟩
  have Hl8 : Hid (l8 = xorTo 7 l7 b c) := hl8
  have nl8 : l8.length = n := by rw [hl8, xorTo_length]; exact nl7
  have HU8 : Hid (AllU l8) := by rw [hl8]; exact HU7.out.set _ (rotl_U _ _)
  clear hl8
  have cx := HR7.out.cell b (by omega)
  have cy := HR7.out.cell c (by omega)
  have fx := HR7.out.free b
  have HS : Hid (∀ z, z = rotl 7 (xor (l7.getD b 0) (l7.getD c 0)) → RowU (v7.setCell ⟨g, b, none⟩ (.int .u32 z)).drew g l8 ∧ w.grownBy (v7.setCell ⟨g, b, none⟩ (.int .u32 z)).drew (some g)) := fun z hz => ⟨by rw [Hl8.out, hz]; exact HR7.out.set b (by omega) _, gdrew1 (gset HG7.out _ _)⟩
  generalize l7.getD b 0 = x1 at *
  generalize l7.getD c 0 = x2 at *
  go_wp2_with fail
  go_region_with (go_at_call 107; refine (leftM_any _ _ _ ⟨by decide, by decide⟩ (bits_U _ _ _)).mono ?_; rintro e w' ⟨rfl, rfl⟩)
  all_goals
    go_wp2_with fail
    go_end0
    obtain ⟨h1, h2⟩ := HS.out _ rfl
    refine ⟨rfl, ?_, h2⟩
    rw [HQ.out, ← Hl1.out, ← Hl2.out, ← Hl3.out, ← Hl4.out, ← Hl5.out, ← Hl6.out, ← Hl7.out, ← Hl8.out]
    exact h1
end Go.Proofs.YtneahcoakbbdaaaDoor.cc
