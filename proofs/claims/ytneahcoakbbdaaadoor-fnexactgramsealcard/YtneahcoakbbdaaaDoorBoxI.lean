/-
  The program's parts of a box: the test of key and number, the two keys, the tool of key and number, what it hides and what stands behind it, where the two tables lie in their variables: what the plain functions tell; no old block turns.
-/
import Derived.Test.YtneahcoakbbdaaaDoorBoxPlain
import Derived.Test.YtneahcoakbbdaaaDoorChaIF
import Derived.Deep.RegionHeld2
namespace Go.Proofs.YtneahcoakbbdaaaDoor.cc
open Go.ChangeShapes Go.WideShapes Go.ChangeAt Go.RowKit
open Go.Proofs.YtneahcoakbbdaaaDoor.sh (U macB macB_size implMac_core Tab)
set_option linter.unusedVariables false

/-- the two tables lie in their variables -/
def Both (w : World) : Prop := Tab w ∧ Mixes w
theorem Both.up {w u : World} (h : Both w) (hb : Below w.heap.size w u) : Both u := ⟨h.1.up hb, h.2.up hb⟩

theorem boxRight_any (key : ByteArray) (n : Int) (w : World) (hk : key.size ≤ maxLen) :
    Calls Tryd.prog 28 #[.string key, .int .i64 n] w fun e w' => e = .returned (.bool (decide (1 ≤ key.size ∧ key.size ≤ 64 ∧ 0 ≤ n ∧ n ≤ 1000000))) ∧ w' = w := by
  unfold maxLen at hk
  by_cases h0 : 1 ≤ key.size
  · by_cases h1 : key.size ≤ 64
    · by_cases h2 : 0 ≤ n
      · by_cases h3 : n ≤ 1000000
        · rw [decide_eq_true (⟨h0, h1, h2, h3⟩ : 1 ≤ key.size ∧ key.size ≤ 64 ∧ 0 ≤ n ∧ n ≤ 1000000)]
          go_enter Tryd.func28, Tryd.ntmps28
          go_wp2
          go_ret
          exact ⟨rfl, rfl⟩
        · rw [decide_eq_false (fun h => h3 h.2.2.2)]
          go_enter Tryd.func28, Tryd.ntmps28
          go_wp2
          go_ret
          exact ⟨rfl, rfl⟩
      · rw [decide_eq_false (fun h => h2 h.2.2.1)]
        go_enter Tryd.func28, Tryd.ntmps28
        go_wp2
        go_ret
        exact ⟨rfl, rfl⟩
    · rw [decide_eq_false (fun h => h1 h.2.1)]
      go_enter Tryd.func28, Tryd.ntmps28
      go_wp2
      go_ret
      exact ⟨rfl, rfl⟩
  · rw [decide_eq_false (fun h => h0 h.1)]
    go_enter Tryd.func28, Tryd.ntmps28
    go_wp2
    go_ret
    exact ⟨rfl, rfl⟩

theorem infoS : (Tryd.prog.info? 9).map (fun i => (i.zero, i.size, i.bytes)) = some (some (.string ⟨#[]⟩), 1, 16) := by kernel_rfl
/-- the keys on the way -/
def keysTo (key : ByteArray) (k : Nat) : List Value := [Value.string (macB key hideW), Value.string (macB key signW)].take k
def useOf (k : Nat) : ByteArray := if k = 0 then hideW else signW
theorem useOf_size (k : Nat) : (useOf k).size ≤ 8000 := by unfold useOf; split <;> decide
theorem keysTo_succ (key : ByteArray) : ∀ k, k < 2 → keysTo key (k + 1) = keysTo key k ++ [Value.string (macB key (useOf k))]
  | 0, _ => rfl
  | 1, _ => rfl
  | k + 2, h => by omega

theorem two_of_own {x : World} {base : Nat} {v : Value} {key : ByteArray} (h : x.ownsRow base 9 1 v 2 (keysTo key 2)) : ∃ g cap, v = .slice (some ⟨g, 0, none⟩) 2 cap ∧ base ≤ g ∧ x.cell? ⟨g, 0, none⟩ = some (.string (macB key hideW)) ∧ x.cell? ⟨g, 1, none⟩ = some (.string (macB key signW)) := by
  obtain ⟨_, ⟨_, h0⟩ | ⟨g, cap, cur, hv, hg, hh, h1, h2, h3, h4⟩⟩ := h
  · omega
  · have e : ∀ i, i < 2 → cur[i]? = (keysTo key 2)[i]? := fun i hi => by
      have : (cur.toList.take (2 * 1))[i]? = (keysTo key 2)[i]? := by rw [h4]
      rw [List.getElem?_take_of_lt (by omega)] at this
      simpa using this
    exact ⟨g, cap, hv, hg, by rw [cell_of_row _ _ _ _ _ _ hh, e 0 (by omega)]; rfl, by rw [cell_of_row _ _ _ _ _ _ hh, e 1 (by omega)]; rfl⟩

set_option maxRecDepth 20000 in
set_option maxHeartbeats 4000000 in
theorem keysOf_any (key : ByteArray) (u : World) (hk : key.size ≤ 64) (hT : Both u) :
    Calls Tryd.prog 61 #[.string key, .slice (some ⟨u.heap.size, 0, none⟩) 2 2] (u.alloc (.cells #[.string hideW, .string signW] 9)) fun e w' => ∃ g cap : Nat, e = .returned (.slice (some ⟨g, 0, none⟩) 2 cap) ∧ w'.cell? ⟨g, 0, none⟩ = some (.string (macB key hideW)) ∧ w'.cell? ⟨g, 1, none⟩ = some (.string (macB key signW)) ∧ u.heap.size < g ∧ Below u.heap.size u w' := by
  obtain ⟨i0, hi, hz0, hz1, hz2⟩ := info_parts infoS
  obtain ⟨w, hw⟩ : ∃ w, w = u.alloc (.cells #[.string hideW, .string signW] 9) := ⟨_, rfl⟩
  have hbw : Below u.heap.size u w := by rw [hw]; exact (Below.refl _ _).alloc (Nat.le_refl _) _
  have hrow : w.heap[u.heap.size]? = some (.cells #[.string hideW, .string signW] 9 (0, 0)) := by rw [hw]; exact heap_alloc_new _ _
  have hlu := heap_lt hrow
  have HBW : Hid (Below u.heap.size u w) := hbw
  have HRW : Hid (w.heap[u.heap.size]? = some (.cells #[.string hideW, .string signW] 9 (0, 0))) := hrow
  have HTW : Hid (Both w) := hT.up hbw
  rw [← hw]
  clear hw hbw hrow hT
  obtain ⟨q, hq⟩ : ∃ q, q = u.heap.size := ⟨_, rfl⟩
  rw [← hq] at HBW HRW hlu ⊢
  clear hq
  go_enter Tryd.func61, Tryd.ntmps61
  go_wp2
  go_loopw [5, 7, 10] (fun v _ i x => ∃ k : Nat, k ≤ 2 ∧ i = .int .i64 k ∧ x.ownsRow w.heap.size 9 1 v k (keysTo key k) ∧ Hid (Below w.heap.size w x)) (fun _ _ i _ => 2 - (intOf i).toNat)
  case atStart => exact ⟨0, by omega, rfl, ⟨rfl, Or.inl ⟨rfl, rfl⟩⟩, Below.refl _ _⟩
  case round =>
    obtain ⟨k, hk2, rfl, hown, HB⟩ := hrel
    by_cases hlt : k < 2
    · have hc : wr.cell? ⟨q, k, none⟩ = some (.string (useOf k)) := by
        rw [cell_of_row _ _ _ _ _ _ ((HB.out.block _ hlu).trans HRW.out)]
        match k, hlt with
        | 0, _ => rfl
        | 1, _ => rfl
      have hus := useOf_size k
      have HTr : Hid (Both wr) := HTW.out.up HB.out
      have hbs : w.heap.size ≤ wr.heap.size := HB.out.size
      have HKS : Hid (keysTo key (k + 1) = keysTo key k ++ [Value.string (macB key (useOf k))]) := keysTo_succ key k hlt
      generalize useOf k = V at *
      go_wp2_with (first | (go_at_call 64; refine (implMac_core key V wr (by omega) hus HTr.out.1).mono ?_; rintro e w2 ⟨rfl, hb2⟩; have hown2 := own_below hown hb2; have HB2 : Hid (Below w.heap.size w w2) := HB.out.trans (hb2.mono hbs); have hbs2 : w.heap.size ≤ w2.heap.size := HB2.out.size; clear hown HB hb2 hc) | (at_builtin; refine wpList_append_own _ rfl _ _ 86 rfl w.heap.size 9 i0 (.string ⟨#[]⟩) 1 16 Tryd.underlying86 hi hz0 hz1 hz2 rfl (by decide) _ _ _ rfl (hown2.alloc _) ⟨w2.heap.size, 0, none⟩ 1 1 [.string (macB key V)] rfl rfl (cell_one_new _ _ _) (fun x hx => by simp at hx; subst hx; rfl) (by unfold maxLen; omega) (by omega) (by simp; omega) ?_))
      intro v' w3 hown3 hgr3 _
      have HO3 : Hid (w3.ownsRow w.heap.size 9 1 v' (k + 1) (keysTo key (k + 1))) := by
        show World.ownsRow _ _ _ _ _ _ _
        rw [HKS.out]; exact hown3
      have HB3 : Hid (Below w.heap.size w w3) := (HB2.out.alloc hbs2 _).grown hgr3 (by simp; omega) (own_b hown2).out
      clear hown3 hgr3 hown2 HB2
      go_wp2
      go_roundw
      case rel => exact ⟨k + 1, by omega, by go_num, HO3.out, HB3⟩
      case measure => simp [intOf]; omega
    · obtain rfl : k = 2 := by omega
      obtain ⟨g, cap, rfl, hg, h0, h1⟩ := two_of_own hown
      have HH : Hid (w.heap.size ≤ g ∧ wr.cell? ⟨g, 0, none⟩ = some (.string (macB key hideW)) ∧ wr.cell? ⟨g, 1, none⟩ = some (.string (macB key signW))) := ⟨hg, h0, h1⟩
      clear hown hg h0 h1
      go_wp2
      go_ret
      exact ⟨g, cap, rfl, HH.out.2.1, HH.out.2.2, Nat.lt_of_lt_of_le hlu HH.out.1, HBW.out.trans (HB.out.mono (by omega))⟩
theorem keysOf_at (key : ByteArray) (u : World) (q : Nat) (hq : q = u.heap.size) (hk : key.size ≤ 64) (hT : Both u) :
    Calls Tryd.prog 61 #[.string key, .slice (some ⟨q, 0, none⟩) 2 2] (u.alloc (.cells #[.string hideW, .string signW] 9)) fun e w' => ∃ g cap : Nat, e = .returned (.slice (some ⟨g, 0, none⟩) 2 cap) ∧ w'.cell? ⟨g, 0, none⟩ = some (.string (macB key hideW)) ∧ w'.cell? ⟨g, 1, none⟩ = some (.string (macB key signW)) ∧ q < g ∧ Below q u w' := by
  subst hq
  exact keysOf_any key u hk hT
/-- what is known while a tool is made -/
def InT (w : World) (g : Nat) (A B : ByteArray) (u : World) : Prop := Below w.heap.size w u ∧ u.heap[w.heap.size]? = some (.cells #[.string ⟨#[]⟩, .string ⟨#[]⟩, .string ⟨#[]⟩] 52 (0, 0)) ∧ u.cell? ⟨g, 0, none⟩ = some (.string A) ∧ u.cell? ⟨g, 1, none⟩ = some (.string B) ∧ g < u.heap.size
theorem InT.up {w u u' : World} {g : Nat} {A B : ByteArray} (h : InT w g A B u) (hb : Below u.heap.size u u') : InT w g A B u' :=
  ⟨h.1.trans (hb.mono h.1.size), (hb.block _ (heap_lt h.2.1)).trans h.2.1, by rw [hb.cell (p := ⟨g, 0, none⟩) h.2.2.2.2]; exact h.2.2.1, by rw [hb.cell (p := ⟨g, 1, none⟩) h.2.2.2.2]; exact h.2.2.2.1, Nat.lt_of_lt_of_le h.2.2.2.2 hb.size⟩
theorem InT.drew {w u : World} {g : Nat} {A B : ByteArray} (h : InT w g A B u) : InT w g A B u.drew := ⟨h.1.drew, h.2.1, h.2.2.1, h.2.2.2.1, h.2.2.2.2⟩
theorem cells3 {w : World} {p : Nat} {c0 c1 c2 : Value} {t : TypeId} (h : w.heap[p]? = some (.cells #[c0, c1, c2] t (0, 0))) :
    w.cell? ⟨p, 0, none⟩ = some c0 ∧ w.cell? ⟨p, 1, none⟩ = some c1 ∧ w.cell? ⟨p, 2, none⟩ = some c2 ∧ w.frozen? ⟨p, 0, none⟩ = false ∧ w.frozen? ⟨p, 1, none⟩ = false ∧ w.frozen? ⟨p, 2, none⟩ = false := by
  refine ⟨?_, ?_, ?_, frozen_of_row _ _ _ _ _ h, frozen_of_row _ _ _ _ _ h, frozen_of_row _ _ _ _ _ h⟩ <;> (rw [cell_of_row _ _ _ _ _ _ h]; rfl)
theorem set3c {w : World} {p : Nat} {c0 c1 c2 : Value} {t : TypeId} (x y z : Value) (h : w.heap[p]? = some (.cells #[c0, c1, c2] t (0, 0))) :
    (((w.setCell ⟨p, 0, none⟩ x).setCell ⟨p, 1, none⟩ y).setCell ⟨p, 2, none⟩ z).heap[p]? = some (.cells #[x, y, z] t (0, 0)) := by
  have h0 := heap_setCell_same w p 0 _ t x h
  have h1 := heap_setCell_same _ p 1 _ t y h0
  have h2 := heap_setCell_same _ p 2 _ t z h1
  simpa only [List.setIfInBounds_toArray, List.set_cons_zero, List.set_cons_succ] using h2
theorem infoT : (Tryd.prog.info? 52).map (·.size) = some 3 := by kernel_rfl
def zeroB : ByteArray := ⟨#[0, 0, 0, 0]⟩
theorem nonce_join (n : Int) : zeroB ++ ⟨(lowL n 8).toArray⟩ = nonceB n := by
  unfold nonceB nonceL
  apply ByteArray.ext
  simp [zeroB]

set_option maxRecDepth 20000 in
set_option maxHeartbeats 8000000 in
theorem tool_any (key : ByteArray) (n : Int) (w : World) (hk : key.size ≤ 64) (h0 : 0 ≤ n) (h1 : n ≤ 1000000) (hT : Both w) :
    Calls Tryd.prog 29 #[.string key, .int .i64 n] w fun e w' => e = .returned (.agg #[.string (macB key hideW), .string (macB key signW), .string (nonceB n)]) ∧ Below w.heap.size w w' := by
  have HT : Hid (Both w) := hT
  clear hT
  have e0 : IntKind.u64.wrap n = n := by rw [IntKind.wrap_u64]; omega
  go_enter Tryd.func29, Tryd.ntmps29
  go_wp2_with fail
  refine (keysOf_at key _ _ (by simp) hk (HT.out.up ((Below.refl _ _).alloc (Nat.le_refl _) _))).mono ?_
  rintro e w1 ⟨g, cap, rfl, k0, k1, hg, hb1⟩
  have HI1 : Hid (InT w g (macB key hideW) (macB key signW) w1) := by
    have hb0 : Below w.heap.size w (w.alloc (.cells #[.string ⟨#[]⟩, .string ⟨#[]⟩, .string ⟨#[]⟩] 52)) := (Below.refl _ _).alloc (Nat.le_refl _) _
    exact ⟨hb0.trans (hb1.mono (by omega)), (hb1.block _ (by omega)).trans (heap_alloc_new _ _), k0, k1, block_lt_of_cell k0⟩
  clear hb1 k0 k1
  generalize hK1 : macB key hideW = K1 at *
  generalize hK2 : macB key signW = K2 at *
  have HK1 : Hid (macB key hideW = K1) := hK1
  have HK2 : Hid (macB key signW = K2) := hK2
  clear hK1 hK2
  go_wp2_with fail
  have HI := HI1.out.drew
  clear HI1
  obtain ⟨r0, r1, r2, f0, f1, f2⟩ := cells3 HI.2.1
  have k0 := HI.2.2.1
  have k1 := HI.2.2.2.1
  have hne : g ≠ w.heap.size := by omega
  have hne2 : w.heap.size ≠ g := by omega
  have hz8 : zeroB.size + (⟨(lowL n 8).toArray⟩ : ByteArray).size ≤ 1099511627776 := by
    have : (⟨(lowL n 8).toArray⟩ : ByteArray).size = 8 := by show (List.toArray _).size = 8; rw [List.size_toArray, lowL_length]
    rw [this]; decide
  have HZ8 : Hid _ := hz8
  clear hz8
  go_region_held2 (fun u => u.cell? ⟨g, 0, none⟩ = some (.string K1) ∧ u.cell? ⟨g, 1, none⟩ = some (.string K2)) (go_keep) (first | (go_at_call 62; refine (low_any n 8 _ (by omega) (by omega) (by decide)).mono ?_; rintro e u1 ⟨rfl, hb⟩; replace HI := HI.up hb; clear r0 r1 r2 f0 f1 f2 k0 k1; obtain ⟨r0, r1, r2, f0, f1, f2⟩ := cells3 HI.2.1; have k0 := HI.2.2.1; have k1 := HI.2.2.2.1; clear hb) | (go_at_call 31; refine (jo.joined2 zeroB _ _ HZ8.out).mono ?_; rw [nonce_join]; rintro e u2 ⟨rfl, hb⟩; replace HI := HI.up hb; clear r0 r1 r2 f0 f1 f2 k0 k1; obtain ⟨r0, r1, r2, f0, f1, f2⟩ := cells3 HI.2.1; have k0 := HI.2.2.1; have k1 := HI.2.2.2.1; clear hb))
  have HH3 : Hid _ := set3c (.string K1) (.string K2) (.string (nonceB n)) HI.2.1
  have HB3 : Hid _ := ((HI.1.setCell (p := ⟨w.heap.size, 0, none⟩) (Nat.le_refl _) (.string K1)).setCell (p := ⟨w.heap.size, 1, none⟩) (Nat.le_refl _) (.string K2)).setCell (p := ⟨w.heap.size, 2, none⟩) (Nat.le_refl _) (.string (nonceB n))
  clear r0 r1 r2 f0 f1 f2 k0 k1 HI
  go_wp2_with fail
  exact bodyPost_ret (results_cell_row Tryd.results29 _ _ w.heap.size _ _ _ _ rfl HH3.out Tryd.underlying52 rfl infoT) rfl ⟨by rw [HK1.out, HK2.out], HB3.out⟩

set_option maxHeartbeats 2000000 in
theorem turned_any (A B C t : ByteArray) (w : World) (hA : A.size = 32) (hC : C.size = 12) (ht : t.size ≤ 8000) (hT : Both w) :
    Calls Tryd.prog 30 #[.agg #[.string A, .string B, .string C], .string t] w fun e w' => e = .returned (.string ⟨(cipherL A.data.toList 1 C.data.toList t.data.toList).toArray⟩) ∧ Below w.heap.size w w' := by
  have hb0 : Below w.heap.size w (w.alloc (.cells #[.string A, .string B, .string C] 52)) := (Below.refl _ _).alloc (Nat.le_refl _) _
  have HT : Hid (Both (w.alloc (.cells #[.string A, .string B, .string C] 52))) := hT.up hb0
  have HB0 : Hid (Below w.heap.size w (w.alloc (.cells #[.string A, .string B, .string C] 52))) := hb0
  clear hT hb0
  go_enter Tryd.func30, Tryd.ntmps30
  go_wp2_with fail
  refine (implCipher_core A 1 C t _ hA hC ⟨by decide, by decide⟩ ht HT.out.2).mono ?_
  rintro e w1 ⟨rfl, hb1⟩
  have HB1 : Hid (Below w.heap.size w w1) := HB0.out.trans (hb1.mono HB0.out.size)
  clear hb1
  go_wp2_with fail
  go_ret
  exact ⟨rfl, HB1.out⟩
end Go.Proofs.YtneahcoakbbdaaaDoor.cc
