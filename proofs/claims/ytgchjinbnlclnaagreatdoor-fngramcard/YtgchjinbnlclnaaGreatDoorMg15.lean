/-
  What the program puts behind a hidden text: the beginning of the mac of nonce and hidden text; no old block turns.
  The program's OpenBox at every argument, where the two tables lie in their variables: what the plain function tells; no old block turns.
-/
import Derived.Test.YtgchjinbnlclnaaGreatDoorBoxI
import Derived.Test.YtgchjinbnlclnaaGreatDoorMg12
namespace Go.Proofs.YtgchjinbnlclnaaGreatDoor.cc
open Go.ChangeShapes Go.WideShapes Go.ChangeAt Go.RowKit
open Go.Proofs.YtgchjinbnlclnaaGreatDoor.sh (U macB macB_size implMac_core Tab)
set_option linter.unusedVariables false

theorem joined2_drew (s t : ByteArray) (u : World) (h : s.size + t.size ≤ 1099511627776) :
    Calls Tryz.prog 19 #[.slice (some ⟨u.heap.size, 0, none⟩) 2 2] (u.alloc (.cells #[.string s, .string t] 9)).drew fun e w' => e = .returned (.string (s ++ t)) ∧ Below u.heap.size u w' :=
  (show Calls Tryz.prog 19 #[.slice (some ⟨u.drew.heap.size, 0, none⟩) 2 2] (u.drew.alloc (.cells #[.string s, .string t] 9)) fun e w' => e = .returned (.string (s ++ t)) ∧ Below u.heap.size u w' from
    (jo.joined2 s t u.drew h).mono fun e w' ⟨he, hb⟩ => ⟨he, (show Below u.heap.size u u.drew from (Below.refl _ _).drew).trans hb⟩)
/-- what is known while an end is made -/
def InE (w : World) (A B C : ByteArray) (u : World) : Prop := Below w.heap.size w u ∧ u.heap[w.heap.size]? = some (.cells #[.string A, .string B, .string C] 72 (0, 0))
theorem InE.up {w u u' : World} {A B C : ByteArray} (h : InE w A B C u) (hb : Below u.heap.size u u') : InE w A B C u' := ⟨h.1.trans (hb.mono h.1.size), (hb.block _ (heap_lt h.2)).trans h.2⟩
theorem InE.drew {w u : World} {A B C : ByteArray} (h : InE w A B C u) : InE w A B C u.drew := ⟨h.1.drew, h.2⟩

set_option maxRecDepth 20000 in
set_option maxHeartbeats 4000000 in
theorem endOf_any (A B C h : ByteArray) (w : World) (hB : B.size = 32) (hC : C.size = 12) (ht : h.size ≤ 7988) (hT : Both w) :
    Calls Tryz.prog 40 #[.agg #[.string A, .string B, .string C], .string h] w fun e w' => e = .returned (.string ((macB B (C ++ h)).extract 0 16)) ∧ Below w.heap.size w w' := by
  have HT : Hid (∀ u, Below w.heap.size w u → Both u) := fun u hb => hT.up hb
  clear hT
  have HMS : Hid ((macB B (C ++ h)).size = 32) := macB_size _ _
  have HSZ : Hid ((C ++ h).size ≤ 8000) := by show _ ≤ _; rw [ByteArray.size_append]; omega
  go_enter Tryz.func40, Tryz.ntmps40
  go_wp2_with fail
  refine wp_w (fun u => InE w A B C u) ⟨(Below.refl _ _).alloc (Nat.le_refl _) _, heap_alloc_new _ _⟩ ?_
  intro u HI
  obtain ⟨r0, r1, r2, f0, f1, f2⟩ := cells3 HI.2
  have n1 : u.heap.size ≠ w.heap.size := Nat.ne_of_gt (heap_lt HI.2)
  go_region_held2 (fun u => u.cell? ⟨w.heap.size, 1, none⟩ = some (.string B) ∧ u.cell? ⟨w.heap.size, 2, none⟩ = some (.string C)) (go_keep) (first | (go_at_call 19; refine (joined2_drew C h u (by omega)).mono ?_; rintro e u1 ⟨rfl, hb⟩; replace HI := HI.up hb; clear r0 r1 r2 f0 f1 f2; obtain ⟨r0, r1, r2, f0, f1, f2⟩ := cells3 HI.2; clear hb) | (go_at_call 53; refine (implMac_core B (C ++ h) _ (by omega) HSZ.out (HT.out _ HI.1).1).mono ?_; rintro e u2 ⟨rfl, hb⟩; replace HI := HI.up hb; clear r0 r1 r2 f0 f1 f2; obtain ⟨r0, r1, r2, f0, f1, f2⟩ := cells3 HI.2; clear hb; have hms := HMS.out; generalize hM : macB B (C ++ h) = M at *; have HM : Hid (macB B (C ++ h) = M) := hM; clear hM))
  all_goals
    go_wp2_with fail
    go_ret
    exact ⟨congrArg (fun m : ByteArray => Ending.returned (Value.string (m.extract 0 16))) HM.out.symm, HI.1⟩
end Go.Proofs.YtgchjinbnlclnaaGreatDoor.cc

namespace Go.Proofs.YtgchjinbnlclnaaGreatDoor.cc
open Go.ChangeShapes Go.WideShapes Go.ChangeAt Go.RowKit
open Go.Proofs.YtgchjinbnlclnaaGreatDoor.sh (U macB macB_size)
set_option linter.unusedVariables false

/-- what is known while a box is opened: the answer's block, and the tool's -/
def InQ (w : World) (p : Nat) (A B C : ByteArray) (u : World) : Prop := Below w.heap.size w u ∧ u.heap[w.heap.size]? = some (.cells #[.string ⟨#[]⟩, .int .i64 0, .int .i64 0] 58 (0, 0)) ∧ u.heap[p]? = some (.cells #[.string A, .string B, .string C] 72 (0, 0)) ∧ w.heap.size < p
theorem InQ.up {w u u' : World} {p : Nat} {A B C : ByteArray} (h : InQ w p A B C u) (hb : Below u.heap.size u u') : InQ w p A B C u' := ⟨h.1.trans (hb.mono h.1.size), (hb.block _ (heap_lt h.2.1)).trans h.2.1, (hb.block _ (heap_lt h.2.2.1)).trans h.2.2.1, h.2.2.2⟩
theorem InQ.drewN {w u : World} {p : Nat} {A B C : ByteArray} (h : InQ w p A B C u) (k : Nat) : InQ w p A B C (u.drewN k) := ⟨below_drewN h.1 _, h.2.1, h.2.2.1, h.2.2.2⟩

set_option maxRecDepth 20000 in
set_option maxHeartbeats 8000000 in
theorem implOpen_any (key : ByteArray) (n : Int) (b : ByteArray) (w : World) (hk : key.size ≤ maxLen) (hb : b.size ≤ maxLen) (hT : Both w) :
    Calls Tryz.prog 47 #[.string key, .int .i64 n, .string b] w fun e w' => e = .returned (OutO key n b) ∧ Below w.heap.size w w' := by
  have HR := fun u => boxRight_any key n u hk
  have HT : Hid (∀ u, Below w.heap.size w u → Both u) := fun u hb => hT.up hb
  have HB0 : Hid (∀ o, Below w.heap.size w (w.alloc o)) := fun o => (Below.refl _ _).alloc (Nat.le_refl _) o
  clear hT
  unfold maxLen at hk hb
  by_cases h8 : 8000 < key.size ∨ 8000 < b.size
  · have HO := openA_size (n := n) h8
    by_cases h8k : 8000 < key.size
    · go_enter Tryz.func47, Tryz.ntmps47
      go_wp2
      exact bodyPost_ret (results_cell_row Tryz.results47 _ _ w.heap.size _ _ _ _ rfl (heap_alloc_new _ _) Tryz.underlying58 rfl infoO) rfl ⟨outO_of HO, HB0.out _⟩
    · have h8b : 8000 < b.size := by omega
      go_enter Tryz.func47, Tryz.ntmps47
      go_wp2
      exact bodyPost_ret (results_cell_row Tryz.results47 _ _ w.heap.size _ _ _ _ rfl (heap_alloc_new _ _) Tryz.underlying58 rfl infoO) rfl ⟨outO_of HO, HB0.out _⟩
  · have hd1 : decide (8000 < (key.size : Int)) = false := decide_eq_false (by omega)
    have hd2 : decide (8000 < (b.size : Int)) = false := decide_eq_false (by omega)
    by_cases hc : 1 ≤ key.size ∧ key.size ≤ 64 ∧ 0 ≤ n ∧ n ≤ 1000000
    · by_cases h16 : b.size < 16
      · have HO := openA_short h8 hc h16
        rw [decide_eq_true hc] at HR
        go_enter Tryz.func47, Tryz.ntmps47
        go_wp2_with (go_at_call 37; refine (HR _).mono ?_; rintro e w1 ⟨rfl, hw1⟩; obtain rfl := hw1.symm)
        exact bodyPost_ret (results_cell_row Tryz.results47 _ _ w.heap.size _ _ _ _ rfl (heap_alloc_new _ _) Tryz.underlying58 rfl infoO) rfl ⟨outO_of HO, HB0.out _⟩
      · have HOK : Hid (b.extract (b.size - 16) b.size = signB key n (b.extract 0 (b.size - 16)) → openA key n b = (hideB key n (b.extract 0 (b.size - 16)), 0)) := fun h => openA_ok h8 hc h16 h
        have HNO : Hid (b.extract (b.size - 16) b.size ≠ signB key n (b.extract 0 (b.size - 16)) → openA key n b = (⟨#[]⟩, 5)) := fun h => openA_sum h8 hc h16 h
        rw [decide_eq_true hc] at HR
        obtain ⟨c0, c1, c2, c3⟩ := hc
        have HH : Hid (∀ t, hideB key n t = ⟨(cipherL (macB key hideW).data.toList 1 (nonceB n).data.toList t.data.toList).toArray⟩) := fun t => rfl
        have HS : Hid (∀ h, signB key n h = (macB (macB key signW) (nonceB n ++ h)).extract 0 16) := fun h => rfl
        have m1 := macB_size key hideW
        have m2 := macB_size key signW
        have m3 := nonceB_size n
        go_enter Tryz.func47, Tryz.ntmps47
        go_wp2_with (go_at_call 37; refine (HR _).mono ?_; rintro e w1 ⟨rfl, hw1⟩; obtain rfl := hw1.symm)
        clear HR
        refine (tool_any key n _ c1 c2 c3 (HT.out _ (HB0.out _))).mono ?_
        rintro e w1 ⟨rfl, hb1⟩
        generalize hA : macB key hideW = A at *
        generalize hB : macB key signW = B at *
        generalize hC : nonceB n = C at *
        clear hA hB hC
        have hI1 : InQ w w1.heap.size A B C (w1.alloc (.cells #[.string A, .string B, .string C] 72)) := by
          have hl : w.heap.size < (w.alloc (.cells #[.string ⟨#[]⟩, .int .i64 0, .int .i64 0] 58)).heap.size := by simp
          have hb0 := (HB0.out (.cells #[.string ⟨#[]⟩, .int .i64 0, .int .i64 0] 58)).trans (hb1.mono (by simp))
          have h1 := (hb1.block _ hl).trans (heap_alloc_new _ _)
          exact ⟨hb0.alloc hb0.size _, (Below.heap_alloc _ _ _ (heap_lt h1)).trans h1, heap_alloc_new _ _, Nat.lt_of_lt_of_le hl hb1.size⟩
        clear hb1
        have s0 : IntKind.i64.wrap ((b.size : Int) - 16) = (b.size : Int) - 16 := by rw [IntKind.wrap_i64]; omega
        have s1 : ((b.size : Int) - 16).toNat = b.size - 16 := by omega
        have s2 : (0 : Int) ≤ (b.size : Int) - 16 := by omega
        have s3 : (b.size : Int) - 16 ≤ (b.size : Int) := by omega
        have s4 : 0 ≤ (b.size : Int) - 16 ∧ (b.size : Int) - 16 ≤ (b.size : Int) := by omega
        have s5 : decide ((b.size : Int) < 16) = false := decide_eq_false (by omega)
        go_wp2_with fail
        obtain ⟨p, hp⟩ : ∃ p, p = w1.heap.size := ⟨_, rfl⟩
        rw [← hp] at hI1 ⊢
        clear hp
        refine wp_w (fun u => InQ w p A B C u) hI1 ?_
        clear hI1
        intro u hI
        have HI : Hid (InQ w p A B C u) := hI
        clear hI
        go_quiet (fail)
        have HI2 := HI.out.drewN nq
        clear HI
        have hds : (b.extract 0 (b.size - 16)).size ≤ 7984 := by simp; omega
        generalize b.extract 0 (b.size - 16) = D at *
        generalize b.extract (b.size - 16) b.size = E at *
        have hrow := HI2.2.2.1
        go_wp2_with (refine wpList_load_row rfl 72 _ rfl p rfl _ _ _ _ hrow Tryz.underlying72 rfl infoT ?_)
        clear hrow
        refine (endOf_any A B C D _ m2 m3 (by omega) (HT.out _ HI2.1)).mono ?_
        rw [← HS.out D]
        rintro e w3 ⟨rfl, hb3⟩
        replace HI2 := HI2.up hb3
        clear hb3 HS
        generalize signB key n D = G at *
        have hres := HI2.2.1
        by_cases heq : E = G
        · have hq := beqT heq
          have hrow := HI2.2.2.1
          have HOO := HOK.out heq
          go_wp2_with (refine wpList_load_row rfl 72 _ rfl p rfl _ _ _ _ hrow Tryz.underlying72 rfl infoT ?_)
          clear hrow hres
          refine (turned_any A B C D _ m1 m3 (by omega) (HT.out _ HI2.1)).mono ?_
          rw [← HH.out D]
          rintro e w4 ⟨rfl, hb4⟩
          replace HI2 := HI2.up hb4
          clear hb4 HH
          generalize hideB key n D = X at *
          have hres := HI2.2.1
          have HBI : Hid (Below w.heap.size w w4) := HI2.1
          clear HI2
          go_wp2_with (refine wpList_store_row rfl 58 _ _ rfl w.heap.size _ rfl rfl _ _ hres infoO (by rfl) (by simp [Value.oneCell']) ?_)
          refine bodyPost_ret (results_cell_row Tryz.results47 _ _ w.heap.size _ #[.string X, .int .i64 0, .int .i64 0] _ _ rfl (setRow_heap _ _ _ #[.string X, .int .i64 0, .int .i64 0] _ _ hres) Tryz.underlying58 rfl infoO) rfl ⟨outO_of HOO, below_setRow HBI.out (Nat.le_refl _) _⟩
        · have hq := beqF heq
          have HOO := HNO.out heq
          have HBI : Hid (Below w.heap.size w w3) := HI2.1
          clear HI2
          go_wp2_with (refine wpList_store_row rfl 58 _ _ rfl w.heap.size _ rfl rfl _ _ hres infoO (by rfl) (by simp [Value.oneCell']) ?_)
          refine bodyPost_ret (results_cell_row Tryz.results47 _ _ w.heap.size _ #[.string ⟨#[]⟩, .int .i64 0, .int .i64 5] _ _ rfl (setRow_heap _ _ _ #[.string ⟨#[]⟩, .int .i64 0, .int .i64 5] _ _ hres) Tryz.underlying58 rfl infoO) rfl ⟨outO_of HOO, below_setRow HBI.out (Nat.le_refl _) _⟩
    · have HO := openA_form h8 hc
      rw [decide_eq_false hc] at HR
      go_enter Tryz.func47, Tryz.ntmps47
      go_wp2_with (go_at_call 37; refine (HR _).mono ?_; rintro e w1 ⟨rfl, hw1⟩; obtain rfl := hw1.symm)
      exact bodyPost_ret (results_cell_row Tryz.results47 _ _ w.heap.size _ _ _ _ rfl (heap_alloc_new _ _) Tryz.underlying58 rfl infoO) rfl ⟨outO_of HO, HB0.out _⟩
end Go.Proofs.YtgchjinbnlclnaaGreatDoor.cc
