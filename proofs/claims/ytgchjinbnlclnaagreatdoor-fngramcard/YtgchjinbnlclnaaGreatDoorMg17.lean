/-
  The model's OpenBox at every argument: what the plain function tells; no old block turns.
  The model's SealBox at every argument: what the plain function tells; no old block turns.
  OpenBox's answer, of the program and of the model, with the text and the code under two letters.
-/
import Derived.Test.YtgchjinbnlclnaaGreatDoorMg16
import Derived.Test.YtgchjinbnlclnaaGreatDoorMg12
import Derived.Deep.RegionHeld2
import Derived.Deep.Cut
import Derived.Test.YtgchjinbnlclnaaGreatDoorMg15
namespace Go.Proofs.YtgchjinbnlclnaaGreatDoor.cc
open Go.ChangeShapes Go.WideShapes Go.ChangeAt Go.RowKit
set_option linter.unusedVariables false

theorem wp_wO {P : Program} {c : Code} {Q : Exit → Act → World → Prop} {a : Act} {w : World} (I : World → Prop) (hI : I w) (h : ∀ u, I u → c.wp P Q a u) : c.wp P Q a w := h w hI
/-- what is known while the model opens a box: the answer's block -/
def InR (w : World) (u : World) : Prop := Below w.heap.size w u ∧ u.heap[w.heap.size]? = some (.cells #[.string ⟨#[]⟩, .int .i64 0, .int .i64 0] 58 (0, 0))
theorem ltR {w : World} {p : Nat} {o : Obj} (h : w.heap[p]? = some o) : p < w.heap.size := by
  rcases Nat.lt_or_ge p w.heap.size with h' | h'
  · exact h'
  · simp [Array.getElem?_eq_none h'] at h
theorem InR.up {w u u' : World} (h : InR w u) (hb : Below u.heap.size u u') : InR w u' := ⟨h.1.trans (hb.mono h.1.size), (hb.block _ (ltR h.2)).trans h.2⟩
theorem InR.drew {w u : World} (h : InR w u) : InR w u.drew := ⟨h.1.drew, h.2⟩

set_option maxRecDepth 20000 in
set_option maxHeartbeats 8000000 in
theorem specOpen_any (key : ByteArray) (n : Int) (b : ByteArray) (w : World) (hk : key.size ≤ maxLen) (hb : b.size ≤ maxLen) :
    Calls Tryz.prog 31 #[.string key, .int .i64 n, .string b] w fun e w' => e = .returned (OutO key n b) ∧ Below w.heap.size w w' := by
  have HR := fun u => keyM_any key n u hk
  have HB0 : Hid (∀ o, Below w.heap.size w (w.alloc o)) := fun o => (Below.refl _ _).alloc (Nat.le_refl _) o
  unfold maxLen at hk hb
  by_cases h8 : 8000 < key.size ∨ 8000 < b.size
  · have HO := openA_size (n := n) h8
    by_cases h8k : 8000 < key.size
    · go_enter Tryz.func31, Tryz.ntmps31
      go_wp2
      exact bodyPost_ret (results_cell_row Tryz.results31 _ _ w.heap.size _ _ _ _ rfl (heap_alloc_new _ _) Tryz.underlying58 rfl infoO) rfl ⟨outO_of HO, HB0.out _⟩
    · have h8b : 8000 < b.size := by omega
      go_enter Tryz.func31, Tryz.ntmps31
      go_wp2
      exact bodyPost_ret (results_cell_row Tryz.results31 _ _ w.heap.size _ _ _ _ rfl (heap_alloc_new _ _) Tryz.underlying58 rfl infoO) rfl ⟨outO_of HO, HB0.out _⟩
  · have hd1 : decide (8000 < (key.size : Int)) = false := decide_eq_false (by omega)
    have hd2 : decide (8000 < (b.size : Int)) = false := decide_eq_false (by omega)
    by_cases hc : 1 ≤ key.size ∧ key.size ≤ 64 ∧ 0 ≤ n ∧ n ≤ 1000000
    · by_cases h16 : b.size < 16
      · have HO := openA_short h8 hc h16
        rw [decide_eq_true hc] at HR
        go_enter Tryz.func31, Tryz.ntmps31
        go_wp2_with (go_at_call 42; refine (HR _).mono ?_; rintro e w1 ⟨rfl, hw1⟩; obtain rfl := hw1.symm)
        exact bodyPost_ret (results_cell_row Tryz.results31 _ _ w.heap.size _ _ _ _ rfl (heap_alloc_new _ _) Tryz.underlying58 rfl infoO) rfl ⟨outO_of HO, HB0.out _⟩
      · have HOK : Hid (b.extract (b.size - 16) b.size = signB key n (b.extract 0 (b.size - 16)) → openA key n b = (hideB key n (b.extract 0 (b.size - 16)), 0)) := fun h => openA_ok h8 hc h16 h
        have HNO : Hid (b.extract (b.size - 16) b.size ≠ signB key n (b.extract 0 (b.size - 16)) → openA key n b = (⟨#[]⟩, 5)) := fun h => openA_sum h8 hc h16 h
        rw [decide_eq_true hc] at HR
        obtain ⟨c0, c1, c2, c3⟩ := hc
        have hds : (b.extract 0 (b.size - 16)).size ≤ 7984 := by simp; omega
        have s0 : IntKind.i64.wrap ((b.size : Int) - 16) = (b.size : Int) - 16 := by rw [IntKind.wrap_i64]; omega
        have s1 : ((b.size : Int) - 16).toNat = b.size - 16 := by omega
        have s2 : (0 : Int) ≤ (b.size : Int) - 16 := by omega
        have s3 : (b.size : Int) - 16 ≤ (b.size : Int) := by omega
        have s4 : 0 ≤ (b.size : Int) - 16 ∧ (b.size : Int) - 16 ≤ (b.size : Int) := by omega
        have s5 : ¬ ((b.size : Int) - 16 < 0) := by omega
        go_enter Tryz.func31, Tryz.ntmps31
        go_wp2_with (go_at_call 42; refine (HR _).mono ?_; rintro e w1 ⟨rfl, hw1⟩; obtain rfl := hw1.symm)
        clear HR
        refine wp_wO (fun u => InR w u) ⟨HB0.out _, heap_alloc_new _ _⟩ ?_
        intro u hI
        have HI := hI.drew
        clear hI
        by_cases heq : b.extract (b.size - 16) b.size = signB key n (b.extract 0 (b.size - 16))
        · have HOO := HOK.out heq
          have hq : ((signB key n (b.extract 0 (b.size - 16))).toList == (b.extract (b.size - 16) b.size).toList) = true := beqT heq.symm
          clear HOK HNO heq
          have HSG := fun u => signM_any key n (b.extract 0 (b.size - 16)) u c1 c2 c3 (by omega)
          generalize signB key n (b.extract 0 (b.size - 16)) = G at *
          go_cut [37] from 8 (fun v u => v = .bool false ∧ InR w u)
          case first =>
            go_region_with (go_at_call 44; refine (HSG _).mono ?_; rintro e w3 ⟨rfl, hb3⟩; replace HI := HI.up hb3; clear hb3)
            all_goals
              go_wp2_with fail
              go_meet
              case rel => exact ⟨rfl, HI⟩
          clear HI HSG hq
          obtain ⟨hv, HI⟩ := hcut
          subst hv
          rename World => w3
          have HHD := hideM_any key n (b.extract 0 (b.size - 16)) w3 c1 c2 c3 (by omega)
          generalize hideB key n (b.extract 0 (b.size - 16)) = X at *
          go_wp2_with (go_at_call 43; fail)
          refine HHD.mono ?_
          rintro e w4 ⟨rfl, hb4⟩
          replace HI := HI.up hb4
          clear hb4 HHD
          have hres := HI.2
          have HBI : Hid (Below w.heap.size w w4) := HI.1
          clear HI
          go_wp2_with (refine wpList_store_row rfl 58 _ _ rfl w.heap.size _ rfl rfl _ _ hres infoO (by rfl) (by simp [Value.oneCell']) ?_)
          refine bodyPost_ret (results_cell_row Tryz.results31 _ _ w.heap.size _ #[.string X, .int .i64 0, .int .i64 0] _ _ rfl (setRow_heap _ _ _ #[.string X, .int .i64 0, .int .i64 0] _ _ hres) Tryz.underlying58 rfl infoO) rfl ⟨outO_of HOO, below_setRow HBI.out (Nat.le_refl _) _⟩
        · have HOO := HNO.out heq
          have hq : ((signB key n (b.extract 0 (b.size - 16))).toList == (b.extract (b.size - 16) b.size).toList) = false := beqF (fun h => heq h.symm)
          clear HOK HNO heq
          have HSG := fun u => signM_any key n (b.extract 0 (b.size - 16)) u c1 c2 c3 (by omega)
          generalize signB key n (b.extract 0 (b.size - 16)) = G at *
          go_cut [37] from 8 (fun v u => v = .bool true ∧ InR w u)
          case first =>
            go_region_with (go_at_call 44; refine (HSG _).mono ?_; rintro e w3 ⟨rfl, hb3⟩; replace HI := HI.up hb3; clear hb3)
            all_goals
              go_wp2_with fail
              go_meet
              case rel => exact ⟨rfl, HI⟩
          clear HI HSG hq
          obtain ⟨hv, HI⟩ := hcut
          subst hv
          rename World => w3
          have hres := HI.2
          have HBI : Hid (Below w.heap.size w w3) := HI.1
          clear HI
          go_wp2_with (refine wpList_store_row rfl 58 _ _ rfl w.heap.size _ rfl rfl _ _ hres infoO (by rfl) (by simp [Value.oneCell']) ?_)
          refine bodyPost_ret (results_cell_row Tryz.results31 _ _ w.heap.size _ #[.string ⟨#[]⟩, .int .i64 0, .int .i64 5] _ _ rfl (setRow_heap _ _ _ #[.string ⟨#[]⟩, .int .i64 0, .int .i64 5] _ _ hres) Tryz.underlying58 rfl infoO) rfl ⟨outO_of HOO, below_setRow HBI.out (Nat.le_refl _) _⟩
    · have HO := openA_form h8 hc
      rw [decide_eq_false hc] at HR
      go_enter Tryz.func31, Tryz.ntmps31
      go_wp2_with (go_at_call 42; refine (HR _).mono ?_; rintro e w1 ⟨rfl, hw1⟩; obtain rfl := hw1.symm)
      exact bodyPost_ret (results_cell_row Tryz.results31 _ _ w.heap.size _ _ _ _ rfl (heap_alloc_new _ _) Tryz.underlying58 rfl infoO) rfl ⟨outO_of HO, HB0.out _⟩
end Go.Proofs.YtgchjinbnlclnaaGreatDoor.cc

namespace Go.Proofs.YtgchjinbnlclnaaGreatDoor.cc
open Go.ChangeShapes Go.WideShapes Go.ChangeAt Go.RowKit
set_option linter.unusedVariables false

set_option maxRecDepth 20000 in
set_option maxHeartbeats 4000000 in
theorem specSeal_any (key : ByteArray) (n : Int) (t : ByteArray) (w : World) (hk : key.size ≤ maxLen) (ht : t.size ≤ maxLen) :
    Calls Tryz.prog 25 #[.string key, .int .i64 n, .string t] w fun e w' => e = .returned (.string (sealA key n t)) ∧ Below w.heap.size w w' := by
  have HR := keyM_any key n w hk
  unfold maxLen at hk ht
  by_cases hc : 1 ≤ key.size ∧ key.size ≤ 64 ∧ 0 ≤ n ∧ n ≤ 1000000
  · rw [decide_eq_true hc] at HR
    by_cases h8 : 1000 < t.size
    · rw [sealA_no (fun h => by have := h.2; omega)]
      go_enter Tryz.func25, Tryz.ntmps25
      go_wp2_with (go_at_call 42; refine HR.mono ?_; rintro e w1 ⟨rfl, hw1⟩; obtain rfl := hw1.symm)
      go_ret
      exact ⟨rfl, Below.refl _ _⟩
    · rw [sealA_yes ⟨hc, by omega⟩]
      obtain ⟨c0, c1, c2, c3⟩ := hc
      have ht1 : decide (1000 < (t.size : Int)) = false := decide_eq_false (by omega)
      have HBX : Hid (boxB key n t = hideB key n t ++ signB key n (hideB key n t)) := rfl
      have hXs := hideB_size key n t
      go_enter Tryz.func25, Tryz.ntmps25
      go_wp2_with (go_at_call 42; refine HR.mono ?_; rintro e w1 ⟨rfl, hw1⟩; obtain rfl := hw1.symm)
      clear HR
      refine (hideM_any key n t w c1 c2 c3 (by omega)).mono ?_
      rintro e w1 ⟨rfl, hb1⟩
      generalize hX : hideB key n t = X at *
      have HX : Hid (hideB key n t = X) := hX
      clear hX
      go_wp2_with fail
      refine (signM_any key n X w1 c1 c2 c3 (by omega)).mono ?_
      rintro e w2 ⟨rfl, hb2⟩
      have hYs := signB_size key n X
      generalize hY : signB key n X = Y at *
      have HY : Hid (signB key n X = Y) := hY
      clear hY
      go_wp2_with fail
      go_ret
      refine ⟨congrArg (fun m : ByteArray => Ending.returned (Value.string m)) ?_, hb1.trans (hb2.mono hb1.size)⟩
      rw [HBX.out]
  · rw [decide_eq_false hc] at HR
    rw [sealA_no (fun h => hc h.1)]
    go_enter Tryz.func25, Tryz.ntmps25
    go_wp2_with (go_at_call 42; refine HR.mono ?_; rintro e w1 ⟨rfl, hw1⟩; obtain rfl := hw1.symm)
    go_ret
    exact ⟨rfl, Below.refl _ _⟩
end Go.Proofs.YtgchjinbnlclnaaGreatDoor.cc

namespace Go.Proofs.YtgchjinbnlclnaaGreatDoor.cc
open Go.ChangeShapes Go.WideShapes Go.ChangeAt Go.RowKit
set_option linter.unusedVariables false

theorem implOpen_out (key : ByteArray) (n : Int) (b : ByteArray) (T : ByteArray) (c : Int) (hO : openA key n b = (T, c)) (w : World) (hk : key.size ≤ maxLen) (hb : b.size ≤ maxLen) (hT : Both w) :
    Calls Tryz.prog 47 #[.string key, .int .i64 n, .string b] w fun e w' => e = .returned (.agg #[.string T, .int .i64 0, .int .i64 c]) ∧ Below w.heap.size w w' :=
  (implOpen_any key n b w hk hb hT).mono fun e w' ⟨he, hb⟩ => ⟨he.trans (outO_of hO).symm, hb⟩
theorem specOpen_out (key : ByteArray) (n : Int) (b : ByteArray) (T : ByteArray) (c : Int) (hO : openA key n b = (T, c)) (w : World) (hk : key.size ≤ maxLen) (hb : b.size ≤ maxLen) :
    Calls Tryz.prog 31 #[.string key, .int .i64 n, .string b] w fun e w' => e = .returned (.agg #[.string T, .int .i64 0, .int .i64 c]) ∧ Below w.heap.size w w' :=
  (specOpen_any key n b w hk hb).mono fun e w' ⟨he, hb⟩ => ⟨he.trans (outO_of hO).symm, hb⟩
end Go.Proofs.YtgchjinbnlclnaaGreatDoor.cc
