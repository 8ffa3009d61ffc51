/-
  The law on macs for every bytes that are drawn from, where these are at most 2^20 each and the table of the rounds' numbers lies in its variable: it answers true; no old block turns.
-/
import Derived.Test.YtppmcmdmjginjaaDoorShaMD
import Derived.Test.YtppmcmdmjginjaaDoorShaMM
import Derived.Test.YtppmcmdmjginjaaDoorDrawMacs
namespace Go.Proofs.YtppmcmdmjginjaaDoor.sh
open Go.ChangeShapes Go.WideShapes Go.ChangeAt Go.RowKit
open Go.Lib (byteCells)
set_option linter.unusedVariables false

set_option maxRecDepth 20000 in
set_option maxHeartbeats 4000000 in
theorem lwPad_any (key : ByteArray) (m : UInt8) (mi : Int) (w : World) (hk : key.size ≤ 64) (hm : mi = (m.toNat : Int)) :
    Calls Tryd.prog 15 #[.string key, .int .u8 mi] w fun e w' => e = .returned (.string (padS key.data.toList m)) ∧ Below w.heap.size w w' := by
  obtain ⟨i0, hi, hz0, hz1, hz2⟩ := info_parts info5p
  have hmk : (Instr.makeSlice 22 (.int .i64 64) (.int .i64 64)).run Tryd.prog w = .ok (.slice (some ⟨w.heap.size, 0, none⟩) 64 64) (w.alloc (.cells (List.replicate 64 (.int .u8 0)).toArray 5)) := by
    have h := run_make (P := Tryd.prog) w 22 5 i0 (.int .u8 0) Tryd.underlying22 hi hz0 .i64 .i64 64 64 (by omega) (Int.le_refl _) (by rw [hz2]; omega) (by omega)
    rw [← madeRow]
    simpa [hz1, Value.cells] using h
  have HR0 : Hid ((w.alloc (.cells (List.replicate 64 (.int .u8 0)).toArray 5)).heap[w.heap.size]? = some (.cells (List.replicate 64 (.int .u8 0)).toArray 5 (0, 0))) := heap_alloc_new _ _
  have hB0 : Below w.heap.size w (w.alloc (.cells (List.replicate 64 (.int .u8 0)).toArray 5)) := (Below.refl _ _).alloc (Nat.le_refl _) _
  go_enter Tryd.func15, Tryd.ntmps15
  go_wp2_with (refine wpList_copy_string rfl _ _ 22 9 rfl 5 Tryd.underlying22 (by kernel_rfl) _ _ _ _ rfl rfl w.heap.size 0 (List.replicate 64 (.int .u8 0)) 5 HR0.out ?_ ?_ ?_ w.heap.size w hB0 (Nat.le_refl _) ?_)
  all_goals first | omega | (simp; omega) | (intro _; rfl) | skip
  intro w1 HG0 hB1
  have HG1 : Hid (w1.heap[w.heap.size]? = some (.cells (byteCells (padB key.data.toList m 0)).toArray 5 (0, 0))) := HG0.out.trans (congrArg (fun l => some (Obj.cells (List.toArray l) 5 (0, 0))) (pad_copy key m hk))
  clear HG0
  clear hmk HR0 hB0
  go_wp2
  go_loopw [6] (fun i u => ∃ k : Nat, k ≤ 64 ∧ i = .int .i64 k ∧ Below w.heap.size w u ∧ Hid (u.heap[w.heap.size]? = some (.cells (byteCells (padB key.data.toList m k)).toArray 5 (0, 0)))) (fun i _ => 64 - (intOf i).toNat)
  case atStart => exact ⟨0, by omega, rfl, hB1, HG1⟩
  case round =>
    clear hB1 HG1
    obtain ⟨k, hk', rfl, hB, HR⟩ := hrel
    by_cases hlt : k < 64
    · have hc : wr.cell? ⟨w.heap.size, k, none⟩ = some (.int .u8 ((key.data.toList.getD k 0).toNat : Int)) := by
        rw [cell_of_row _ _ _ _ _ _ HR.out]; exact pad_at _ _ _ hlt
      have hf : wr.frozen? ⟨w.heap.size, k, none⟩ = false := frozen_of_row _ _ _ _ _ HR.out
      have HX : Hid (∀ x, x = bits .xor .u8 ((key.data.toList.getD k 0).toNat : Int) mi → (wr.setCell ⟨w.heap.size, k, none⟩ (.int .u8 x)).heap[w.heap.size]? = some (.cells (byteCells (padB key.data.toList m (k + 1))).toArray 5 (0, 0))) := by
        intro x hx
        refine (heap_setCell_same wr _ _ _ _ _ HR.out).trans ?_
        rw [hx, hm, pad_set _ _ _ hlt]
      have HB : Hid (∀ x, Below w.heap.size w (wr.setCell ⟨w.heap.size, k, none⟩ x)) := fun x => hB.setCell (Nat.le_refl _) x
      have hb0 : (0 : Int) ≤ ((key.data.toList.getD k 0).toNat : Int) := by omega
      have hb1 : ((key.data.toList.getD k 0).toNat : Int) ≤ 255 := by have := (key.data.toList.getD k 0).toNat_lt; omega
      generalize ((key.data.toList.getD k 0).toNat : Int) = y at *
      clear HR
      go_wp2
      go_roundw
      case rel => exact ⟨k + 1, by omega, by go_num, HB.out _, HX.out _ (by first | rfl | rw [hm])⟩
      case measure => simp [intOf]; omega
    · obtain rfl : k = 64 := by omega
      have hconv : (convert 22 9 (.slice (some ⟨w.heap.size, 0, none⟩) 64 64)).run Tryd.prog wr = .ok (.string (padS key.data.toList m)) wr := by
        have h := run_convert_bytes_back (P := Tryd.prog) wr 22 9 5 ⟨w.heap.size, 0, none⟩ 64 (padB key.data.toList m 64) Tryd.underlying22 Tryd.underlying5 Tryd.underlying9 (fun j hj => row_cells HR.out j hj)
        rw [padB_length] at h
        exact h
      go_wp2
      go_ret
      exact ⟨rfl, hB⟩

theorem strA_size (pass : ByteArray) (n : Int) : (strA pass n).size ≤ 32 := by
  unfold strA; split
  · exact (show (⟨#[]⟩ : ByteArray).size ≤ 32 by decide)
  · exact strB_size _ _
theorem str_next (pass : ByteArray) (n : Int) (hp : pass.size ≤ 9) (h1 : 1 ≤ n) (h2 : n ≤ 99) : macA pass (strA pass n) = strA pass (n + 1) := by
  have hz := strA_size pass n
  rw [macA_yes (by omega), strA_yes (n := n) (by omega), strA_yes (n := n + 1) (by omega), show (n + 1).toNat = n.toNat + 1 by omega]
  rfl
open Go.Proofs.YtppmcmdmjginjaaDoor.dr (Codes)
open Go.Proofs.YtppmcmdmjginjaaDoor.dm

set_option maxRecDepth 20000 in
set_option maxHeartbeats 16000000 in
theorem core (a0 : Option Addr) (len0 cap0 : Nat) (a1 : Option Addr) (len1 cap1 : Nat) (w : World) (c0 : Codes w w.heap.size a0 len0) (c1 : Codes w w.heap.size a1 len1) (hg : Tab w) :
    Calls Tryd.prog 4 #[.slice a0 len0 cap0, .slice a1 len1 cap1] w fun e w' => e = .returned (.bool true) ∧ Below w.heap.size w w' := by
  have l0 := c0.1
  have l1 := c1.1
  have HC0 : Hid (Codes w w.heap.size a0 len0) := c0
  have HC1 : Hid (∀ u, Below w.heap.size w u → Codes u u.heap.size a1 len1) := fun u hb => by
    obtain ⟨hl, h⟩ := c1.below hb
    refine ⟨hl, h.imp id fun ⟨b, off, e, hB, hc⟩ => ⟨b, off, e, by have := hb.size; omega, hc⟩⟩
  have HG : Hid (∀ u, Below w.heap.size w u → Tab u) := fun u hb => hg.up hb
  clear c0 c1 hg
  go_enter Tryd.func4, Tryd.ntmps4
  go_wp2_with fail
  refine (drawMac_any a0 len0 cap0 _ HC0.out).mono ?_
  rintro e y1 ⟨key, t, rfl, hk, ht, hY1⟩
  by_cases hlong : 64 < key.size
  · skip
    go_wp2_with fail
    refine (drawDigest_any a1 len1 cap1 _ (HC1.out _ hY1)).mono ?_
    rintro e x1 ⟨t2, rfl, ht2, hb⟩
    have hX1 := hY1.trans (hb.mono hY1.size)
    clear hb
    have ht2m : t2.size ≤ maxLen := (by unfold maxLen; omega)
    go_wp2_with fail
    refine (drawStretch_any a1 len1 cap1 _ (HC1.out _ hX1)).mono ?_
    rintro e x2 ⟨pass, n, rfl, hp, n0, n1, hb⟩
    have hX2 := hX1.trans (hb.mono hX1.size)
    clear hb hX1
    have hpm : pass.size ≤ maxLen := (by unfold maxLen; omega)
    go_wp2_with fail
    refine (implDigest_any t2 _ ht2m (HG.out _ hX2)).mono ?_
    rintro e x3 ⟨rfl, hb⟩
    have hX3 := hX2.trans (hb.mono hX2.size)
    clear hb hX2
    go_wp2_with fail
    refine (specDigest_any t2 _ ht2m).mono ?_
    rintro e x4 ⟨rfl, hb⟩
    have hX4 := hX3.trans (hb.mono hX3.size)
    clear hb hX3
    go_wp2_with fail
    refine (implStretch_any pass n _ hpm (HG.out _ hX4)).mono ?_
    rintro e x5 ⟨rfl, hb⟩
    have hX5 := hX4.trans (hb.mono hX4.size)
    clear hb hX4
    go_wp2_with fail
    refine (specStretch_any pass n _ hpm).mono ?_
    rintro e x6 ⟨rfl, hb⟩
    have hX6 := hX5.trans (hb.mono hX5.size)
    clear hb hX5
    by_cases hn1 : n < 1
    · go_wp2_with fail
      go_ret
      exact ⟨rfl, hX6⟩
    · by_cases hn2 : 99 < n
      · go_wp2_with fail
        go_ret
        exact ⟨rfl, hX6⟩
      · have HST : Hid (macA pass (strA pass n) = strA pass (n + 1)) := str_next pass n hp (by omega) (by omega)
        have hsz : (strA pass n).size ≤ maxLen := (by have := strA_size pass n; unfold maxLen; omega)
        go_wp2_with fail
        refine (implStretch_any pass (n + 1) _ hpm (HG.out _ hX6)).mono ?_
        rintro e x7 ⟨rfl, hb⟩
        have hX7 := hX6.trans (hb.mono hX6.size)
        clear hb hX6
        go_wp2_with fail
        refine (implStretch_any pass n _ hpm (HG.out _ hX7)).mono ?_
        rintro e x8 ⟨rfl, hb⟩
        have hX8 := hX7.trans (hb.mono hX7.size)
        clear hb hX7
        go_wp2_with fail
        refine (implMac_any pass (strA pass n) _ hpm hsz (HG.out _ hX8)).mono ?_
        rw [HST.out]
        rintro e x9 ⟨rfl, hb⟩
        have hX9 := hX8.trans (hb.mono hX8.size)
        clear hb hX8
        go_wp2_with fail
        go_ret
        exact ⟨rfl, hX9⟩
  · obtain ⟨I, hI⟩ : ∃ I : ByteArray, shaB (padS key.data.toList 54 ++ t).data.toList = I := ⟨_, rfl⟩
    obtain ⟨D, hD⟩ : ∃ D : ByteArray, shaB (padS key.data.toList 92 ++ I).data.toList = D := ⟨_, rfl⟩
    have hzI : I.size = 32 := by rw [← hI]; exact shaB_size _
    have hz92 := padS_size key.data.toList 92
    have hz54 := padS_size key.data.toList 54
    have HI : Hid (digestA (padS key.data.toList 54 ++ t) = I) := by
      show _ = _
      rw [digestA_yes (by simp only [ByteArray.size_append]; omega)]; exact hI
    have HD : Hid (digestA (padS key.data.toList 92 ++ I) = D) := by
      show _ = _
      rw [digestA_yes (by simp only [ByteArray.size_append]; omega)]; exact hD
    have HM : Hid (macB key t = D) := by
      show _ = _
      unfold macB
      rw [show keyB key = key from if_neg hlong, ← hD, ← hI]
      simp only [ByteArray.data_append, Array.toList_append]
    clear hI hD
    have hks : key.size ≤ 64 := by omega
    go_wp2_with fail
    refine (lwPad_any key 54 _ y1 hks rfl).mono ?_
    rintro e y2 ⟨rfl, hb⟩
    have hY2 := hY1.trans (hb.mono hY1.size)
    clear hb hY1
    go_wp2_with fail
    refine (implDigest_any (padS key.data.toList 54 ++ t) y2 (by unfold maxLen; simp only [ByteArray.size_append]; omega) (HG.out _ hY2)).mono ?_
    rw [HI.out]
    rintro e y3 ⟨rfl, hb⟩
    have hY3 := hY2.trans (hb.mono hY2.size)
    clear hb hY2
    go_wp2_with fail
    refine (implMac_core key t y3 (by omega) (by omega) (HG.out _ hY3)).mono ?_
    rw [HM.out]
    rintro e y4 ⟨rfl, hb⟩
    have hY4 := hY3.trans (hb.mono hY3.size)
    clear hb hY3
    go_wp2_with fail
    refine (lwPad_any key 92 _ y4 hks rfl).mono ?_
    rintro e y5 ⟨rfl, hb⟩
    have hY5 := hY4.trans (hb.mono hY4.size)
    clear hb hY4
    go_wp2_with fail
    refine (implDigest_any (padS key.data.toList 92 ++ I) y5 (by unfold maxLen; simp only [ByteArray.size_append]; omega) (HG.out _ hY5)).mono ?_
    rw [HD.out]
    rintro e y6 ⟨rfl, hb⟩
    have hY6 := hY5.trans (hb.mono hY5.size)
    clear hb hY5
    go_wp2_with fail
    refine (drawDigest_any a1 len1 cap1 _ (HC1.out _ hY6)).mono ?_
    rintro e x1 ⟨t2, rfl, ht2, hb⟩
    have hX1 := hY6.trans (hb.mono hY6.size)
    clear hb
    have ht2m : t2.size ≤ maxLen := (by unfold maxLen; omega)
    go_wp2_with fail
    refine (drawStretch_any a1 len1 cap1 _ (HC1.out _ hX1)).mono ?_
    rintro e x2 ⟨pass, n, rfl, hp, n0, n1, hb⟩
    have hX2 := hX1.trans (hb.mono hX1.size)
    clear hb hX1
    have hpm : pass.size ≤ maxLen := (by unfold maxLen; omega)
    go_wp2_with fail
    refine (implDigest_any t2 _ ht2m (HG.out _ hX2)).mono ?_
    rintro e x3 ⟨rfl, hb⟩
    have hX3 := hX2.trans (hb.mono hX2.size)
    clear hb hX2
    go_wp2_with fail
    refine (specDigest_any t2 _ ht2m).mono ?_
    rintro e x4 ⟨rfl, hb⟩
    have hX4 := hX3.trans (hb.mono hX3.size)
    clear hb hX3
    go_wp2_with fail
    refine (implStretch_any pass n _ hpm (HG.out _ hX4)).mono ?_
    rintro e x5 ⟨rfl, hb⟩
    have hX5 := hX4.trans (hb.mono hX4.size)
    clear hb hX4
    go_wp2_with fail
    refine (specStretch_any pass n _ hpm).mono ?_
    rintro e x6 ⟨rfl, hb⟩
    have hX6 := hX5.trans (hb.mono hX5.size)
    clear hb hX5
    by_cases hn1 : n < 1
    · go_wp2_with fail
      go_ret
      exact ⟨rfl, hX6⟩
    · by_cases hn2 : 99 < n
      · go_wp2_with fail
        go_ret
        exact ⟨rfl, hX6⟩
      · have HST : Hid (macA pass (strA pass n) = strA pass (n + 1)) := str_next pass n hp (by omega) (by omega)
        have hsz : (strA pass n).size ≤ maxLen := (by have := strA_size pass n; unfold maxLen; omega)
        go_wp2_with fail
        refine (implStretch_any pass (n + 1) _ hpm (HG.out _ hX6)).mono ?_
        rintro e x7 ⟨rfl, hb⟩
        have hX7 := hX6.trans (hb.mono hX6.size)
        clear hb hX6
        go_wp2_with fail
        refine (implStretch_any pass n _ hpm (HG.out _ hX7)).mono ?_
        rintro e x8 ⟨rfl, hb⟩
        have hX8 := hX7.trans (hb.mono hX7.size)
        clear hb hX7
        go_wp2_with fail
        refine (implMac_any pass (strA pass n) _ hpm hsz (HG.out _ hX8)).mono ?_
        rw [HST.out]
        rintro e x9 ⟨rfl, hb⟩
        have hX9 := hX8.trans (hb.mono hX8.size)
        clear hb hX8
        go_wp2_with fail
        go_ret
        exact ⟨rfl, hX9⟩
end Go.Proofs.YtppmcmdmjginjaaDoor.sh
