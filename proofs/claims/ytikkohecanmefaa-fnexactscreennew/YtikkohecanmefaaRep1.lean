/-
  bytes.Repeat of one blank, one to twenty times: a row of its own of so many blanks; no old block turns. No condition but the number's.
-/
import Derived.Test.YtikkohecanmefaaRep0
import Derived.Lib.SlBuf
import Derived.Lib.MakeNoZero
import Derived.Laws.Externs
import Derived.Laws.CopyOwn
import Derived.Deep.RegionLaw
import Derived.OwnWalk
import Derived.LoopTactic
namespace Go.Proofs.Ytikkohecanmefaa.rp
open Go.ChangeShapes Go.WideShapes Go.ChangeAt Go.RowKit
set_option linter.unusedVariables false

/-- blanks -/
def blk (n : Nat) : List Value := List.replicate n (.int .u8 32)
/-- a row whose first n places are blanks -/
def Blank (w : World) (g n : Nat) : Prop := ∃ cs : List Value, w.heap[g]? = some (.cells cs.toArray 5 (0, 0)) ∧ n ≤ cs.length ∧ cs.take n = blk n
theorem info5 : (Try.prog.info? 5).map (·.size) = some 1 := by kernel_rfl
/-- so far filled -/
def Fill (w u : World) (n bp : Nat) : Prop := ∃ L : List Value, u.heap[w.heap.size]? = some (.cells L.toArray 5 (0, 0)) ∧ n ≤ L.length ∧ L.take bp = blk bp
theorem splice_len (L : List Value) (off : Nat) (cs : List Value) (h : off + cs.length ≤ L.length) : (splice L off cs).length = L.length := length_splice L off cs h
theorem blk_add (a b : Nat) : blk a ++ blk b = blk (a + b) := by simp [blk]
theorem splice_take (L : List Value) (bp k : Nat) (h : bp + k ≤ L.length) (ht : L.take bp = blk bp) : (splice L bp (blk k)).take (bp + k) = blk (bp + k) := by
  unfold splice
  have hl : (L.take bp).length = bp := by rw [List.length_take]; omega
  have hk : (blk k).length = k := by simp [blk]
  rw [← List.append_assoc, List.take_append_of_le_length (by rw [List.length_append, hl, hk]; exact Nat.le_refl _), List.take_of_length_le (by rw [List.length_append, hl, hk]; exact Nat.le_refl _), ht, blk_add]
set_option maxRecDepth 20000 in
set_option maxHeartbeats 8000000 in
theorem repeat_any (n gb cb : Nat) (w : World) (h1 : 1 ≤ n) (h2 : n ≤ 20) (hb : w.cell? ⟨gb, 0, none⟩ = some (.int .u8 32)) :
    Calls Try.prog 81 #[.slice (some ⟨gb, 0, none⟩) 1 cb, .int .i64 (n : Int)] w fun r w' => ∃ g, r = .returned (.slice (some ⟨g, 0, none⟩) n n) ∧ w.heap.size ≤ g ∧ Blank w' g n ∧ Below w.heap.size w w' := by
  have hm := fun u => mul_any n u h1 h2
  obtain ⟨cs, hrunM, hle, hmx⟩ := Lib.run_makeNoZero (P := Try.prog) w #[3] 83 5 Try.underlying83 n (by omega)
  have hcall : (callFunc 88 #[.int .i64 (n : Int)]).run Try.prog w = .ok (.value (.slice (some ⟨w.heap.size, 0, none⟩) n cs.size)) ((w.alloc (.cells cs 5)).drewN 2) := by
    rw [run_callFunc_extern Try.func88 (by kernel_rfl) (by kernel_rfl) (by kernel_rfl) (e := Extern.BytealgMakeNoZero.makeNoZero #[3] #[83]) (by kernel_rfl), hrunM]
    rfl
  clear hrunM
  have e0 : ((n : Int) == 0) = false := by simp; omega
  have d0 : ¬ (n : Int) < 0 := by omega
  have i0 : (0 : Int) ≤ (n : Int) := by omega
  have i1 : (n : Int) ≤ (cs.size : Int) := by omega
  have d9 : ¬ 8192 < (n : Int) := by omega
  go_enter Try.func81, Try.ntmps81
  have hg0 : ((w.alloc (.cells cs 5)).drewN 2).heap[w.heap.size]? = some (.cells cs.toList.toArray 5 (0, 0)) := by
    show (w.alloc (.cells cs 5)).heap[w.heap.size]? = _
    rw [heap_alloc_new]
  have hB0 : Below w.heap.size w ((w.alloc (.cells cs 5)).drewN 2) := ⟨rfl, rfl, rfl, by simp, fun k hk => heap_alloc_old w _ hk⟩
  have hb0 : ∀ j v, [Value.int .u8 32][j]? = some v → ((w.alloc (.cells cs 5)).drewN 2).cell? ((⟨gb, 0, none⟩ : Addr).add j) = some v := fun j v hj => by
    match j, hj with
    | 0, hj =>
      simp at hj
      subst hj
      have e : (⟨gb, 0, none⟩ : Addr).add 0 = ⟨gb, 0, none⟩ := by simp [Addr.add]
      rw [e]
      exact Lib.Below.cellOf hB0 hb (Nat.le_refl _)
  have hm1 : [Value.int .u8 32].length = Nat.min 1 n := (Nat.min_eq_left h1).symm
  go_wp2_with (first | (go_at_call 87; (with_reducible refine (hm _).mono ?_); rintro r w' ⟨rfl, hw'⟩; obtain rfl := hw'.symm) | (refine wpList_copy_splice rfl (.tmp 58) (.tmp 59) 83 83 rfl 5 Try.underlying83 info5 _ _ _ _ _ _ rfl rfl w.heap.size 0 cs.toList 5 hg0 [.int .u8 32] hm1 (fun _ => ⟨rfl, _, rfl, hb0⟩) (by simp; omega) (by simp [Value.oneCell']) w.heap.size w hB0 (Nat.le_refl _) ?_; intro w2 HG2 hB2))
  have hF1 : Hid (Fill w w2 n 1) := ⟨_, HG2.out, by rw [splice_len _ _ _ (by simp; omega)]; simpa using hle, by have h := splice_take cs.toList 0 1 (by simp; omega) (by simp [blk]); rwa [Nat.zero_add] at h⟩
  have HB2 : Hid (Below w.heap.size w w2) := hB2
  clear HG2 hB2 hB0 hb0 hm1 hcall hm hb hg0
  go_loopw [10] (fun b u => ∃ bp : Nat, 1 ≤ bp ∧ bp ≤ n ∧ b = .int .i64 bp ∧ Hid (Fill w u n bp) ∧ Hid (Below w.heap.size w u)) (fun b _ => n - (intOf b).toNat)
  case atStart => exact ⟨1, Nat.le_refl _, h1, rfl, hF1, HB2⟩
  case round =>
    clear hF1 HB2
    obtain ⟨bp, hb1, hbn, rfl, HF, HB⟩ := hrel
    by_cases hlt : bp < n
    · have hmin : min (bp : Int) (n : Int) = (bp : Int) := by omega
      go_wp2
      obtain ⟨L, hL, hnL, hT⟩ := HF.out
      have hLd : wr.drew.heap[w.heap.size]? = some (.cells L.toArray 5 (0, 0)) := hL
      have hBd : Below w.heap.size w wr.drew := HB.out.drew
      obtain ⟨k, hk⟩ : ∃ k, k = min bp (n - bp) := ⟨_, rfl⟩
      have hkn : (blk k).length = Nat.min bp (n - bp) := by rw [hk]; simp [blk]
      have hkp : 1 ≤ k := by omega
      have hkb : k ≤ bp := by omega
      have hkn2 : bp + k ≤ n := by omega
      have HNext : Hid (∀ u, u.heap[w.heap.size]? = some (.cells (splice L bp (blk k)).toArray 5 (0, 0)) → Fill w u n (bp + k)) := fun u hu => ⟨_, hu, by rw [splice_len _ _ _ (by simp [blk]; omega)]; exact hnL, splice_take L bp k (by omega) hT⟩
      have hsrc : ∀ j v, (blk k)[j]? = some v → wr.drew.cell? ((⟨w.heap.size, 0, none⟩ : Addr).add j) = some v := fun j v hj => by
        have hjk : j < k := by have := (List.getElem?_eq_some_iff.1 hj).1; simpa [blk] using this
        have hv : v = .int .u8 32 := by
          have := (List.getElem?_eq_some_iff.1 hj).2
          simpa [blk] using this.symm
        have h1 : L[j]? = some (.int .u8 32) := by
          have := congrArg (fun z => z[j]?) hT
          simp only [List.getElem?_take_of_lt (show j < bp by omega)] at this
          rw [this]; unfold blk; rw [List.getElem?_replicate, if_pos (show j < bp by omega)]
        have ea : (⟨w.heap.size, 0, none⟩ : Addr).add j = ⟨w.heap.size, j, none⟩ := by unfold Addr.add; split <;> simp_all
        rw [ea]
        simp [World.cell?, hLd, h1, hv]
      have hlen : (blk k).length = k := by simp [blk]
      have hfit : bp + (blk k).length ≤ L.length := by rw [hlen]; omega
      have hws : IntKind.i64.wrap ((bp : Int) + ((bp.min (n - bp) : Nat) : Int)) = ((bp + k : Nat) : Int) := by
        have : bp.min (n - bp) = k := hk.symm
        rw [this, IntKind.wrap_i64]; omega
      have hne : ¬ n = bp := by omega
      have j0 : (0 : Int) ≤ (bp : Int) := by omega
      have j1 : (bp : Int) ≤ (n : Int) := by omega
      have hsl1 : ∀ W, (Instr.slice 83 (.slice (some ⟨w.heap.size, 0, none⟩) n n) (some (.int .i64 (bp : Int))) none none).run Try.prog W = .ok (.slice (some ⟨w.heap.size, bp, none⟩) (n - bp) (n - bp)) W := fun W => by
        have := Lib.run_slice_tailV (P := Try.prog) W 83 5 Try.underlying83 (fun w => by kernel_rfl) w.heap.size n bp (by omega)
        unfold Lib.tailV at this
        rwa [if_neg hne] at this
      clear hL hT hk hnL HF HB hmx hle i1
      go_region_law (refine step_copy_splice rfl (.tmp 70) (.tmp 73) 83 83 rfl 5 Try.underlying83 info5 (some ⟨w.heap.size, bp, none⟩) (some ⟨w.heap.size, 0, none⟩) (n - bp) (n - bp) bp n (by simp [Act.eval, Act.put]) (by simp [Act.eval, Act.put]) w.heap.size bp L 5 hLd (blk k) hkn (fun _ => ⟨rfl, _, rfl, hsrc⟩) hfit (fun v hv => by rw [List.eq_of_mem_replicate hv]; rfl) w.heap.size w hBd (Nat.le_refl _) ?_; intro w4 hg4 hb4)
      have HF4 : Hid (Fill w w4 n (bp + k)) := HNext.out _ hg4.out
      have HB4 : Hid (Below w.heap.size w w4) := hb4
      clear hg4 hb4 HNext hsrc hsl1 hLd hBd
      go_simp
      go_roundw
      case rel => exact ⟨_, _, _, _, _, _, _, _, _, _, _, _, _, _, _, _, _, ⟨bp + k, by omega, by omega, by go_num, HF4, HB4⟩, rfl⟩
      case measure => simp [intOf]; omega
    · obtain rfl : bp = n := by omega
      go_wp2
      go_ret
      exact ⟨_, rfl, Nat.le_refl _, HF.out, HB.out⟩
end Go.Proofs.Ytikkohecanmefaa.rp
