/-
  The law's own helpers on slices of texts: a slice measured, copied, held against another: what they tell; no old block turns. No condition.
-/
import Derived.Test.YtikkohecanmefabLogS0
namespace Go.Proofs.Ytikkohecanmefab.ss
open Go.ChangeShapes Go.WideShapes Go.ChangeAt Go.RowKit
open Go.Proofs.Ytikkohecanmefab.wi (heap_lt calls_w wp_w)
set_option linter.unusedVariables false

/-- how many bytes texts have together -/
def tot (s : List ByteArray) : Nat := (s.map ByteArray.size).sum
theorem tot_nil : tot [] = 0 := rfl
theorem tot_app (a b : List ByteArray) : tot (a ++ b) = tot a + tot b := by simp [tot]
theorem tot_succ {s : List ByteArray} {k : Nat} (h : k < s.length) : tot (s.take (k + 1)) = tot (s.take k) + (s.getD k ⟨#[]⟩).size := by
  rw [← List.take_append_getElem h, tot_app]
  simp [tot, List.getD, List.getElem?_eq_getElem h]
theorem tot_take_le (s : List ByteArray) (k : Nat) : tot (s.take k) ≤ tot s := by
  have := tot_app (s.take k) (s.drop k)
  rw [List.take_append_drop] at this
  omega
/-- what is left when texts are taken off -/
def szV (left : Int) (s : List ByteArray) : Int := if left - ((s.length : Int) + (tot s : Int)) < 0 then -1 else left - ((s.length : Int) + (tot s : Int))

set_option maxHeartbeats 8000000 in
theorem szTexts_any (v : Value) (s : List ByteArray) (left : Int) (w : World) (h0 : 0 ≤ left) (h1 : left ≤ 1048576) (hs : s.length ≤ maxLen) (hz : ∀ r ∈ s, r.size ≤ maxLen) (hv : SliceIs w v s) :
    Calls Try.prog 26 #[v, .int .i64 left] w fun r w' => r = .returned (.int .i64 (szV left s)) ∧ Below w.heap.size w w' := by
  have HB : Hid (Below w.heap.size w w) := Below.refl _ _
  unfold maxLen at hs hz
  by_cases h2 : left - (s.length : Int) < 0
  · have HV : Hid (szV left s = -1) := if_pos (by omega)
    obtain ⟨p, cap, rfl⟩ := hv.shape
    clear hv
    go_enter Try.func26, Try.ntmps26
    go_wp2
    go_ret
    exact ⟨by rw [HV.out]; rfl, HB.out⟩
  · rcases hv with ⟨p, cap, rfl, rfl⟩ | ⟨b, off, cap, hb, rfl, hR⟩
    · have HV : Hid (szV left [] = left) := by
        show szV left [] = left
        unfold szV
        rw [tot_nil, if_neg (by simp; omega)]; simp
      go_enter Try.func26, Try.ntmps26
      go_wp2
      refine wp_loop_rounds 1 ?_
      rw [rounds_succ]
      go_wp2
      go_ret
      refine ⟨?_, HB.out⟩
      rw [HV.out]; simp
    · have HR : Hid (Row w b off s) := hR
      have HZ : Hid (∀ k, k < s.length → (s.getD k ⟨#[]⟩).size ≤ 9223372036854775807) := fun k hk => by
        rw [List.getD_eq_getElem?_getD, List.getElem?_eq_getElem hk]; exact hz _ (List.getElem_mem hk)
      have HS : Hid (∀ k, k < s.length → tot (s.take (k + 1)) = tot (s.take k) + (s.getD k ⟨#[]⟩).size) := fun k hk => tot_succ hk
      have HN : Hid (∀ k, left - (s.length : Int) - (tot (s.take k) : Int) < 0 → szV left s = -1) := fun k hk => if_pos (by have := tot_take_le s k; omega)
      have HY : Hid (¬ left - (s.length : Int) - (tot (s.take s.length) : Int) < 0 → szV left s = left - (s.length : Int) - (tot (s.take s.length) : Int)) := fun h => by
        rw [List.take_length] at h ⊢
        unfold szV
        rw [if_neg (by omega)]; omega
      clear hR hz
      obtain ⟨n, hn⟩ : ∃ n, n = s.length := ⟨_, rfl⟩
      rw [← hn] at hs h2 HZ HS HN HY ⊢
      have HT0 : Hid (tot (s.take 0) = 0) := by show tot (s.take 0) = 0; simp [tot]
      have HRn : Hid (∀ k, k < n → w.cell? ⟨b, off + k, none⟩ = some (.string (s.getD k ⟨#[]⟩))) := fun k hk => HR.out k (by omega)
      clear hn HR
      go_enter Try.func26, Try.ntmps26
      go_wp2
      go_loopw [1, 5] (fun x i u => ∃ k : Nat, k ≤ n ∧ i = .int .i64 k ∧ x = .int .i64 (left - (n : Int) - (tot (s.take k) : Int)) ∧ 0 ≤ left - (n : Int) - (tot (s.take k) : Int) ∧ ∃ m, u = w.drewN m) (fun _ i _ => n - (intOf i).toNat)
      case atStart => exact ⟨0, Nat.zero_le _, rfl, by rw [HT0.out]; simp, by rw [HT0.out]; simpa using h2, 0, rfl⟩
      case round =>
        obtain ⟨k, hk, rfl, rfl, h3, m, rfl⟩ := hrel
        have HU : Hid (Below w.heap.size w (w.drewN m)) := below_drewN HB.out m
        by_cases hlt : k < n
        · have c1 : (w.drewN m).cell? ⟨b, off + k, none⟩ = some (.string (s.getD k ⟨#[]⟩)) := HRn.out k hlt
          have h4 := HZ.out k hlt
          have h5 := HS.out k hlt
          have HN1 := HN.out (k + 1)
          rw [h5] at HN1
          obtain ⟨x, hx⟩ : ∃ x, x = s.getD k ⟨#[]⟩ := ⟨_, rfl⟩
          obtain ⟨y, hy⟩ : ∃ y : Int, y = left - (n : Int) - (tot (s.take k) : Int) := ⟨_, rfl⟩
          rw [← hx] at c1 h4 h5 HN1
          have h6 : left - (n : Int) - (tot (s.take (k + 1)) : Int) = y - (x.size : Int) := by omega
          have HN2 : Hid (y - (x.size : Int) < 0 → szV left s = -1) := fun h => HN1 (by omega)
          have hy1 : y ≤ 1048576 := by omega
          rw [← hy] at h3 ⊢
          clear hx hy HN1 h5
          by_cases hneg : y - (x.size : Int) < 0
          · have d : decide (y - (x.size : Int) < 0) = true := decide_eq_true hneg
            have HV : Hid (szV left s = -1) := HN2.out hneg
            clear HN2 h6
            go_wp2
            go_ret
            exact ⟨by rw [HV.out]; rfl, HU.out⟩
          · have d : decide (y - (x.size : Int) < 0) = false := decide_eq_false hneg
            clear HN2
            go_wp2
            refine ⟨⟨k + 1, by omega, by go_num, by rw [h6], by omega, m, rfl⟩, by simp [intOf]; omega⟩
        · obtain rfl : k = n := by omega
          have HV := HY.out (by omega)
          go_wp2
          go_ret
          exact ⟨by rw [HV]; rfl, HU.out⟩

set_option maxHeartbeats 8000000 in
theorem toTexts_any (v : Value) (s : List ByteArray) (w : World) (hs : s.length ≤ 1048576) (hv : SliceIs w v s) :
    Calls Try.prog 32 #[v] w fun r w' => r = .returned (.slice (some ⟨w.heap.size, 0, none⟩) s.length s.length) ∧ Below w.heap.size w w' ∧ Blk w' w.heap.size s := by
  obtain ⟨i0, hi, hz0, hz1, hz2⟩ := info_parts infoS
  have hmk : (Instr.makeSlice 22 (.int .i64 (s.length : Int)) (.int .i64 (s.length : Int))).run Try.prog w = .ok (.slice (some ⟨w.heap.size, 0, none⟩) s.length s.length) (w.alloc (.cells (cells (upTo s 0)) 9)) := by
    have h := run_make (P := Try.prog) w 22 9 i0 (.string ⟨#[]⟩) Try.underlying22 hi hz0 .i64 .i64 (s.length : Int) (s.length : Int) (by omega) (Int.le_refl _) (by rw [hz2]; omega) (by omega)
    rw [upTo_zero, ← madeRow]
    simpa [hz1, Value.cells] using h
  have HR0 : Hid (Blk (w.alloc (.cells (cells (upTo s 0)) 9)) w.heap.size (upTo s 0)) := heap_alloc_new _ _
  have HB0 : Hid (Below w.heap.size w (w.alloc (.cells (cells (upTo s 0)) 9))) := (Below.refl _ _).alloc (Nat.le_refl _) _
  generalize hW : w.alloc (.cells (cells (upTo s 0)) 9) = W at *
  clear hW
  rcases hv with ⟨p, cap, rfl, rfl⟩ | ⟨b, off, cap, hb, rfl, hR⟩
  · have hmk' : (Instr.makeSlice 22 (.int .i64 0) (.int .i64 0)).run Try.prog w = .ok (.slice (some ⟨w.heap.size, 0, none⟩) 0 0) W := hmk
    clear hmk
    go_enter Try.func32, Try.ntmps32
    go_wp2
    refine wp_loop_rounds 1 ?_
    rw [rounds_succ]
    go_wp2
    go_ret
    exact ⟨rfl, HB0.out, HR0.out⟩
  · have HR : Hid (∀ u, Below w.heap.size w u → Row u b off s) := fun u hu => hR.below hu hb
    clear hR
    go_enter Try.func32, Try.ntmps32
    go_wp2
    clear hmk
    go_loopw [4] (fun i u => ∃ k : Nat, k ≤ s.length ∧ i = .int .i64 k ∧ Hid (Below w.heap.size w u) ∧ Hid (Blk u w.heap.size (upTo s k))) (fun i _ => s.length - (intOf i).toNat)
    case atStart => exact ⟨0, Nat.zero_le _, rfl, HB0, HR0⟩
    case round =>
      clear HB0 HR0
      obtain ⟨k, hk, rfl, HB, HK⟩ := hrel
      by_cases hlt : k < s.length
      · have hcell := HR.out wr HB.out k hlt
        have hf := HK.out.frozen k
        have hc := HK.out.cell k (by rw [upTo_length s k hk]; exact hlt)
        obtain ⟨y, hy⟩ : ∃ y, y = (upTo s k).getD k ⟨#[]⟩ := ⟨_, rfl⟩
        rw [← hy] at hc
        have HK' : Hid (∀ x, x = s.getD k ⟨#[]⟩ → Blk (wr.setCell ⟨w.heap.size, k, none⟩ (.string x)) w.heap.size (upTo s (k + 1))) := fun x hx => by
          rw [← upTo_set s k hlt, ← hx]; exact HK.out.set k x
        have HBX : Hid (∀ x, Below w.heap.size w (wr.setCell ⟨w.heap.size, k, none⟩ x)) := fun x => HB.out.setCell (Nat.le_refl _) x
        obtain ⟨x, hx⟩ : ∃ x, x = s.getD k ⟨#[]⟩ := ⟨_, rfl⟩
        rw [← hx] at hcell HK'
        clear hx hy HK HB HR
        go_wp2
        exact ⟨⟨k + 1, by omega, by go_num, HBX.out _, HK'.out _ rfl⟩, by simp [intOf]; omega⟩
      · obtain rfl : k = s.length := by omega
        rw [upTo_end] at HK
        go_wp2
        go_ret
        exact ⟨rfl, HB.out, HK.out⟩

set_option maxHeartbeats 8000000 in
theorem eqTexts_any (va vb : Value) (s : List ByteArray) (w : World) (hs : s.length ≤ maxLen) (ha : SliceIs w va s) (hb : SliceIs w vb s) :
    Calls Try.prog 39 #[va, vb] w fun r w' => r = .returned (.bool true) ∧ Below w.heap.size w w' := by
  have HB : Hid (Below w.heap.size w w) := Below.refl _ _
  unfold maxLen at hs
  by_cases h0 : s = []
  · subst h0
    obtain ⟨pa, ca, rfl⟩ := ha.shape
    obtain ⟨pb, cb, rfl⟩ := hb.shape
    clear ha hb
    go_enter Try.func39, Try.ntmps39
    go_wp2
    refine wp_loop_rounds 1 ?_
    rw [rounds_succ]
    go_wp2
    go_ret
    exact ⟨rfl, HB.out⟩
  · obtain ⟨ba, oa, ca, rfl, hRa⟩ : ∃ b off cap, va = .slice (some ⟨b, off, none⟩) s.length cap ∧ Row w b off s := by
      rcases ha with ⟨p, cap, h, _⟩ | ⟨b, off, cap, hb, rfl, hR⟩
      · exact absurd h h0
      · exact ⟨_, _, _, rfl, hR⟩
    obtain ⟨bb, ob, cb, rfl, hRb⟩ : ∃ b off cap, vb = .slice (some ⟨b, off, none⟩) s.length cap ∧ Row w b off s := by
      rcases hb with ⟨p, cap, h, _⟩ | ⟨b, off, cap, hb, rfl, hR⟩
      · exact absurd h h0
      · exact ⟨_, _, _, rfl, hR⟩
    have HRa : Hid (Row w ba oa s) := hRa
    have HRb : Hid (Row w bb ob s) := hRb
    clear ha hb h0 hRa hRb
    go_enter Try.func39, Try.ntmps39
    go_wp2
    go_loopw [5] (fun i u => ∃ k : Nat, k ≤ s.length ∧ i = .int .i64 k ∧ ∃ n, u = w.drewN n) (fun i _ => s.length - (intOf i).toNat)
    case atStart => exact ⟨0, Nat.zero_le _, rfl, 0, rfl⟩
    case round =>
      obtain ⟨k, hk, rfl, n, rfl⟩ := hrel
      have HN : Hid (Below w.heap.size w (w.drewN n)) := below_drewN HB.out n
      by_cases hlt : k < s.length
      · have c1 := HRa.out k hlt
        have c2 := HRb.out k hlt
        obtain ⟨x, hx⟩ : ∃ x, x = s.getD k ⟨#[]⟩ := ⟨_, rfl⟩
        rw [← hx] at c1 c2
        clear hx
        go_wp2
        refine wp_w (fun u => (∃ n, u = w.drewN n) ∧ u.cell? ⟨ba, oa + k, none⟩ = some (.string x) ∧ u.cell? ⟨bb, ob + k, none⟩ = some (.string x)) ⟨⟨n, rfl⟩, c1, c2⟩ ?_
        clear c1 c2 HN
        rintro u ⟨hu, c1, c2⟩
        have HU : Hid (∃ n, u = w.drewN n) := hu
        clear hu
        go_quiet (fail)
        go_wp2
        refine ⟨⟨k + 1, by omega, by go_num, ?_⟩, by simp [intOf]; omega⟩
        obtain ⟨m, rfl⟩ := HU.out
        exact ⟨_, World.drewN_drewN _ _ _⟩
      · obtain rfl : k = s.length := by omega
        go_wp2
        go_ret
        exact ⟨rfl, HN.out⟩
end Go.Proofs.Ytikkohecanmefab.ss
