/-
  The program's SenderRight at every sender: it tells what the plain condition tells; no old block turns. No condition.
-/
import Derived.Test.YtjjfdkmhoocfhaaStR0
import Derived.Test.YtjjfdkmhoocfhaaRegW
namespace Go.Proofs.Ytjjfdkmhoocfhaa.st
open Go.ChangeShapes Go.WideShapes Go.ChangeAt Go.RowKit
open Go.Proofs.Ytjjfdkmhoocfhaa.wi (heap_lt calls_w wp_w)
open Classical
set_option linter.unusedVariables false

theorem slice_row {w : World} {v : Value} {l : List Ln} (h : SliceIs w v l) (hl : l ≠ []) : ∃ b off cap, b < w.heap.size ∧ v = .slice (some ⟨b, off, none⟩) l.length cap ∧ Row w b off l := by
  rcases h with ⟨p, cap, rfl, rfl⟩ | h
  · exact absurd rfl hl
  · exact h
set_option maxHeartbeats 8000000 in
theorem sndI_any (v : Value) (l : List Ln) (w : World) (hl : l.length ≤ maxLen) (hz : ∀ r ∈ l, r.2.size ≤ maxLen) (hv : SliceIs w v l) :
    Calls Try.prog 22 #[.agg #[v]] w fun r w' => r = .returned (.bool (decide (SndR l))) ∧ Below w.heap.size w w' := by
  have HB0 : Hid (∀ o, Below w.heap.size w (w.alloc o)) := fun o => (Below.refl _ _).alloc (Nat.le_refl _) o
  have hw := within_any (l.length : Int) 1 8
  by_cases h1 : 1 ≤ (l.length : Int) ∧ (l.length : Int) ≤ 8
  · rw [decide_eq_true h1] at hw
    have hne : l ≠ [] := fun e => by subst e; simp at h1
    obtain ⟨b, off, cap, hb, rfl, hR0⟩ := slice_row hv hne
    have HZ : Hid (∀ k, k < l.length → (l.getD k ln0).2.size ≤ maxLen) := fun k hk => by
      rw [List.getD_eq_getElem?_getD, List.getElem?_eq_getElem hk]; exact hz _ (List.getElem_mem hk)
    have h18 : 1 ≤ l.length ∧ l.length ≤ 8 := by omega
    have HD : Hid (RightTo l l.length → decide (SndR l) = true) := fun h => decide_eq_true (h.done h18)
    have HN : Hid (∀ k, k < l.length → ¬ (StR (l.getD k ln0).1 (l.getD k ln0).2 ∧ leastAt l k ≤ (l.getD k ln0).1) → decide (SndR l) = false) := fun k hk h => decide_eq_false (SndR.not hk h)
    obtain ⟨n, hn⟩ : ∃ n, n = l.length := ⟨_, rfl⟩
    have HR : Hid (∀ u, Below w.heap.size w u → ∀ k, k < n → u.cell? ⟨b, off + k * 2, none⟩ = some (.int .i64 (l.getD k ln0).1) ∧ u.cell? ⟨b, off + k * 2 + 1, none⟩ = some (.string (l.getD k ln0).2)) := fun u hu k hk => (hR0.below hu hb) k (by omega)
    rw [← hn] at hw h18 HZ HD HN ⊢
    have HB1 : Hid (Below w.heap.size w (w.alloc (.cells #[.slice (some ⟨b, off, none⟩) n cap] 49))) := HB0.out _
    clear hn hR0 hz hv hne h1 hl HB0
    have hn9 : (n : Int) ≤ 9223372036854775807 := by omega
    go_enter Try.func22, Try.ntmps22
    go_wp2_with (go_at_call 46; (with_reducible refine (hw _).mono ?_); rintro r w' ⟨rfl, hw'⟩; obtain rfl := hw'.symm)
    go_loopw [3, 14] (fun x i u => ∃ k : Nat, k ≤ n ∧ i = .int .i64 k ∧ x = .int .i64 (leastAt l k) ∧ Hid (RightTo l k) ∧ Hid (Below w.heap.size w u)) (fun _ i _ => n - (intOf i).toNat)
    case atStart => exact ⟨0, Nat.zero_le _, rfl, rfl, RightTo.zero l, HB1⟩
    case round =>
      clear HB1 hw
      obtain ⟨k, hk, rfl, rfl, HG, HU⟩ := hrel
      by_cases hlt : k < n
      · obtain ⟨c1, c2⟩ := HR.out wr HU.out k hlt
        have h4 := HZ.out k hlt
        have HN1 := HN.out k hlt
        have hla := leastAt_lt HG.out
        have HS : Hid (StR (l.getD k ln0).1 (l.getD k ln0).2 → leastAt l k ≤ (l.getD k ln0).1 → RightTo l (k + 1)) := HG.out.succ
        have HL : Hid (leastAt l (k + 1) = (l.getD k ln0).1 + 1) := leastAt_succ l k
        obtain ⟨x, hx⟩ : ∃ x, x = (l.getD k ln0).2 := ⟨_, rfl⟩
        obtain ⟨z, hz'⟩ : ∃ z, z = (l.getD k ln0).1 := ⟨_, rfl⟩
        obtain ⟨y, hy⟩ : ∃ y, y = leastAt l k := ⟨_, rfl⟩
        rw [← hx] at c2 h4 HN1 HS
        rw [← hz'] at c1 HN1 HS HL
        rw [← hy] at HN1 HS hla ⊢
        have HN2 : Hid (¬ (StR z x ∧ y ≤ z) → decide (SndR l) = false) := HN1
        clear hx hz' hy HN1 HG
        have hs := fun u => stateI_any z x u h4
        go_wp2_with (go_at_call 37; fail)
        obtain ⟨q, hq⟩ : ∃ q, q = wr.heap.size := ⟨_, rfl⟩
        rw [← hq]
        refine calls_w (fun u => Below w.heap.size w u ∧ rw.At u q #[.int .i64 z, .string x] 28) ⟨HU.out.alloc HU.out.size _, by rw [hq]; exact rw.At.new _ _ _⟩ ?_
        clear HU hq c1 c2
        rintro u ⟨hu, ha⟩
        refine (hs u).mono ?_
        rintro r w3 ⟨rfl, hb3⟩
        have HB3 : Hid (Below w.heap.size w w3) := hu.trans (hb3.mono hu.size)
        have c1 : w3.cell? ⟨q, 0, none⟩ = some (.int .i64 z) := (ha.up hb3).cell 0
        clear hu hb3 ha hs
        by_cases s1 : StR z x
        · rw [decide_eq_true s1]
          by_cases s2 : z < y
          · have d2 : decide (z < y) = true := decide_eq_true s2
            have HF : Hid (decide (SndR l) = false) := HN2.out (fun h => by omega)
            clear HN2 HS s1 s2 HL
            go_wp2_with (go_at_call 37; fail)
            go_ret
            exact ⟨ret_b HF.out.symm, HB3.out⟩
          · have d2 : decide (z < y) = false := decide_eq_false s2
            have HQ : Hid (RightTo l (k + 1)) := HS.out s1 (by omega)
            have hz1 := s1.1
            have hwz : IntKind.i64.wrap (z + 1) = z + 1 := by rw [IntKind.wrap_i64]; omega
            clear HN2 HS s1 s2
            go_wp2_with (go_at_call 37; fail)
            exact ⟨⟨k + 1, by omega, by go_num, by rw [HL.out], HQ, HB3⟩, by simp [intOf]; omega⟩
        · rw [decide_eq_false s1]
          have HF : Hid (decide (SndR l) = false) := HN2.out (fun h => s1 h.1)
          clear HN2 HS s1 HL
          go_wp2_with (go_at_call 37; fail)
          go_ret
          exact ⟨ret_b HF.out.symm, HB3.out⟩
      · obtain rfl : k = n := by omega
        have HF : Hid (decide (SndR l) = true) := HD.out HG.out
        clear HG HD HN
        go_wp2
        go_ret
        exact ⟨ret_b HF.out.symm, HU.out⟩
  · rw [decide_eq_false h1] at hw
    have HF : Hid (false = decide (SndR l)) := (decide_eq_false (fun h : SndR l => h1 (by have := h.1; omega))).symm
    obtain ⟨p, cap, rfl⟩ := hv.shape
    unfold maxLen at hl
    clear hv hz h1
    go_enter Try.func22, Try.ntmps22
    go_wp2_with (go_at_call 46; (with_reducible refine (hw _).mono ?_); rintro r w' ⟨rfl, hw'⟩; obtain rfl := hw'.symm)
    go_ret
    exact ⟨ret_b HF.out, HB0.out _⟩
end Go.Proofs.Ytjjfdkmhoocfhaa.st
