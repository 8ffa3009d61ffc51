/-
  The model's l06Small at every patch. No condition.
-/
import Derived.Test.YtikkohecanmefabPbI
namespace Go.Proofs.Ytikkohecanmefab.ls
open Go.ChangeShapes Go.WideShapes Go.ChangeAt Go.RowKit
open Go.Proofs.Ytikkohecanmefab.wi (heap_lt calls_w wp_w)
open Classical
set_option linter.unusedVariables false

set_option maxHeartbeats 8000000 in
theorem smallM_any (v : Value) (s : List Ln) (row col : Int) (e : ByteArray) (w : World) (hl : s.length ≤ maxLen) (hz : ∀ r ∈ s, r.2.size ≤ maxLen) (he : e.size ≤ maxLen) (hv : SliceIs w v s) :
    Calls Try.prog 44 #[.agg #[v, .int .i64 row, .int .i64 col, .string e]] w fun r w' => r = .returned (.bool (decide (FitsP s e))) ∧ Below w.heap.size w w' := by
  have HI0 : Hid (InP w v row col e (w.alloc (.cells #[v, .int .i64 row, .int .i64 col, .string e] 37))) := InP.new
  have HZ : Hid (∀ k, k < s.length → (s.getD k ln0).2.size ≤ 9223372036854775807) := fun k hk => by
    rw [List.getD_eq_getElem?_getD, List.getElem?_eq_getElem hk]; exact hz _ (List.getElem_mem hk)
  unfold maxLen at hl he
  obtain ⟨A, hA⟩ : ∃ A, A = decide (FitsP s e) := ⟨_, rfl⟩
  rw [← hA]
  have HA : Hid (A = decide (FitsP s e)) := hA
  clear hA hz
  have HT : Hid (s.length ≤ 6 → e.size ≤ 8 → (∀ j, j < s.length → (s.getD j ln0).2.size ≤ 20) → true = A) := fun h h' h'' => by rw [HA.out]; exact (decide_eq_true ⟨h, h', h''⟩).symm
  have HN : Hid (∀ j, j < s.length → 20 < (s.getD j ln0).2.size → false = A) := fun j hj hj' => by rw [HA.out]; exact (decide_eq_false fun h => by have := h.2.2 j hj; omega).symm
  have HN2 : Hid (6 < s.length → false = A) := fun h => by rw [HA.out]; exact (decide_eq_false fun h' => by have := h'.1; omega).symm
  have HN3 : Hid (8 < e.size → false = A) := fun h => by rw [HA.out]; exact (decide_eq_false fun h' => by have := h'.2.1; omega).symm
  clear HA
  rcases hv with ⟨p', cap', rfl, rfl⟩ | ⟨b, off, cap, hb, rfl, hR⟩
  · have HT2 : Hid (e.size ≤ 8 → true = A) := fun h => HT.out (by simp) h fun j hj => by simp at hj
    have HB : Hid (Below w.heap.size w (w.alloc (.cells #[.slice p' 0 cap', .int .i64 row, .int .i64 col, .string e] 37))) := HI0.out.1
    clear HT HN HN2 HZ HI0
    have HF' : Hid (decide ((e.size : Int) ≤ 8) = A) := by
      show _ = A
      by_cases h2 : 8 < e.size
      · rw [← HN3.out h2]; exact decide_eq_false (by omega)
      · rw [← HT2.out (by omega)]; exact decide_eq_true (by omega)
    clear HN3 HT2
    go_enter Try.func44, Try.ntmps44
    go_wp2
    refine wp_loop_rounds 1 ?_
    rw [rounds_succ]
    go_wp2
    go_ret
    exact ⟨ret_b HF'.out, HB.out⟩
  · obtain ⟨n, hn⟩ : ∃ n, n = s.length := ⟨_, rfl⟩
    have HR : Hid (∀ u, Below w.heap.size w u → ∀ k, k < n → u.cell? ⟨b, off + k * 2, none⟩ = some (.int .i64 (s.getD k ln0).1) ∧ u.cell? ⟨b, off + k * 2 + 1, none⟩ = some (.string (s.getD k ln0).2)) := fun u hu k hk => (hR.below hu hb) k (by omega)
    rw [← hn] at hl HZ HT HN HN2 HI0 ⊢
    clear hn hR
    go_enter Try.func44, Try.ntmps44
    go_wp2_with fail
    refine wp_w (InP w (.slice (some ⟨b, off, none⟩) n cap) row col e) HI0.out ?_
    clear HI0
    intro u0 i0
    go_loopw [3] (fun i u => ∃ k : Nat, k ≤ n ∧ k ≤ 7 ∧ i = .int .i64 k ∧ Hid (∀ j, j < k → (s.getD j ln0).2.size ≤ 20) ∧ Hid (InP w (.slice (some ⟨b, off, none⟩) n cap) row col e u)) (fun i _ => 7 - (intOf i).toNat)
    case atStart => exact ⟨0, Nat.zero_le _, by omega, rfl, fun j hj => by omega, i0⟩
    case round =>
      clear i0
      obtain ⟨k, hk, hk7, rfl, hall, HU⟩ := hrel
      obtain ⟨x0, x1, x2, x3⟩ := HU.out.cells
      by_cases hlt : k < n
      · by_cases hk6 : k ≤ 6
        · obtain ⟨c1, c2⟩ := HR.out wr HU.out.1 k hlt
          have h4 := HZ.out k hlt
          have HN1 : Hid (20 < (s.getD k ln0).2.size → false = A) := HN.out k hlt
          have HX : Hid ((s.getD k ln0).2.size ≤ 20 → ∀ j, j < k + 1 → (s.getD j ln0).2.size ≤ 20) := fun h j hj => by
            by_cases ej : j = k
            · subst ej; exact h
            · exact hall.out j (by omega)
          obtain ⟨x, hx⟩ : ∃ x, x = (s.getD k ln0).2 := ⟨_, rfl⟩
          obtain ⟨z, hz'⟩ : ∃ z, z = (s.getD k ln0).1 := ⟨_, rfl⟩
          rw [← hx] at c2 h4 HN1 HX
          rw [← hz'] at c1
          clear hx hz' hall
          by_cases hq : 20 < x.size
          · have HF : Hid (false = A) := HN1.out hq
            clear HN1 HX
            go_wp2
            go_ret
            exact ⟨ret_b HF.out, HU.out.1⟩
          · have HF : Hid (∀ j, j < k + 1 → (s.getD j ln0).2.size ≤ 20) := HX.out (by omega)
            clear HN1 HX
            go_wp2
            exact ⟨⟨k + 1, by omega, by omega, by go_num, HF, HU⟩, by simp [intOf]; omega⟩
        · have HF : Hid (false = A) := HN2.out (by omega)
          clear hall
          go_wp2
          go_ret
          exact ⟨ret_b HF.out, HU.out.1⟩
      · obtain rfl : k = n := by omega
        by_cases h6 : 6 < k
        · have HF : Hid (false = A) := HN2.out h6
          clear hall
          go_wp2
          go_ret
          exact ⟨ret_b HF.out, HU.out.1⟩
        · have HF : Hid (decide ((e.size : Int) ≤ 8) = A) := by
            show _ = A
            by_cases h2 : 8 < e.size
            · rw [← HN3.out h2]; exact decide_eq_false (by omega)
            · rw [← HT.out (by omega) (by omega) hall.out]; exact decide_eq_true (by omega)
          clear hall
          go_wp2
          go_ret
          exact ⟨ret_b HF.out, HU.out.1⟩
end Go.Proofs.Ytikkohecanmefab.ls
