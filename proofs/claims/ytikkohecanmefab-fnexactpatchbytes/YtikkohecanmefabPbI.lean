/-
  The program's patchFits at every patch. No condition.
-/
import Derived.Test.YtikkohecanmefabPbP
import Derived.Test.YtikkohecanmefabJoinT
namespace Go.Proofs.Ytikkohecanmefab.ls
open Go.ChangeShapes Go.WideShapes Go.ChangeAt Go.RowKit
open Go.Proofs.Ytikkohecanmefab.wi (heap_lt calls_w wp_w)
open Classical
set_option linter.unusedVariables false

theorem ret_b {a b : Bool} (h : a = b) : Ending.returned (.bool a) = .returned (.bool b) := by rw [h]
/-- the world behind the reading of the patch into a block of the call's own -/
def InP (w : World) (v : Value) (row col : Int) (e : ByteArray) (u : World) : Prop := Below w.heap.size w u ∧ u.heap[w.heap.size]? = some (.cells #[v, .int .i64 row, .int .i64 col, .string e] 37 (0, 0))
theorem InP.new {w : World} {v : Value} {row col : Int} {e : ByteArray} : InP w v row col e (w.alloc (.cells #[v, .int .i64 row, .int .i64 col, .string e] 37)) := ⟨(Below.refl _ _).alloc (Nat.le_refl _) _, heap_alloc_new _ _⟩
theorem InP.up {w u u' : World} {v : Value} {row col : Int} {e : ByteArray} (h : InP w v row col e u) (hb : Below u.heap.size u u') : InP w v row col e u' := ⟨h.1.trans (hb.mono h.1.size), (hb.block _ (heap_lt h.2)).trans h.2⟩
theorem InP.cells {w u : World} {v : Value} {row col : Int} {e : ByteArray} (h : InP w v row col e u) : u.cell? ⟨w.heap.size, 0, none⟩ = some v ∧ u.cell? ⟨w.heap.size, 1, none⟩ = some (.int .i64 row) ∧ u.cell? ⟨w.heap.size, 2, none⟩ = some (.int .i64 col) ∧ u.cell? ⟨w.heap.size, 3, none⟩ = some (.string e) := ⟨by simp [World.cell?, h.2], by simp [World.cell?, h.2], by simp [World.cell?, h.2], by simp [World.cell?, h.2]⟩

set_option maxHeartbeats 8000000 in
theorem fitI_any (v : Value) (s : List Ln) (row col : Int) (e : ByteArray) (w : World) (hl : s.length ≤ maxLen) (hz : ∀ r ∈ s, r.2.size ≤ maxLen) (he : e.size ≤ maxLen) (hv : SliceIs w v s) :
    Calls Try.prog 47 #[.agg #[v, .int .i64 row, .int .i64 col, .string e]] w fun r w' => r = .returned (.bool (decide (FitsP s e))) ∧ Below w.heap.size w w' := by
  have HI0 : Hid (InP w v row col e (w.alloc (.cells #[v, .int .i64 row, .int .i64 col, .string e] 37))) := InP.new
  have HV : Hid (∀ u, Below w.heap.size w u → SliceIs u v s) := fun u hu => hv.up hu
  have HZ : Hid (∀ k, k < s.length → (s.getD k ln0).2.size ≤ 9223372036854775807) := fun k hk => by
    rw [List.getD_eq_getElem?_getD, List.getElem?_eq_getElem hk]; exact hz _ (List.getElem_mem hk)
  unfold maxLen at hl he
  obtain ⟨p, cap, rfl⟩ := hv.shape
  obtain ⟨A, hA⟩ : ∃ A, A = decide (FitsP s e) := ⟨_, rfl⟩
  rw [← hA]
  have HA : Hid (A = decide (FitsP s e)) := hA
  have HB0 : Hid (Below w.heap.size w (w.alloc (.cells #[.slice p s.length cap, .int .i64 row, .int .i64 col, .string e] 37))) := HI0.out.1
  clear hA hz
  by_cases h1 : 6 < s.length
  · have HF : Hid (false = A) := by show _ = _; rw [HA.out, decide_eq_false]; exact fun h => by have := h.1; omega
    clear hv HA HV
    go_enter Try.func47, Try.ntmps47
    go_wp2
    go_ret
    exact ⟨ret_b HF.out, HB0.out⟩
  · by_cases h2 : 8 < e.size
    · have HF : Hid (false = A) := by show _ = _; rw [HA.out, decide_eq_false]; exact fun h => by have := h.2.1; omega
      clear hv HA HV
      go_enter Try.func47, Try.ntmps47
      go_wp2
      go_ret
      exact ⟨ret_b HF.out, HB0.out⟩
    · have HT : Hid ((∀ j, j < s.length → (s.getD j ln0).2.size ≤ 20) → true = A) := fun h => by rw [HA.out]; exact (decide_eq_true ⟨by omega, by omega, h⟩).symm
      have HN : Hid (∀ j, j < s.length → 20 < (s.getD j ln0).2.size → false = A) := fun j hj hj' => by rw [HA.out]; exact (decide_eq_false fun h => by have := h.2.2 j hj; omega).symm
      clear HA
      rcases hv with ⟨p', cap', rfl, hp⟩ | ⟨b, off, cap', hb, hp, hR⟩
      · cases hp
        have HF : Hid (true = A) := HT.out fun j hj => by simp at hj
        clear HT HN HV HZ
        go_enter Try.func47, Try.ntmps47
        go_wp2
        refine wp_loop_rounds 1 ?_
        rw [rounds_succ]
        go_wp2
        go_ret
        exact ⟨ret_b HF.out, HB0.out⟩
      · cases hp
        obtain ⟨n, hn⟩ : ∃ n, n = s.length := ⟨_, rfl⟩
        have HR : Hid (∀ u, Below w.heap.size w u → ∀ k, k < n → u.cell? ⟨b, off + k * 2, none⟩ = some (.int .i64 (s.getD k ln0).1) ∧ u.cell? ⟨b, off + k * 2 + 1, none⟩ = some (.string (s.getD k ln0).2)) := fun u hu k hk => (hR.below hu hb) k (by omega)
        rw [← hn] at hl h1 HZ HT HN HB0 ⊢
        clear hn hR HV HI0
        go_enter Try.func47, Try.ntmps47
        go_wp2
        go_loopw [18] (fun i u => ∃ k : Nat, k ≤ n ∧ i = .int .i64 k ∧ Hid (∀ j, j < k → (s.getD j ln0).2.size ≤ 20) ∧ Hid (Below w.heap.size w u)) (fun i _ => n - (intOf i).toNat)
        case atStart => exact ⟨0, Nat.zero_le _, rfl, fun j hj => by omega, HB0⟩
        case round =>
          obtain ⟨k, hk, rfl, hall, HU⟩ := hrel
          by_cases hlt : k < n
          · obtain ⟨c1, c2⟩ := HR.out wr HU.out k hlt
            have h4 := HZ.out k hlt
            have HN1 : Hid (20 < (s.getD k ln0).2.size → false = A) := HN.out k hlt
            have HX : Hid ((s.getD k ln0).2.size ≤ 20 → ∀ j, j < k + 1 → (s.getD j ln0).2.size ≤ 20) := fun h j hj => by
              by_cases ej : j = k
              · subst ej; exact h
              · exact hall.out j (by omega)
            have HUA : Hid (∀ o, Below w.heap.size w (wr.alloc o)) := fun o => HU.out.alloc HU.out.size o
            obtain ⟨x, hx⟩ : ∃ x, x = (s.getD k ln0).2 := ⟨_, rfl⟩
            obtain ⟨z, hz'⟩ : ∃ z, z = (s.getD k ln0).1 := ⟨_, rfl⟩
            rw [← hx] at c2 h4 HN1 HX
            rw [← hz'] at c1
            clear hx hz' hall
            by_cases hq : 20 < x.size
            · have HF : Hid (false = A) := HN1.out hq
              clear HN1 HX
              go_wp2
              go_ret
              exact ⟨ret_b HF.out, HUA.out _⟩
            · have HF : Hid (∀ j, j < k + 1 → (s.getD j ln0).2.size ≤ 20) := HX.out (by omega)
              clear HN1 HX
              go_wp2
              exact ⟨⟨k + 1, by omega, by go_num, HF, HUA.out _⟩, by simp [intOf]; omega⟩
          · obtain rfl : k = n := by omega
            have HF : Hid (true = A) := HT.out hall.out
            clear hall
            go_wp2
            go_ret
            exact ⟨ret_b HF.out, HU.out⟩
end Go.Proofs.Ytikkohecanmefab.ls
