/-
  What is drawn for the law on the stream besides: four numbers from -1 to 2^32. No old block turns.
-/
import Derived.Test.YtjnfeohcimcgmaaDoorDrawStream
import Derived.Laws.Tables
import Derived.Laws.CopyOwn
namespace Go.Proofs.YtjnfeohcimcgmaaDoor.ds
open Go.ChangeShapes Go.WideShapes Go.ChangeAt Go.RowKit
open Go.Proofs.YtjnfeohcimcgmaaDoor.dr
set_option linter.unusedVariables false

/-- a number below most; nothing but the source turns -/
theorem nG_at {w0 u : World} {a : Option Addr} {len cap : Nat} (h : At w0 a len cap u) (most : Int) (m0 : -9223372036854775808 ≤ most) (m1 : most ≤ 9223372036854775807) :
    Calls Tryd.prog 47 #[.pointer (some ⟨w0.heap.size, 0, none⟩), .int .i64 most] u fun e w' => ∃ v : Int, e = .returned (.int .i64 v) ∧ 0 ≤ v ∧ (1 < most → v < most) ∧ (most ≤ 1 → v = 0) ∧ At w0 a len cap w' ∧ u.grownBy w' (some w0.heap.size) :=
  (n_any _ _ a len cap most u h.1 h.2.2 m0 m1).mono fun e w' ⟨v, he, v0, v1, v2, hS, hg⟩ => ⟨v, he, v0, v1, v2, h.next hS hg, hg⟩
theorem nG_num {w0 u : World} {a : Option Addr} {len cap : Nat} (h : At w0 a len cap u) :
    Calls Tryd.prog 47 #[.pointer (some ⟨w0.heap.size, 0, none⟩), .int .i64 4] (u.alloc (.cells #[.int .i64 (-1), .int .i64 0, .int .i64 4294967295, .int .i64 4294967296] 2)) fun e w' => ∃ (k : Nat) (z : Int), k < 4 ∧ e = .returned (.int .i64 (k : Int)) ∧ w'.cell? ⟨u.heap.size, k, none⟩ = some (.int .i64 z) ∧ -1 ≤ z ∧ z ≤ 4294967296 ∧ At w0 a len cap w' ∧ u.grownBy w' (some w0.heap.size) := by
  have hA := At.alloc h (.cells #[.int .i64 (-1), .int .i64 0, .int .i64 4294967295, .int .i64 4294967296] 2)
  refine (n_any _ _ a len cap 4 _ hA.1 hA.2.2 (by omega) (by omega)).mono ?_
  rintro e w' ⟨v, rfl, v0, v1, v2, hS, hg⟩
  have hv := v1 (by decide)
  obtain ⟨k, rfl⟩ : ∃ k : Nat, v = (k : Int) := ⟨v.toNat, by omega⟩
  obtain ⟨z, hz, z0, z1⟩ := num_cell u k (by omega)
  have hlt : w0.heap.size < u.heap.size := h.1.lt
  exact ⟨k, z, by omega, rfl, hg.cell hz (by simp; omega), z0, z1, hA.next hS hg, gtrans (World.grownBy_alloc _ _ _) hg⟩

set_option maxHeartbeats 2000000 in
theorem numG_at {w0 u : World} {a : Option Addr} {len cap : Nat} (h : At w0 a len cap u) :
    Calls Tryd.prog 57 #[.pointer (some ⟨w0.heap.size, 0, none⟩)] u fun e w' => ∃ v : Int, e = .returned (.int .i64 v) ∧ -1 ≤ v ∧ v ≤ 4294967296 ∧ At w0 a len cap w' ∧ u.grownBy w' (some w0.heap.size) := by
  go_enter Tryd.func57, Tryd.ntmps57
  go_wp2_with fail
  refine (nG_at h _ (by omega) (by omega)).mono ?_
  rintro e w1 ⟨v, rfl, v0, v1, v2, hA1, hg1⟩
  have hv := v1 (by decide)
  have HG1 : Hid (u.grownBy w1 (some w0.heap.size)) := hg1
  clear h hg1
  by_cases hv0 : v = 0
  · subst hv0
    go_wp2_with fail
    refine (nG_num hA1).mono ?_
    rintro e w2 ⟨k, z, hk, rfl, hz, z0, z1, hA2, hg2⟩
    have HG2 : Hid (u.grownBy w2 (some w0.heap.size)) := gtrans HG1.out hg2
    clear hg2
    go_wp2_with fail
    go_ret
    exact ⟨z, rfl, z0, z1, hA2, HG2.out⟩
  · by_cases hv1 : v = 1
    · subst hv1
      go_wp2_with fail
      refine (nG_at hA1 _ (by omega) (by omega)).mono ?_
      rintro e w2 ⟨x, rfl, x0, x1, x2, hA2, hg2⟩
      have hx := x1 (by decide)
      have HG2 : Hid (u.grownBy w2 (some w0.heap.size)) := gtrans HG1.out hg2
      clear hg2
      go_wp2_with fail
      go_ret
      exact ⟨_, rfl, by omega, by omega, hA2, HG2.out⟩
    · have e0 : (v == 0) = false := by simpa using hv0
      have e1 : (v == 1) = false := by simpa using hv1
      go_wp2_with fail
      refine (nG_at hA1 _ (by omega) (by omega)).mono ?_
      rintro e w2 ⟨x, rfl, x0, x1, x2, hA2, hg2⟩
      have hx := x1 (by decide)
      have HG2 : Hid (u.grownBy w2 (some w0.heap.size)) := gtrans HG1.out hg2
      clear hg2
      go_wp2_with fail
      go_ret
      exact ⟨_, rfl, by omega, by omega, hA2, HG2.out⟩

theorem Codes.mono {w : World} {B B' : Nat} {a : Option Addr} {len : Nat} (h : Codes w B a len) (hb : B ≤ B') : Codes w B' a len := by
  obtain ⟨hl, h0 | ⟨b, off, e, hB, hc⟩⟩ := h
  · exact ⟨hl, Or.inl h0⟩
  · exact ⟨hl, Or.inr ⟨b, off, e, Nat.lt_of_lt_of_le hB hb, hc⟩⟩
theorem At.set {w0 u : World} {a : Option Addr} {len cap : Nat} (h : At w0 a len cap u) (q i : Nat) (hq : w0.heap.size < q) (v : Value) : At w0 a len cap (u.setCell ⟨q, i, none⟩ v) := by
  have hb : Below w0.heap.size u (u.setCell ⟨q, i, none⟩ v) := (Below.refl _ _).setCell (p := ⟨q, i, none⟩) (by show w0.heap.size ≤ q; omega) _
  exact ⟨h.1.kept (heap_setCell_other _ _ _ _ (by show w0.heap.size ≠ q; omega)), h.2.1.trans hb, h.2.2.below hb⟩
theorem info47 : (Tryd.prog.info? 47).map (·.size) = some 4 := by kernel_rfl
theorem gkeep {u w' : World} {p q : Nat} {o : Obj} (h : u.grownBy w' (some p)) (hq : u.heap[q]? = some o) (hne : q ≠ p) : w'.heap[q]? = some o := by
  have hl : q < u.heap.size := by
    rcases Nat.lt_or_ge q u.heap.size with h' | h'
    · exact h'
    · rw [Array.getElem?_eq_none h'] at hq; cases hq
  exact (h.block q hl (fun e => hne (Option.some.inj e))).trans hq
theorem set2 {w : World} {p : Nat} {c0 c1 c2 c3 : Value} {t : TypeId} (h : w.heap[p]? = some (.cells #[c0, c1, c2, c3] t (0, 0))) (v : Value) :
    (w.setCell ⟨p, 2, none⟩ v).heap[p]? = some (.cells #[c0, c1, v, c3] t (0, 0)) := by simp [World.setCell, Array.getElem?_modify, h]
theorem set3 {w : World} {p : Nat} {c0 c1 c2 c3 : Value} {t : TypeId} (h : w.heap[p]? = some (.cells #[c0, c1, c2, c3] t (0, 0))) (v : Value) :
    (w.setCell ⟨p, 3, none⟩ v).heap[p]? = some (.cells #[c0, c1, c2, v] t (0, 0)) := by simp [World.setCell, Array.getElem?_modify, h]

set_option maxHeartbeats 4000000 in
theorem drawQuarter_any (a : Option Addr) (len cap : Nat) (w : World) (hC : Codes w w.heap.size a len) :
    Calls Tryd.prog 27 #[.slice a len cap] w fun e w' => ∃ x y z v : Int, e = .returned (.agg #[.int .i64 x, .int .i64 y, .int .i64 z, .int .i64 v]) ∧ Below w.heap.size w w' := by
  obtain ⟨W0, hW0⟩ : ∃ W, W = w.alloc (.cells #[.int .i64 0, .int .i64 0, .int .i64 0, .int .i64 0] 47) := ⟨_, rfl⟩
  have hs : W0.heap.size = w.heap.size + 1 := by rw [hW0]; simp
  have hB0 : Below w.heap.size w W0 := by rw [hW0]; exact (Below.refl _ _).alloc (Nat.le_refl _) _
  have HR0 : Hid (W0.heap[w.heap.size]? = some (.cells #[.int .i64 0, .int .i64 0, .int .i64 0, .int .i64 0] 47 (0, 0))) := by show _ = _; rw [hW0]; exact heap_alloc_new _ _
  have HC : Hid (Codes W0 W0.heap.size a len) := Codes.mono (hC.below hB0) (by omega)
  have HB0 : Hid (Below w.heap.size w W0) := hB0
  have HS : Hid (W0.heap.size = w.heap.size + 1) := hs
  clear hC hB0 hs
  go_enter Tryd.func27, Tryd.ntmps27
  go_wp2_with fail
  rw [← hW0]
  clear hW0
  refine (source_at a len cap _ HC.out).mono ?_
  rintro e w1 ⟨rfl, hA1⟩
  clear HC
  go_wp2_with fail
  refine (num_at hA1).mono ?_
  rintro e w2 ⟨x, rfl, x0, x1, hA2⟩
  clear hA1
  go_wp2_with fail
  refine (num_at hA2).mono ?_
  rintro e w3 ⟨y, rfl, y0, y1, hA3⟩
  clear hA2
  go_wp2_with fail
  obtain ⟨q, hq⟩ : ∃ q, q = w3.heap.size := ⟨_, rfl⟩
  have hlq : W0.heap.size < q := by rw [hq]; exact hA3.1.lt
  have hA4 := At.alloc hA3 (.cells #[.int .i64 x, .int .i64 y, .int .i64 0, .int .i64 0] 47)
  have h4 : (w3.alloc (.cells #[.int .i64 x, .int .i64 y, .int .i64 0, .int .i64 0] 47)).heap[q]? = some (.cells #[.int .i64 x, .int .i64 y, .int .i64 0, .int .i64 0] 47 (0, 0)) := by rw [hq]; exact heap_alloc_new _ _
  refine (numG_at hA4).mono ?_
  rw [← hq]
  rintro e w5 ⟨z, rfl, z0, z1, hA5, hg5⟩
  have h5 := gkeep hg5 h4 (by omega)
  clear hA4 h4 hg5 hA3 hq
  obtain ⟨c0, c1, c2, c3, cf⟩ := cells4 h5
  have f2 := cf 2
  have H6 : Hid _ := set2 h5 (.int .i64 z)
  have HA6 : Hid _ := At.set hA5 q 2 hlq (.int .i64 z)
  clear h5 hA5 cf
  go_wp2_with fail
  refine (numG_at HA6.out).mono ?_
  rintro e w7 ⟨v, rfl, v0, v1, hA7, hg7⟩
  have h7 := gkeep hg7 H6.out (by omega)
  clear H6 HA6 hg7 c0 c1 c2 c3 f2
  obtain ⟨c0, c1, c2, c3, cf⟩ := cells4 h7
  have f3 := cf 3
  have H8 : Hid _ := set3 h7 (.int .i64 v)
  have HA8 : Hid _ := At.set hA7 q 3 hlq (.int .i64 v)
  have HR8 : Hid (_ = some (Obj.cells #[.int .i64 0, .int .i64 0, .int .i64 0, .int .i64 0] 47 (0, 0))) := (HA8.out.2.1.block w.heap.size (by have := HS.out; omega)).trans HR0.out
  have HB8 : Hid _ := HB0.out.trans (HA8.out.2.1.mono (by have := HS.out; omega))
  clear h7 hA7 cf HA8
  go_wp2_with (first | (refine wpList_load_row rfl 47 _ rfl q rfl _ _ _ _ H8.out Tryd.underlying47 rfl info47 ?_) | (refine wpList_store_row rfl 47 _ _ rfl w.heap.size _ rfl rfl _ _ HR8.out info47 (by rfl) (by simp [Value.oneCell']) ?_))
  refine bodyPost_ret (results_cell_row Tryd.results27 _ _ w.heap.size _ #[.int .i64 x, .int .i64 y, .int .i64 z, .int .i64 v] _ _ rfl (setRow_heap _ _ _ #[.int .i64 x, .int .i64 y, .int .i64 z, .int .i64 v] _ _ HR8.out) Tryd.underlying47 rfl info47) rfl ⟨x, y, z, v, rfl, below_setRow HB8.out (Nat.le_refl _) _⟩
end Go.Proofs.YtjnfeohcimcgmaaDoor.ds
