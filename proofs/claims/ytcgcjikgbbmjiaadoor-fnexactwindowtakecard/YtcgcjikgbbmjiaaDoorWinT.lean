/-
  The law's own helpers on windows: a slice or a window copied, measured, held against another: what they tell; no old block turns. No condition.
-/
import Derived.Test.YtcgcjikgbbmjiaaDoorWinT0
namespace Go.Proofs.YtcgcjikgbbmjiaaDoor.wi
open Go.ChangeShapes Go.WideShapes Go.ChangeAt Go.RowKit
set_option linter.unusedVariables false

set_option maxHeartbeats 8000000 in
theorem toInts_any (v : Value) (s : List Int) (w : World) (hs : s.length ≤ 1048576) (hv : SliceIs w v s) :
    Calls Tryd.prog 33 #[v] w fun r w' => r = .returned (.slice (some ⟨w.heap.size, 0, none⟩) s.length s.length) ∧ Below w.heap.size w w' ∧ Blk w' w.heap.size s := by
  obtain ⟨i0, hi, hz0, hz1, hz2⟩ := info_parts info64
  have hmk : (Instr.makeSlice 29 (.int .i64 (s.length : Int)) (.int .i64 (s.length : Int))).run Tryd.prog w = .ok (.slice (some ⟨w.heap.size, 0, none⟩) s.length s.length) (w.alloc (.cells (cells (upTo s 0)) 2)) := by
    have h := run_make (P := Tryd.prog) w 29 2 i0 (.int .i64 0) Tryd.underlying29 hi hz0 .i64 .i64 (s.length : Int) (s.length : Int) (by omega) (Int.le_refl _) (by rw [hz2]; omega) (by omega)
    rw [upTo_zero, ← madeRow]
    simpa [hz1, Value.cells] using h
  have HR0 : Hid (Blk (w.alloc (.cells (cells (upTo s 0)) 2)) w.heap.size (upTo s 0)) := heap_alloc_new _ _
  have HB0 : Hid (Below w.heap.size w (w.alloc (.cells (cells (upTo s 0)) 2))) := (Below.refl _ _).alloc (Nat.le_refl _) _
  generalize hW : w.alloc (.cells (cells (upTo s 0)) 2) = W at *
  clear hW
  rcases hv with ⟨p, cap, rfl, rfl⟩ | ⟨b, off, cap, hb, rfl, hR⟩
  · have hmk' : (Instr.makeSlice 29 (.int .i64 0) (.int .i64 0)).run Tryd.prog w = .ok (.slice (some ⟨w.heap.size, 0, none⟩) 0 0) W := hmk
    clear hmk
    go_enter Tryd.func33, Tryd.ntmps33
    go_wp2
    refine wp_loop_rounds 1 ?_
    rw [rounds_succ]
    go_wp2
    go_ret
    exact ⟨rfl, HB0.out, HR0.out⟩
  · have HR : Hid (∀ u, Below w.heap.size w u → Row u b off s) := fun u hu => hR.below hu hb
    clear hR
    go_enter Tryd.func33, Tryd.ntmps33
    go_wp2
    clear hmk
    go_loopw [4] (fun i u => ∃ k : Nat, k ≤ s.length ∧ i = .int .i64 k ∧ Hid (Below w.heap.size w u) ∧ Hid (Blk u w.heap.size (upTo s k))) (fun i _ => s.length - (intOf i).toNat)
    case atStart => exact ⟨0, Nat.zero_le _, rfl, HB0, HR0⟩
    case round =>
      clear HB0 HR0
      obtain ⟨k, hk, rfl, HB, HK⟩ := hrel
      by_cases hlt : k < s.length
      · have hcell := HR.out wr HB.out k hlt
        have hf := HK.out.frozen k
        have hc := HK.out.cell k (by rw [upTo_length s k hk]; exact hlt)
        obtain ⟨y, hy⟩ : ∃ y, y = (upTo s k).getD k 0 := ⟨_, rfl⟩
        rw [← hy] at hc
        have HK' : Hid (∀ x, x = s.getD k 0 → Blk (wr.setCell ⟨w.heap.size, k, none⟩ (.int .i64 x)) w.heap.size (upTo s (k + 1))) := fun x hx => by
          rw [← upTo_set s k hlt, ← hx]; exact HK.out.set k x
        have HBX : Hid (∀ x, Below w.heap.size w (wr.setCell ⟨w.heap.size, k, none⟩ x)) := fun x => HB.out.setCell (Nat.le_refl _) x
        obtain ⟨x, hx⟩ : ∃ x, x = s.getD k 0 := ⟨_, rfl⟩
        rw [← hx] at hcell HK'
        clear hx hy HK HB HR
        go_wp2
        exact ⟨⟨k + 1, by omega, by go_num, HBX.out _, HK'.out _ rfl⟩, by simp [intOf]; omega⟩
      · obtain rfl : k = s.length := by omega
        rw [upTo_end] at HK
        go_wp2
        go_ret
        exact ⟨rfl, HB.out, HK.out⟩

/-- the block of a window -/
theorem infoLW : (Tryd.prog.info? 31).map (·.size) = some 3 := by kernel_rfl
theorem loadLW {u : World} {q : Nat} {e t : Int} {z : Value} (h : u.heap[q]? = some (.cells #[.int .i64 e, .int .i64 t, z] 31 (0, 0))) : (loadVar 31 ⟨q, 0, none⟩).run Tryd.prog u = .ok (.agg #[.int .i64 e, .int .i64 t, z]) u :=
  run_loadVar_row u q _ _ _ _ _ h Tryd.underlying31 rfl infoLW

set_option maxHeartbeats 8000000 in
theorem szWin_any (e t : Int) (v : Value) (s : List Int) (w : World) (hs : s.length ≤ maxLen) (hv : SliceIs w v s) :
    Calls Tryd.prog 8 #[.agg #[.int .i64 e, .int .i64 t, v], .int .i64 1048576] w fun r w' => r = .returned (.int .i64 (if 1048576 < s.length then -1 else 1048576 - (s.length : Int))) ∧ Below w.heap.size w w' := by
  have HB : Hid (∀ o, Below w.heap.size w (w.alloc o)) := fun o => (Below.refl _ _).alloc (Nat.le_refl _) o
  unfold maxLen at hs
  obtain ⟨p, cap, rfl⟩ : ∃ p cap, v = .slice p s.length cap := by
    rcases hv with ⟨p, cap, rfl, rfl⟩ | ⟨b, off, cap, hb, rfl, hR⟩
    · exact ⟨_, _, rfl⟩
    · exact ⟨_, _, rfl⟩
  clear hv
  by_cases h : 1048576 < s.length
  · have d : decide (1048576 - (s.length : Int) < 0) = true := decide_eq_true (by omega)
    rw [if_pos h]
    go_enter Tryd.func8, Tryd.ntmps8
    go_wp2
    go_ret
    exact ⟨rfl, HB.out _⟩
  · have d : decide (1048576 - (s.length : Int) < 0) = false := decide_eq_false (by omega)
    rw [if_neg h]
    go_enter Tryd.func8, Tryd.ntmps8
    go_wp2
    go_ret
    exact ⟨rfl, HB.out _⟩

/-- what is known while a window is copied -/
def InTo (w : World) (e t : Int) (z : Value) (u : World) : Prop := Below w.heap.size w u ∧ u.heap[w.heap.size + 1]? = some (.cells #[.int .i64 0, .int .i64 0, .slice none 0 0] 33 (0, 0)) ∧ u.heap[w.heap.size + 1 + 1]? = some (.cells #[.int .i64 e, .int .i64 t, z] 33 (0, 0))
theorem InTo.up {w u u' : World} {e t : Int} {z : Value} (h : InTo w e t z u) (hb : Below u.heap.size u u') : InTo w e t z u' := ⟨h.1.trans (hb.mono h.1.size), (hb.block _ (heap_lt h.2.1)).trans h.2.1, (hb.block _ (heap_lt h.2.2)).trans h.2.2⟩
theorem InTo.set {w u : World} {e t : Int} {z z' : Value} (h : InTo w e t z u) : InTo w e t z' (u.setCell ⟨w.heap.size + 1 + 1, 2, none⟩ z') := by
  refine ⟨h.1.setCell (by simp; omega) _, ?_, ?_⟩
  · rw [heap_setCell_other _ _ _ _ (by simp)]; exact h.2.1
  · rw [heap_setCell_same u _ _ _ _ _ h.2.2]; rfl
theorem InTo.cell {w u : World} {e t : Int} {z : Value} (h : InTo w e t z u) : u.cell? ⟨w.heap.size + 1 + 1, 2, none⟩ = some z ∧ u.frozen? ⟨w.heap.size + 1 + 1, 2, none⟩ = false := by
  refine ⟨by simp [World.cell?, h.2.2], frozen_of_row _ _ _ _ _ h.2.2⟩

set_option maxHeartbeats 8000000 in
theorem toWin_any (e t : Int) (v : Value) (s : List Int) (w : World) (hs : s.length ≤ 1048576) (hv : SliceIs w v s) :
    Calls Tryd.prog 10 #[.agg #[.int .i64 e, .int .i64 t, v]] w fun r w' => ∃ g, r = .returned (.agg #[.int .i64 e, .int .i64 t, .slice (some ⟨g, 0, none⟩) s.length s.length]) ∧ Below w.heap.size w w' ∧ Blk w' g s ∧ w.heap.size ≤ g := by
  have HI0 : Hid (InTo w e t (.slice none 0 0) (((w.alloc (.cells #[.int .i64 e, .int .i64 t, v] 31)).alloc (.cells #[.int .i64 0, .int .i64 0, .slice none 0 0] 33)).alloc (.cells #[.int .i64 e, .int .i64 t, .slice none 0 0] 33))) := by
    refine ⟨(((Below.refl _ _).alloc (Nat.le_refl _) _).alloc (by simp) _).alloc (by simp; omega) _, ?_, ?_⟩
    · exact (Below.heap_alloc _ _ _ (by simp)).trans (by simpa using heap_alloc_new (w.alloc (.cells #[.int .i64 e, .int .i64 t, v] 31)) (.cells #[.int .i64 0, .int .i64 0, .slice none 0 0] 33))
    · simpa using heap_alloc_new ((w.alloc (.cells #[.int .i64 e, .int .i64 t, v] 31)).alloc (.cells #[.int .i64 0, .int .i64 0, .slice none 0 0] 33)) (.cells #[.int .i64 e, .int .i64 t, .slice none 0 0] 33)
  go_enter Tryd.func10, Tryd.ntmps10
  go_wp2_with (go_at_call 33; fail)
  refine calls_w (InTo w e t (.slice none 0 0)) HI0.out ?_
  clear HI0
  intro u hI
  refine (toInts_any v s u hs (hv.up hI.1)).mono ?_
  rintro r w1 ⟨rfl, hb1, hk1⟩
  have hI1 := hI.up hb1
  have hg : w.heap.size + 1 + 1 < u.heap.size := heap_lt hI.2.2
  obtain ⟨g, hge⟩ : ∃ g, g = u.heap.size := ⟨_, rfl⟩
  rw [← hge] at hk1 hg ⊢
  clear hI hb1 hge
  obtain ⟨c2, f2⟩ := hI1.cell
  have hI2 := hI1.set (z' := .slice (some ⟨g, 0, none⟩) s.length s.length)
  have HK : Hid (Blk (w1.setCell ⟨w.heap.size + 1 + 1, 2, none⟩ (.slice (some ⟨g, 0, none⟩) s.length s.length)) g s) := by
    show _ = _
    rw [heap_setCell_other _ _ _ _ (by simp; omega)]; exact hk1
  have hrow := hI2.2.2
  have hres := hI2.2.1
  have HB : Hid (Below w.heap.size w (w1.setCell ⟨w.heap.size + 1 + 1, 2, none⟩ (.slice (some ⟨g, 0, none⟩) s.length s.length))) := hI2.1
  clear hI1 hI2 hk1 hv
  generalize hW : w1.setCell ⟨w.heap.size + 1 + 1, 2, none⟩ (.slice (some ⟨g, 0, none⟩) s.length s.length) = W at *
  go_wp2_with (first | (refine wpList_load_row rfl 33 _ rfl (w.heap.size + 1 + 1) rfl _ _ _ _ hrow Tryd.underlying33 rfl infoW ?_) | (refine wpList_store_row rfl 33 _ _ rfl (w.heap.size + 1) _ rfl rfl _ _ hres infoW (by rfl) (by simp [Value.oneCell']) ?_))
  refine bodyPost_ret (results_cell_row Tryd.results10 _ _ (w.heap.size + 1) _ #[.int .i64 e, .int .i64 t, .slice (some ⟨g, 0, none⟩) s.length s.length] _ _ rfl (setRow_heap _ _ _ #[.int .i64 e, .int .i64 t, .slice (some ⟨g, 0, none⟩) s.length s.length] _ _ hres) Tryd.underlying33 rfl infoW) rfl ⟨g, rfl, below_setRow HB.out (by omega) _, ?_, by omega⟩
  show _ = _
  rw [setRow_other _ _ _ _ (by omega)]
  exact HK.out

set_option maxHeartbeats 8000000 in
theorem eqInts_any (va vb : Value) (s : List Int) (w : World) (hs : s.length ≤ maxLen) (ha : SliceIs w va s) (hb : SliceIs w vb s) :
    Calls Tryd.prog 35 #[va, vb] w fun r w' => r = .returned (.bool true) ∧ Below w.heap.size w w' := by
  have HB : Hid (Below w.heap.size w w) := Below.refl _ _
  unfold maxLen at hs
  by_cases h0 : s = []
  · subst h0
    obtain ⟨pa, ca, rfl⟩ : ∃ p cap, va = .slice p 0 cap := by
      rcases ha with ⟨p, cap, _, rfl⟩ | ⟨b, off, cap, hb, rfl, hR⟩
      · exact ⟨_, _, rfl⟩
      · exact ⟨_, _, rfl⟩
    obtain ⟨pb, cb, rfl⟩ : ∃ p cap, vb = .slice p 0 cap := by
      rcases hb with ⟨p, cap, _, rfl⟩ | ⟨b, off, cap, hb, rfl, hR⟩
      · exact ⟨_, _, rfl⟩
      · exact ⟨_, _, rfl⟩
    clear ha hb
    go_enter Tryd.func35, Tryd.ntmps35
    go_wp2
    refine wp_loop_rounds 1 ?_
    rw [rounds_succ]
    go_wp2
    go_ret
    exact ⟨rfl, HB.out⟩
  · obtain ⟨ba, oa, ca, rfl, hRa⟩ : ∃ b off cap, va = .slice (some ⟨b, off, none⟩) s.length cap ∧ Row w b off s := by
      rcases ha with ⟨p, cap, h, _⟩ | ⟨b, off, cap, hb, rfl, hR⟩
      · exact absurd h h0
      · exact ⟨_, _, _, rfl, hR⟩
    obtain ⟨bb, ob, cb, rfl, hRb⟩ : ∃ b off cap, vb = .slice (some ⟨b, off, none⟩) s.length cap ∧ Row w b off s := by
      rcases hb with ⟨p, cap, h, _⟩ | ⟨b, off, cap, hb, rfl, hR⟩
      · exact absurd h h0
      · exact ⟨_, _, _, rfl, hR⟩
    have HRa : Hid (Row w ba oa s) := hRa
    have HRb : Hid (Row w bb ob s) := hRb
    clear ha hb h0 hRa hRb
    go_enter Tryd.func35, Tryd.ntmps35
    go_wp2
    go_loopw [5] (fun i u => ∃ k : Nat, k ≤ s.length ∧ i = .int .i64 k ∧ ∃ n, u = w.drewN n) (fun i _ => s.length - (intOf i).toNat)
    case atStart => exact ⟨0, Nat.zero_le _, rfl, 0, rfl⟩
    case round =>
      obtain ⟨k, hk, rfl, n, rfl⟩ := hrel
      have HN : Hid (Below w.heap.size w (w.drewN n)) := below_drewN HB.out n
      by_cases hlt : k < s.length
      · have c1 := HRa.out k hlt
        have c2 := HRb.out k hlt
        obtain ⟨x, hx⟩ : ∃ x, x = s.getD k 0 := ⟨_, rfl⟩
        rw [← hx] at c1 c2
        clear hx
        go_wp2
        refine wp_w (fun u => (∃ n, u = w.drewN n) ∧ u.cell? ⟨ba, oa + k, none⟩ = some (.int .i64 x) ∧ u.cell? ⟨bb, ob + k, none⟩ = some (.int .i64 x)) ⟨⟨n, rfl⟩, c1, c2⟩ ?_
        clear c1 c2 HN
        rintro u ⟨hu, c1, c2⟩
        have HU : Hid (∃ n, u = w.drewN n) := hu
        clear hu
        go_quiet (fail)
        go_wp2
        refine ⟨⟨k + 1, by omega, by go_num, ?_⟩, by simp [intOf]; omega⟩
        obtain ⟨m, rfl⟩ := HU.out
        exact ⟨_, World.drewN_drewN _ _ _⟩
      · obtain rfl : k = s.length := by omega
        go_wp2
        go_ret
        exact ⟨rfl, HN.out⟩

set_option maxHeartbeats 8000000 in
theorem eqWin_any (e t : Int) (va vb : Value) (s : List Int) (w : World) (hs : s.length ≤ maxLen) (ha : SliceIs w va s) (hb : SliceIs w vb s) :
    Calls Tryd.prog 13 #[.agg #[.int .i64 e, .int .i64 t, va], .agg #[.int .i64 e, .int .i64 t, vb]] w fun r w' => r = .returned (.bool true) ∧ Below w.heap.size w w' := by
  have HB : Hid (Below w.heap.size w ((w.alloc (.cells #[.int .i64 e, .int .i64 t, va] 33)).alloc (.cells #[.int .i64 e, .int .i64 t, vb] 33))) := ((Below.refl _ _).alloc (Nat.le_refl _) _).alloc (by simp) _
  go_enter Tryd.func13, Tryd.ntmps13
  go_wp2_with (go_at_call 35; fail)
  refine calls_w (fun u => Below w.heap.size w u) HB.out ?_
  clear HB
  intro u hu
  refine (eqInts_any va vb s u hs (ha.up hu) (hb.up hu)).mono ?_
  rintro r w1 ⟨rfl, hb1⟩
  have HB : Hid (Below w.heap.size w w1) := hu.trans (hb1.mono hu.size)
  clear hu hb1 ha hb
  go_wp2
  go_ret
  exact ⟨rfl, HB.out⟩
end Go.Proofs.YtcgcjikgbbmjiaaDoor.wi
