/-
  What makes a state another one: the model's l07Delta and DeltaOf. No condition.
-/
import Derived.Test.YtmbeanimjmfddaaStA
import Derived.Test.YtmbeanimjmfddaaRegW
import Derived.Deep.RegionWith
namespace Go.Proofs.Ytmbeanimjmfddaa.st
open Go.ChangeShapes Go.WideShapes Go.ChangeAt Go.RowKit
open Go.Proofs.Ytmbeanimjmfddaa.wi (heap_lt calls_w wp_w)
open Classical
set_option linter.unusedVariables false

theorem heap_alloc2 (w : World) (o p : Obj) : ((w.alloc o).alloc p).heap[w.heap.size + 1]? = some p := by
  have := heap_alloc_new (w.alloc o) p
  rwa [World.size_alloc] at this
theorem infoU : (Try.prog.info? 28).map (·.size) = some 4 := by kernel_rfl
/-- the two states' blocks and the answer's -/
structure In2 (w : World) (m : Int) (a : ByteArray) (n : Int) (b : ByteArray) (u : World) : Prop where
  bel : Below w.heap.size w u
  fst : u.heap[w.heap.size]? = some (.cells #[.int .i64 m, .string a] 24 (0, 0))
  snd : u.heap[w.heap.size + 1]? = some (.cells #[.int .i64 n, .string b] 24 (0, 0))
  res : u.heap[w.heap.size + 1 + 1]? = some (.cells #[.int .i64 0, .int .i64 0, .int .i64 0, .string ⟨#[]⟩] 28 (0, 0))
theorem In2.new {w : World} {m : Int} {a : ByteArray} {n : Int} {b : ByteArray} : In2 w m a n b (((w.alloc (.cells #[.int .i64 m, .string a] 24)).alloc (.cells #[.int .i64 n, .string b] 24)).alloc (.cells #[.int .i64 0, .int .i64 0, .int .i64 0, .string ⟨#[]⟩] 28)) := by
  refine ⟨(((Below.refl _ _).alloc (Nat.le_refl _) _).alloc (by simp) _).alloc (by simp; omega) _, ?_, ?_, ?_⟩
  · exact (Below.heap_alloc _ _ _ (by simp; omega)).trans ((Below.heap_alloc _ _ _ (by simp)).trans (heap_alloc_new _ _))
  · exact (Below.heap_alloc _ _ _ (by simp)).trans (heap_alloc2 _ _ _)
  · have := heap_alloc_new ((w.alloc (.cells #[.int .i64 m, .string a] 24)).alloc (.cells #[.int .i64 n, .string b] 24)) (.cells #[.int .i64 0, .int .i64 0, .int .i64 0, .string ⟨#[]⟩] 28)
    simpa using this
theorem In2.up {w u u' : World} {m : Int} {a : ByteArray} {n : Int} {b : ByteArray} (h : In2 w m a n b u) (hb : Below u.heap.size u u') : In2 w m a n b u' :=
  ⟨h.bel.trans (hb.mono h.bel.size), (hb.block _ (heap_lt h.fst)).trans h.fst, (hb.block _ (heap_lt h.snd)).trans h.snd, (hb.block _ (heap_lt h.res)).trans h.res⟩
theorem In2.drewN {w u : World} {m : Int} {a : ByteArray} {n : Int} {b : ByteArray} (h : In2 w m a n b u) (k : Nat) : In2 w m a n b (u.drewN k) := ⟨ss.below_drewN h.bel k, h.fst, h.snd, h.res⟩
theorem In2.drew {w u : World} {m : Int} {a : ByteArray} {n : Int} {b : ByteArray} (h : In2 w m a n b u) : In2 w m a n b u.drew := h.drewN 1
theorem In2.cells {w u : World} {m : Int} {a : ByteArray} {n : Int} {b : ByteArray} (h : In2 w m a n b u) : u.cell? ⟨w.heap.size, 0, none⟩ = some (.int .i64 m) ∧ u.cell? ⟨w.heap.size, 1, none⟩ = some (.string a) ∧ u.cell? ⟨w.heap.size + 1, 0, none⟩ = some (.int .i64 n) ∧ u.cell? ⟨w.heap.size + 1, 1, none⟩ = some (.string b) := by
  refine ⟨?_, ?_, ?_, ?_⟩ <;> simp [World.cell?, h.fst, h.snd]
theorem In2.rcells {w u : World} {m : Int} {a : ByteArray} {n : Int} {b : ByteArray} (h : In2 w m a n b u) : u.cell? ⟨w.heap.size + 1 + 1, 0, none⟩ = some (.int .i64 0) ∧ u.cell? ⟨w.heap.size + 1 + 1, 1, none⟩ = some (.int .i64 0) ∧ u.cell? ⟨w.heap.size + 1 + 1, 2, none⟩ = some (.int .i64 0) ∧ u.cell? ⟨w.heap.size + 1 + 1, 3, none⟩ = some (.string ⟨#[]⟩) ∧ ∀ k, u.frozen? ⟨w.heap.size + 1 + 1, k, none⟩ = false := by
  refine ⟨?_, ?_, ?_, ?_, fun k => frozen_of_row _ _ _ _ _ h.res⟩ <;> simp [World.cell?, h.res]
/-- the answer's block filled -/
def fill (u : World) (q : Nat) (x0 x1 x2 x3 : Value) : World := (((u.setCell ⟨q, 0, none⟩ x0).setCell ⟨q, 1, none⟩ x1).setCell ⟨q, 2, none⟩ x2).setCell ⟨q, 3, none⟩ x3
theorem In2.done {w u : World} {m : Int} {a : ByteArray} {n : Int} {b : ByteArray} (h : In2 w m a n b u) (x0 x1 x2 x3 : Value) :
    (fill u (w.heap.size + 1 + 1) x0 x1 x2 x3).drew.heap[w.heap.size + 1 + 1]? = some (.cells #[x0, x1, x2, x3] 28 (0, 0)) ∧ Below w.heap.size w (fill u (w.heap.size + 1 + 1) x0 x1 x2 x3).drew := by
  suffices hh : (fill u (w.heap.size + 1 + 1) x0 x1 x2 x3).heap[w.heap.size + 1 + 1]? = some (.cells #[x0, x1, x2, x3] 28 (0, 0)) ∧ Below w.heap.size w (fill u (w.heap.size + 1 + 1) x0 x1 x2 x3) from ⟨hh.1, hh.2.drew⟩
  constructor
  · have a0 := heap_setCell_same u (w.heap.size + 1 + 1) 0 _ _ x0 h.res
    have a1 := heap_setCell_same _ (w.heap.size + 1 + 1) 1 _ _ x1 a0
    have a2 := heap_setCell_same _ (w.heap.size + 1 + 1) 2 _ _ x2 a1
    have a3 := heap_setCell_same _ (w.heap.size + 1 + 1) 3 _ _ x3 a2
    exact a3
  · have b0 := h.bel.setCell (p := ⟨w.heap.size + 1 + 1, 0, none⟩) (by simp; omega) x0
    have b1 := b0.setCell (p := ⟨w.heap.size + 1 + 1, 1, none⟩) (by simp; omega) x1
    have b2 := b1.setCell (p := ⟨w.heap.size + 1 + 1, 2, none⟩) (by simp; omega) x2
    exact b2.setCell (p := ⟨w.heap.size + 1 + 1, 3, none⟩) (by simp; omega) x3

set_option maxHeartbeats 4000000 in
theorem deltaM_any (m : Int) (a : ByteArray) (n : Int) (b : ByteArray) (w : World) (ha : a.size ≤ maxLen) (hb : b.size ≤ maxLen) :
    Calls Try.prog 42 #[.agg #[.int .i64 m, .string a], .agg #[.int .i64 n, .string b]] w fun e w' => e = .returned (.agg #[.int .i64 m, .int .i64 n, .int .i64 (alike a b : Int), .string (b.extract (alike a b) b.size)]) ∧ Below w.heap.size w w' := by
  unfold maxLen at ha hb
  have HI : Hid (In2 w m a n b (((w.alloc (.cells #[.int .i64 m, .string a] 24)).alloc (.cells #[.int .i64 n, .string b] 24)).alloc (.cells #[.int .i64 0, .int .i64 0, .int .i64 0, .string ⟨#[]⟩] 28))) := In2.new
  obtain ⟨z, hz⟩ : ∃ z, z = alike a b := ⟨_, rfl⟩
  have hzle := alike_le a b
  have HZ : Hid (z = alike a b) := hz
  rw [← hz] at hzle ⊢
  clear hz
  go_enter Try.func42, Try.ntmps42
  go_wp2_with fail
  refine wp_w (In2 w m a n b) HI.out ?_
  clear HI
  intro u0 i0
  go_loopw [5] (fun i u => ∃ k : Nat, k ≤ a.size ∧ k ≤ b.size ∧ i = .int .i64 k ∧ Hid (SoFar a b k) ∧ Hid (In2 w m a n b u)) (fun i _ => a.size - (intOf i).toNat)
  case atStart => exact ⟨0, Nat.zero_le _, Nat.zero_le _, rfl, SoFar.zero a b, i0⟩
  case round =>
    clear i0
    obtain ⟨k, hka, hkb, rfl, HS, HU⟩ := hrel
    obtain ⟨x0, x1, x2, x3⟩ := HU.out.cells
    by_cases h1 : k < a.size
    · by_cases h2 : k < b.size
      · by_cases e : (a[k]'h1).toNat = (b[k]'h2).toNat
        · have HN : Hid (SoFar a b (k + 1)) := HS.out.succ h1 h2 e
          have e1 : (((a[k]'h1).toNat : Int) == ((b[k]'h2).toNat : Int)) = true := by simp [e]
          clear HS e
          go_wp2_with fail
          go_quiet (fail)
          go_wp2
          exact ⟨⟨k + 1, by omega, by omega, by go_num, HN, HU.out.drewN _⟩, by simp [intOf]; omega⟩
        · have HA : z = k := HZ.out.trans (alike_at HS.out h1 h2 e)
          have e1 : (((a[k]'h1).toNat : Int) == ((b[k]'h2).toNat : Int)) = false := by simp; omega
          clear HS e
          subst HA
          go_wp2_with fail
          go_quiet (fail)
          go_wp2
          refine wp_w (In2 w m a n b) (HU.out.drewN _) ?_
          clear HU x0 x1 x2 x3
          intro u1 i1
          obtain ⟨x0, x1, x2, x3⟩ := i1.cells
          obtain ⟨r0, r1, r2, r3, r4⟩ := i1.rcells
          have HD : Hid (∀ y0 y1 y2 y3, (fill u1 (w.heap.size + 1 + 1) y0 y1 y2 y3).drew.heap[w.heap.size + 1 + 1]? = some (.cells #[y0, y1, y2, y3] 28 (0, 0)) ∧ Below w.heap.size w (fill u1 (w.heap.size + 1 + 1) y0 y1 y2 y3).drew) := i1.done
          clear i1
          go_region_with (fail)
          all_goals
            obtain ⟨d1, d2⟩ := HD.out (.int .i64 m) (.int .i64 n) (.int .i64 (z : Int)) (.string (b.extract z b.size))
            go_wp2
            exact bodyPost_ret (results_cell_row Try.results42 _ _ (w.heap.size + 1 + 1) _ #[.int .i64 m, .int .i64 n, .int .i64 (z : Int), .string (b.extract z b.size)] _ _ rfl d1 Try.underlying28 rfl infoU) rfl ⟨rfl, d2⟩
      · have HA : z = k := HZ.out.trans (alike_end HS.out hka hkb (by omega))
        clear HS
        subst HA
        go_wp2_with fail
        go_quiet (fail)
        go_wp2
        refine wp_w (In2 w m a n b) (HU.out.drewN _) ?_
        clear HU x0 x1 x2 x3
        intro u1 i1
        obtain ⟨x0, x1, x2, x3⟩ := i1.cells
        obtain ⟨r0, r1, r2, r3, r4⟩ := i1.rcells
        have HD : Hid (∀ y0 y1 y2 y3, (fill u1 (w.heap.size + 1 + 1) y0 y1 y2 y3).drew.heap[w.heap.size + 1 + 1]? = some (.cells #[y0, y1, y2, y3] 28 (0, 0)) ∧ Below w.heap.size w (fill u1 (w.heap.size + 1 + 1) y0 y1 y2 y3).drew) := i1.done
        clear i1
        go_region_with (fail)
        all_goals
          obtain ⟨d1, d2⟩ := HD.out (.int .i64 m) (.int .i64 n) (.int .i64 (z : Int)) (.string (b.extract z b.size))
          go_wp2
          exact bodyPost_ret (results_cell_row Try.results42 _ _ (w.heap.size + 1 + 1) _ #[.int .i64 m, .int .i64 n, .int .i64 (z : Int), .string (b.extract z b.size)] _ _ rfl d1 Try.underlying28 rfl infoU) rfl ⟨rfl, d2⟩
    · have HA : z = k := HZ.out.trans (alike_end HS.out hka hkb (by omega))
      clear HS
      subst HA
      go_wp2_with fail
      go_quiet (fail)
      go_wp2
      refine wp_w (In2 w m a n b) (HU.out.drewN _) ?_
      clear HU x0 x1 x2 x3
      intro u1 i1
      obtain ⟨x0, x1, x2, x3⟩ := i1.cells
      obtain ⟨r0, r1, r2, r3, r4⟩ := i1.rcells
      have HD : Hid (∀ y0 y1 y2 y3, (fill u1 (w.heap.size + 1 + 1) y0 y1 y2 y3).drew.heap[w.heap.size + 1 + 1]? = some (.cells #[y0, y1, y2, y3] 28 (0, 0)) ∧ Below w.heap.size w (fill u1 (w.heap.size + 1 + 1) y0 y1 y2 y3).drew) := i1.done
      clear i1
      go_region_with (fail)
      all_goals
        obtain ⟨d1, d2⟩ := HD.out (.int .i64 m) (.int .i64 n) (.int .i64 (z : Int)) (.string (b.extract z b.size))
        go_wp2
        exact bodyPost_ret (results_cell_row Try.results42 _ _ (w.heap.size + 1 + 1) _ #[.int .i64 m, .int .i64 n, .int .i64 (z : Int), .string (b.extract z b.size)] _ _ rfl d1 Try.underlying28 rfl infoU) rfl ⟨rfl, d2⟩
end Go.Proofs.Ytmbeanimjmfddaa.st
