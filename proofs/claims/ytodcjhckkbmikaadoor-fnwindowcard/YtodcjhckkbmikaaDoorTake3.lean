/-
  The program's window of what its map still holds: the counts rise; no old block turns. Condition: all grams of the map are of the top's epoch.
-/
import Derived.Test.YtodcjhckkbmikaaDoorTake2
import Derived.Test.YtodcjhckkbmikaaDoorSortL
import Derived.Sort.OwnSortedInts
import Derived.Laws.StructEq
import Derived.Maps.AppendAt
import Derived.OwnWalk
namespace Go.Proofs.YtodcjhckkbmikaaDoor.wi
open Go.ChangeShapes Go.WideShapes Go.ChangeAt Go.RowKit Go.Sort
set_option linter.unusedVariables false

/-- the counts that were met -/
def Col (M L : Int → Int → Prop) (te tc : Int) (ss : List Int) : Prop := ss.Nodup ∧ ∀ x, x ∈ ss ↔ (W64 x ∧ M te x) ∧ ¬ L te x ∧ x ≠ tc
theorem col_start (M : Int → Int → Prop) (te tc : Int) : Col M M te tc [] := ⟨List.nodup_nil, fun x => by
  constructor
  · intro h; cases h
  · rintro ⟨⟨_, h⟩, h', _⟩; exact absurd h h'⟩
theorem Col.skip {M L : Int → Int → Prop} {te tc : Int} {ss : List Int} (h : Col M L te tc ss) : Col M (struck L te tc) te tc ss := ⟨h.1, fun x => by
  rw [h.2]
  constructor
  · rintro ⟨a, b, c⟩; exact ⟨a, fun h' => b h'.1, c⟩
  · rintro ⟨a, b, c⟩; exact ⟨a, fun h' => b ⟨h', fun h'' => c h''.2⟩, c⟩⟩
theorem Col.add {M L : Int → Int → Prop} {te tc : Int} {ss : List Int} (h : Col M L te tc ss) {c : Int} (hw : W64 c) (hm : M te c) (hl : L te c) (hne : c ≠ tc) : Col M (struck L te c) te tc (ss ++ [c]) := by
  refine ⟨?_, fun x => ?_⟩
  · rw [List.nodup_append]
    refine ⟨h.1, by simp, ?_⟩
    intro a ha b hb
    obtain rfl := List.mem_singleton.1 hb
    rintro rfl
    exact ((h.2 a).1 ha).2.1 hl
  · rw [List.mem_append, List.mem_singleton, h.2]
    constructor
    · rintro (⟨a, b, d⟩ | rfl)
      · exact ⟨a, fun h' => b h'.1, d⟩
      · exact ⟨⟨hw, hm⟩, fun h' => h'.2 ⟨rfl, rfl⟩, hne⟩
    · rintro ⟨a, b, d⟩
      by_cases hx : x = c
      · exact .inr hx
      · exact .inl ⟨a, fun h' => b ⟨h', fun h'' => hx h''.2⟩, d⟩

theorem cell_one_new1 (w : World) (o : Obj) (x : Value) (t : TypeId) : ∀ (j : Nat) (u : Value), [x][j]? = some u → ((w.alloc o).alloc (.cells #[x] t)).cell? ((⟨w.heap.size + 1, 0, none⟩ : Addr).add j) = some u := by
  intro j u h
  have hc := cell_one_new (w.alloc o) x t j u h
  rwa [show (w.alloc o).heap.size = w.heap.size + 1 by simp] at hc
/-- what is known in the loop -/
structure InWo (w : World) (te tc : Int) (b : Nat) (M L : Int → Int → Prop) (cnt : Nat) (ss : List Int) (v : Value) (u : World) : Prop where
  below : Below w.heap.size w u
  top : u.heap[w.heap.size]? = some (.cells (gramC te tc) 45 (0, 0))
  res : u.heap[w.heap.size + 1]? = some (.cells #[.int .i64 0, .int .i64 0, .slice none 0 0] 25 (0, 0))
  rng : GRange u b (w.heap.size + 1 + 1) 18 M L cnt
  row : u.ownsRow (w.heap.size + 1 + 1 + 1) 2 1 v ss.length (ss.map (Value.int .i64))
  col : Col M L te tc ss
  few : ss.length + cnt ≤ 18
  size : w.heap.size + 1 + 1 + 1 ≤ u.heap.size
  low : b < w.heap.size
  sub : ∀ e c, L e c → M e c

theorem InWo.step {w u u' : World} {te tc : Int} {b cnt cnt' : Nat} {M L : Int → Int → Prop} {ss ss' : List Int} {v v' : Value} {c : Int} (h : InWo w te tc b M L cnt ss v u) (hb : Below w.heap.size w u')
    (ht : u'.heap[w.heap.size]? = u.heap[w.heap.size]?) (hr : u'.heap[w.heap.size + 1]? = u.heap[w.heap.size + 1]?) (hg : GRange u' b (w.heap.size + 1 + 1) 18 M (struck L te c) cnt') (hrow : u'.ownsRow (w.heap.size + 1 + 1 + 1) 2 1 v' ss'.length (ss'.map (Value.int .i64)))
    (hcol : Col M (struck L te c) te tc ss') (hfew : ss'.length + cnt' ≤ 18) (hsz : u.heap.size ≤ u'.heap.size) : InWo w te tc b M (struck L te c) cnt' ss' v' u' where
  below := hb
  top := ht.trans h.top
  res := hr.trans h.res
  rng := hg
  row := hrow
  col := hcol
  few := hfew
  size := Nat.le_trans h.size hsz
  low := h.low
  sub := fun e c h' => h.sub e c h'.1

theorem row_block {u : World} {base : Nat} {e : TypeId} {v : Value} {n : Nat} {xs : List Value} (h : u.ownsRow base e 1 v n xs) {k : Nat} (hk : k < base) : some k ≠ v.ownBlock := by
  rcases h.2 with ⟨rfl, _⟩ | ⟨g, cap, cur, rfl, hb, _⟩
  · simp [Value.ownBlock]
  · simp [Value.ownBlock]; omega

theorem row_base {u : World} {base : Nat} {e : TypeId} {v : Value} {n : Nat} {xs : List Value} (h : u.ownsRow base e 1 v n xs) : ∀ k, v.ownBlock = some k → base ≤ k := by
  intro k hk
  rcases h.2 with ⟨rfl, _⟩ | ⟨g, cap, cur, rfl, hb, _⟩
  · simp [Value.ownBlock] at hk
  · simp [Value.ownBlock] at hk; omega
theorem row_mono {u : World} {base base' : Nat} {e : TypeId} {v : Value} {n : Nat} {xs : List Value} (h : u.ownsRow base e 1 v n xs) (hb : base' ≤ base) : u.ownsRow base' e 1 v n xs := by
  refine ⟨h.1, ?_⟩
  rcases h.2 with h' | ⟨g, cap, cur, h1, h2, h3⟩
  · exact .inl h'
  · exact .inr ⟨g, cap, cur, h1, Nat.le_trans hb h2, h3⟩
theorem row_slice {u : World} {base : Nat} {v : Value} {s : List Int} (h : u.ownsRow base 2 1 v s.length (s.map (Value.int .i64))) : SliceIs u v s := by
  rcases h.2 with ⟨rfl, h1⟩ | ⟨g, cap, cur, rfl, hb, hc, _⟩
  · have hs : s = [] := by
      cases s with
      | nil => rfl
      | cons x r => simp at h1
    subst hs
    exact .inl ⟨_, _, rfl, rfl⟩
  · refine .inr ⟨g, 0, cap, heap_lt hc, rfl, fun j hj => ?_⟩
    have := h.cellAt j (by simpa using hj)
    rw [Nat.zero_add]
    simpa [List.getElem?_eq_getElem hj] using this
theorem row_setRow {u : World} {base : Nat} {e : TypeId} {v : Value} {n : Nat} {xs : List Value} (h : u.ownsRow base e 1 v n xs) {k : Nat} (hk : k < base) {cs : Array Value} : (u.setRow k cs).ownsRow base e 1 v n xs := by
  refine ⟨h.1, ?_⟩
  rcases h.2 with h' | ⟨g, cap, cur, h1, h2, h3, h4⟩
  · exact .inl h'
  · exact .inr ⟨g, cap, cur, h1, h2, (setRow_other _ _ _ _ (by omega)).trans h3, h4⟩
theorem rising_of_sorted (l : List Int) (hn : l.Nodup) : (l.mergeSort fun x y => decide (x ≤ y)).Pairwise (· < ·) := by
  have hs : (l.mergeSort fun x y => decide (x ≤ y)).Pairwise (fun a b => decide (a ≤ b) = true) := List.pairwise_mergeSort (fun a b c => by simp; omega) (fun a b => by simp; omega) l
  have hn' : (l.mergeSort fun x y => decide (x ≤ y)).Nodup := (List.mergeSort_perm l _).nodup_iff.2 hn
  refine (hs.and hn').imp ?_
  intro a b h
  have h1 : a ≤ b := by simpa using h.1
  have h2 : a ≠ b := h.2
  omega

theorem top_cells {u : World} {q : Nat} {e c : Int} (h : u.heap[q]? = some (.cells (gramC e c) 45 (0, 0))) : u.cell? ⟨q, 0, none⟩ = some (.int .i64 0) ∧ u.cell? ⟨q, 1, none⟩ = some (.int .i64 e) ∧ u.cell? ⟨q, 2, none⟩ = some (.int .i64 c) ∧ u.cell? ⟨q, 3, none⟩ = some (.string ⟨#[]⟩) := by
  refine ⟨?_, ?_, ?_, ?_⟩ <;> simp [World.cell?, h]

set_option maxRecDepth 20000 in
set_option maxHeartbeats 8000000 in
theorem windowOf_any (te tc : Int) (b : Nat) (M : Int → Int → Prop) (w : World) (hG : GMap w b 18 M) (hM : ∀ e c, M e c → e = te) (hwte : W64 te) :
    Calls Tryd.prog 28 #[gramV te tc, .map (some b)] w fun r w' => ∃ (v : Value) (ss : List Int), r = .returned (.agg #[.int .i64 te, .int .i64 tc, v]) ∧ Below w.heap.size w w' ∧ w'.ownsRow (w.heap.size + 1 + 1 + 1) 2 1 v ss.length (ss.map (Value.int .i64)) ∧ ss.Pairwise (· < ·) ∧ (∀ x, x ∈ ss ↔ (W64 x ∧ M te x) ∧ x ≠ tc) ∧ ss.length ≤ 18 := by
  obtain ⟨i0, hi, hz0, hz1, hz2⟩ := info_parts info64
  have hbl := hG.lt
  have hG0 := hG.kept (World.grownBy_alloc w (.cells (gramC te tc) 45) none) (by simp)
  have hG1 := hG0.kept (World.grownBy_alloc _ (.cells #[.int .i64 0, .int .i64 0, .slice none 0 0] 25) none) (by simp)
  have HB0 : Hid (Below w.heap.size w ((w.alloc (.cells (gramC te tc) 45)).alloc (.cells #[.int .i64 0, .int .i64 0, .slice none 0 0] 25))) := ((Below.refl _ _).alloc (Nat.le_refl _) _).alloc (by simp) _
  have HT0 : Hid (((w.alloc (.cells (gramC te tc) 45)).alloc (.cells #[.int .i64 0, .int .i64 0, .slice none 0 0] 25)).heap[w.heap.size]? = some (.cells (gramC te tc) 45 (0, 0))) := (Below.heap_alloc _ _ _ (by simp)).trans (heap_alloc_new _ _)
  have HR0 : Hid (((w.alloc (.cells (gramC te tc) 45)).alloc (.cells #[.int .i64 0, .int .i64 0, .slice none 0 0] 25)).heap[w.heap.size + 1]? = some (.cells #[.int .i64 0, .int .i64 0, .slice none 0 0] 25 (0, 0))) := heap_alloc2_new _ _ _
  clear hG hG0
  go_enter Tryd.func28, Tryd.ntmps28
  go_wp2_with (at_range; refine wpList_range5 _ rfl _ rfl b 18 M rfl hG1 ?_; intro w0 cnt hcnt hrg hgr hsz; go_frame)
  have hs2 : ((w.alloc (.cells (gramC te tc) 45)).alloc (.cells #[.int .i64 0, .int .i64 0, .slice none 0 0] 25)).heap.size = w.heap.size + 1 + 1 := by simp
  rw [hs2] at hrg hsz ⊢
  have HI : Hid (InWo w te tc b M M cnt [] (.slice none 0 0) w0) := {
    below := HB0.out.trans ((show Below w.heap.size _ w0 from ⟨hgr.os, hgr.tape, hgr.output, hgr.size, fun k hk => hgr.block k (by rw [hs2]; omega) (by simp)⟩))
    top := (hgr.block _ (by rw [hs2]; omega) (by simp)).trans HT0.out
    res := (hgr.block _ (by rw [hs2]; omega) (by simp)).trans HR0.out
    rng := hrg
    row := ⟨rfl, .inl ⟨rfl, rfl⟩⟩
    col := col_start M te tc
    few := by simpa using hcnt
    size := by omega
    low := hbl
    sub := fun _ _ h => h }
  clear hG1 HB0 HT0 HR0 hrg hgr hsz hs2 hcnt
  go_loopw [5, 6] (fun v _ u => ∃ L cnt ss, Hid (InWo w te tc b M L cnt ss v u)) (fun _ _ u => u.rangeLeft b (w.heap.size + 1 + 1))
  case atStart => exact ⟨_, _, _, HI⟩
  case round =>
    clear HI
    obtain ⟨L, cnt, ss, HI⟩ := hrel
    have hrg := HI.out.rng
    go_wp2_with (at_next; refine wpList_next5 _ rfl _ rfl b (w.heap.size + 1 + 1) 18 M L cnt rfl hrg ?_ ?_)
    · intro hE
      clear hrg
      have HC : Hid (ss.Nodup ∧ ∀ x, x ∈ ss ↔ (W64 x ∧ M te x) ∧ x ≠ tc) := ⟨HI.out.col.1, fun x => by
        rw [HI.out.col.2]
        constructor
        · rintro ⟨a, _, c⟩; exact ⟨a, c⟩
        · rintro ⟨a, c⟩; exact ⟨a, fun hl => hE te x hwte a.1 hl, c⟩⟩
      clear hE
      have hrow := HI.out.row
      have hfew := HI.out.few
      rcases hrow.2 with ⟨hv, hnil⟩ | ⟨g, cap, cur, hv, hbase, hcb, h1, h2, h3, h4⟩
      · have hss : ss = [] := by
          cases ss with
          | nil => rfl
          | cons x r => simp at hnil
        subst hv hss
        obtain ⟨t0, t1, t2, t3⟩ := top_cells HI.out.top
        have hres := HI.out.res
        have HB : Hid (Below w.heap.size w wr) := HI.out.below
        clear HI hrow hfew hnil hM
        go_wp2_with (first | (go_at_call 31; (with_reducible refine (so.sort_none _ _ _).mono ?_); rintro r w2 ⟨rfl, hw2⟩; obtain rfl := hw2.symm) | (refine wpList_store_row rfl 25 _ _ rfl (w.heap.size + 1) _ rfl rfl _ _ hres infoW (by rfl) (by simp [Value.oneCell']) ?_))
        refine bodyPost_ret (results_cell_row Tryd.results28 _ _ (w.heap.size + 1) _ #[.int .i64 te, .int .i64 tc, .slice none 0 0] _ _ rfl (setRow_heap _ _ _ #[.int .i64 te, .int .i64 tc, .slice none 0 0] _ _ hres) Tryd.underlying25 rfl infoW) rfl ⟨_, [], rfl, below_setRow HB.out (by omega) _, ⟨rfl, .inl ⟨rfl, rfl⟩⟩, List.Pairwise.nil, HC.out.2, by simp⟩
      · subst hv
        have hH := holds_of_blockI (ss := ss) hcb (by simpa using h4)
        have HS := so.sort_row g cap ss wr hH (heap_lt hcb) (by omega)
        obtain ⟨ts, hts⟩ : ∃ ts, ts = ss.mergeSort fun x y => decide (x ≤ y) := ⟨_, rfl⟩
        rw [← hts] at HS
        have hperm : ts.Perm ss := by rw [hts]; exact List.mergeSort_perm _ _
        have hrise : ts.Pairwise (· < ·) := by rw [hts]; exact rising_of_sorted ss HC.out.1
        have HC2 : Hid (∀ x, x ∈ ts ↔ (W64 x ∧ M te x) ∧ x ≠ tc) := fun x => hperm.mem_iff.trans (HC.out.2 x)
        have hlen : ts.length = ss.length := hperm.length_eq
        clear hts
        have hkeep : ∀ n os, (wr.grownBy (grow (putRow (Value.int .i64) (Sort.ahead wr n) g 0 ts.toArray) os) (some g)) := fun n os => grownBy_sortedI _
        have hown : ∀ n os, (grow (putRow (Value.int .i64) (Sort.ahead wr n) g 0 ts.toArray) os).ownsRow (w.heap.size + 1 + 1 + 1) 2 1 (.slice (some ⟨g, 0, none⟩) ss.length cap) ss.length (ts.map (Value.int .i64)) := fun n os => ownsRow_sortedI hlen hbase hcb h1 h2 h3
        have HJ : Hid (∀ n os, Below w.heap.size w (grow (putRow (Value.int .i64) (Sort.ahead wr n) g 0 ts.toArray) os) ∧ (grow (putRow (Value.int .i64) (Sort.ahead wr n) g 0 ts.toArray) os).heap[w.heap.size]? = some (.cells (gramC te tc) 45 (0, 0)) ∧ (grow (putRow (Value.int .i64) (Sort.ahead wr n) g 0 ts.toArray) os).heap[w.heap.size + 1]? = some (.cells #[.int .i64 0, .int .i64 0, .slice none 0 0] 25 (0, 0)) ∧ (grow (putRow (Value.int .i64) (Sort.ahead wr n) g 0 ts.toArray) os).ownsRow (w.heap.size + 1 + 1 + 1) 2 1 (.slice (some ⟨g, 0, none⟩) ss.length cap) ss.length (ts.map (Value.int .i64))) := fun n os =>
          ⟨HI.out.below.grown (hkeep n os) HI.out.below.size (fun k hk => by cases hk; omega), ((hkeep n os).block _ (heap_lt HI.out.top) (by simp; omega)).trans HI.out.top, ((hkeep n os).block _ (heap_lt HI.out.res) (by simp; omega)).trans HI.out.res, hown n os⟩
        have HR : Hid (ts.Pairwise (· < ·)) := hrise
        have HL : Hid (ts.length = ss.length) := hlen
        clear hkeep hown hH hperm hrise hlen hcb h1 h2 h3 h4 hbase hrow HI HC hM
        go_wp2_with (go_at_call 31; fail)
        refine HS.mono ?_
        rintro r w2 ⟨rfl, n, os, hw2⟩
        obtain ⟨j1, j2, j3, j4⟩ := HJ.out n os
        rw [← hw2] at j1 j2 j3 j4
        clear hw2 HJ HS
        obtain ⟨t0, t1, t2, t3⟩ := top_cells j2
        have hres := j3
        have HB : Hid (Below w.heap.size w w2) := j1
        have HO : Hid (w2.ownsRow (w.heap.size + 1 + 1 + 1) 2 1 (.slice (some ⟨g, 0, none⟩) ss.length cap) ss.length (ts.map (Value.int .i64))) := j4
        clear j1 j2 j3 j4
        go_wp2_with (refine wpList_store_row rfl 25 _ _ rfl (w.heap.size + 1) _ rfl rfl _ _ hres infoW (by rfl) (by simp [Value.oneCell']) ?_)
        refine bodyPost_ret (results_cell_row Tryd.results28 _ _ (w.heap.size + 1) _ #[.int .i64 te, .int .i64 tc, .slice (some ⟨g, 0, none⟩) ss.length cap] _ _ rfl (setRow_heap _ _ _ #[.int .i64 te, .int .i64 tc, .slice (some ⟨g, 0, none⟩) ss.length cap] _ _ hres) Tryd.underlying25 rfl infoW) rfl ⟨_, ts, rfl, below_setRow HB.out (by omega) _, ?_, HR.out, HC2.out, by rw [HL.out]; omega⟩
        rw [HL.out]
        exact row_setRow HO.out (by omega)
    · intro e c w1 cnt1 hwe hwc hL hrg1 hlt hgr1 hsz1 hen
      obtain rfl : e = te := hM _ _ (HI.out.sub _ _ hL)
      clear hrg
      have hT1 : w1.heap[w.heap.size]? = some (.cells (gramC e tc) 45 (0, 0)) := (hgr1.block _ (heap_lt HI.out.top) (by simp; omega)).trans HI.out.top
      have hT2 := (Below.heap_alloc w1 (.cells (gramC e c) 45) _ (heap_lt hT1)).trans hT1
      have hN2 : (w1.alloc (.cells (gramC e c) 45)).heap[w1.heap.size]? = some (.cells (gramC e c) 45 (0, 0)) := heap_alloc_new _ _
      clear hT1
      have hrow := HI.out.row
      have hrow1 := hrow.kept hgr1 (.inr (row_block hrow (by omega)).symm)
      have HB2 : Hid (Below w.heap.size w w1) := HI.out.below.grown hgr1 HI.out.below.size (fun k hk => by cases hk; omega)
      have HT1 : Hid (w1.heap[w.heap.size]? = wr.heap[w.heap.size]?) := hgr1.block _ (heap_lt HI.out.top) (by simp; omega)
      have HR1 : Hid (w1.heap[w.heap.size + 1]? = wr.heap[w.heap.size + 1]?) := hgr1.block _ (heap_lt HI.out.res) (by simp)
      have HS1 : Hid (w1.heap.size = wr.heap.size) := hsz1
      have hfew := HI.out.few
      have HN : Hid (w.heap.size + 1 + 1 + 1 ≤ w1.heap.size) := by
        have := HI.out.size
        show _ ≤ _
        omega
      clear hsz1 hgr1 hrow
      by_cases hc : c = tc
      · subst hc
        have HI2 : Hid (∀ o, InWo w e c b M (struck L e c) cnt1 ss u5 (w1.alloc o)) := fun o => HI.out.step (HB2.out.alloc HB2.out.size _) ((Below.heap_alloc _ _ _ (by have := HN.out; omega)).trans HT1.out) ((Below.heap_alloc _ _ _ (by have := HN.out; omega)).trans HR1.out) (hrg1.kept (World.grownBy_alloc w1 o none) (by simp) (by simp)) (hrow1.alloc o) HI.out.col.skip (by omega) (by simp; rw [HS1.out]; omega)
        have HL : Hid (∀ o, (w1.alloc o).rangeLeft b (w.heap.size + 1 + 1) = cnt1) := fun o => (HI2.out o).rng.left
        have HL0 : Hid (wr.rangeLeft b (w.heap.size + 1 + 1) = cnt) := HI.out.rng.left
        clear HI hrg1 hrow1 HB2 HT1 HR1 HN
        go_wp2_with (first | (refine wpList_load_row rfl 45 _ rfl w.heap.size rfl _ _ _ _ hT2 Tryd.underlying45 rfl infoG ?_) | (refine wpList_load_row rfl 45 _ rfl w1.heap.size rfl _ _ _ _ hN2 Tryd.underlying45 rfl infoG ?_))
        refine ⟨⟨_, _, _, HI2.out _⟩, ?_⟩
        rw [HL.out, HL0.out]; exact hlt
      · have hcb : (c == tc) = false := by simpa using hc
        have HW : Hid (∀ o o', ((w1.alloc o).alloc o').ownsRow (w.heap.size + 1 + 1 + 1) 2 1 u5 ss.length (ss.map (Value.int .i64))) := fun o o' => (hrow1.alloc o).alloc o'
        clear hrow1
        have hN' := HN.out
        go_wp2_with (first | (refine wpList_load_row rfl 45 _ rfl w.heap.size rfl _ _ _ _ hT2 Tryd.underlying45 rfl infoG ?_) | (refine wpList_load_row rfl 45 _ rfl w1.heap.size rfl _ _ _ _ hN2 Tryd.underlying45 rfl infoG ?_) | (at_builtin; refine wpList_append_own _ rfl _ _ 23 rfl (w.heap.size + 1 + 1 + 1) 2 i0 (.int .i64 0) 1 8 Tryd.underlying23 hi hz0 hz1 hz2 rfl (by decide) _ _ _ rfl (HW.out _ _) ⟨w1.heap.size + 1, 0, none⟩ 1 1 [_] rfl rfl (cell_one_new1 _ _ _ _) (fun x hx => by simp at hx; subst hx; rfl) (by unfold maxLen; omega) (by omega) (by simp; omega) ?_; intro v' w3 hown3 hgr3 hnil3; clear hnil3; have HO3 : Hid (w3.ownsRow (w.heap.size + 1 + 1 + 1) 2 1 v' (ss.length + 1) (ss.map (Value.int .i64) ++ [.int .i64 c])) := hown3; have HG3 : Hid (∃ o o', ((w1.alloc o).alloc o').grownBy w3 u5.ownBlock) := ⟨_, _, hgr3⟩; clear hown3 hgr3))
        have hbase := row_base (HI.out.row)
        have HI2 : Hid (InWo w e tc b M (struck L e c) cnt1 (ss ++ [c]) v' w3) := by
          obtain ⟨o, o', hg⟩ := HG3.out
          have hsz2 : ((w1.alloc o).alloc o').heap.size = w1.heap.size + 1 + 1 := by simp
          have hbb : some b ≠ u5.ownBlock := row_block HI.out.row (by omega)
          have hNN : some w.heap.size ≠ u5.ownBlock := row_block HI.out.row (by omega)
          have hN1 : some (w.heap.size + 1) ≠ u5.ownBlock := row_block HI.out.row (by omega)
          have hN2 : some (w.heap.size + 1 + 1) ≠ u5.ownBlock := row_block HI.out.row (by omega)
          have hB3 := (HB2.out.alloc HB2.out.size o).alloc ((HB2.out.alloc HB2.out.size o).size) o'
          refine HI.out.step (hB3.grown hg hB3.size (fun k hk => by have := hbase k hk; omega)) ?_ ?_ ?_ ?_ (HI.out.col.add hwc (HI.out.sub _ _ hL) hL hc) (by simp; omega) (by have := hg.size; have := HS1.out; omega)
          · exact (hg.block _ (by omega) hNN).trans ((Below.heap_alloc _ _ _ (by simp; omega)).trans ((Below.heap_alloc _ _ _ (by omega)).trans HT1.out))
          · exact (hg.block _ (by omega) hN1).trans ((Below.heap_alloc _ _ _ (by simp; omega)).trans ((Below.heap_alloc _ _ _ (by omega)).trans HR1.out))
          · exact ((hrg1.kept (World.grownBy_alloc w1 o none) (by simp) (by simp)).kept (World.grownBy_alloc _ o' none) (by simp) (by simp)).kept hg hbb hN2
          · have := HO3.out
            simpa using this
        have HL : Hid (w3.rangeLeft b (w.heap.size + 1 + 1) = cnt1) := HI2.out.rng.left
        have HL0 : Hid (wr.rangeLeft b (w.heap.size + 1 + 1) = cnt) := HI.out.rng.left
        refine ⟨⟨_, _, _, HI2⟩, ?_⟩
        rw [HL.out, HL0.out]; exact hlt
end Go.Proofs.YtodcjhckkbmikaaDoor.wi
