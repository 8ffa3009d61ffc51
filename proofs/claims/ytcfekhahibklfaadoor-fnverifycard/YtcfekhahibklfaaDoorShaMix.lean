/-
  The program's mix: a block of 64 bytes is taken into the state of a hash at work; nothing else of what was there turns.
-/
import Derived.Test.YtcfekhahibklfaaDoorShaWords
import Derived.Deep.RegionWith
namespace Go.Proofs.YtcfekhahibklfaaDoor.sh
open Go.ChangeShapes Go.WideShapes Go.ChangeAt Go.RowKit
set_option linter.unusedVariables false

/-- the table of the rounds' numbers lies in its variable -/
def Tab (w : World) : Prop := ∀ i, i < 64 → w.cell? ⟨0, i, none⟩ = some (.int .u32 (key i))
theorem Tab.lt {w : World} (h : Tab w) : 0 < w.heap.size := block_lt_of_cell (h 0 (by decide))
theorem Tab.below {w w' : World} {B : Nat} (h : Tab w) (hb : Below B w w') (hB : 0 < B) : Tab w' := fun i hi => by rw [hb.cell (p := ⟨_, i, none⟩) hB]; exact h i hi
theorem Tab.grown {w w' : World} {p : Nat} (h : Tab w) (hg : w.grownBy w' (some p)) (hp : 0 < p) : Tab w' := fun i hi => by
  rw [World.cell?_of_block (w := w) (hg.block 0 h.lt (fun e => by cases e; omega))]; exact h i hi

theorem block_lt_of_heap {w : World} {p : Nat} {o : Obj} (h : w.heap[p]? = some o) : p < w.heap.size := by
  rcases Nat.lt_or_ge p w.heap.size with h' | h'
  · exact h'
  · simp [Array.getElem?_eq_none h'] at h
theorem calls_world {P : Program} {f : Nat} {args : Array Value} {w : World} {Q : Ending → World → Prop} (I : World → Prop) (hI : I w) (h : ∀ u, I u → Calls P f args u Q) : Calls P f args w Q := h w hI
/-- a hash at work -/
def At (w : World) (p : Nat) (s : St) (rest : ByteArray) (size : Int) : Prop :=
  w.heap[p]? = some (.cells #[.int .u32 s.a, .int .u32 s.b, .int .u32 s.c, .int .u32 s.d, .int .u32 s.e, .int .u32 s.f, .int .u32 s.g, .int .u32 s.h, .string rest, .int .u64 size] 117 (0, 0))
theorem At.lt {w : World} {p : Nat} {s : St} {rest : ByteArray} {size : Int} (h : At w p s rest size) : p < w.heap.size := by
  rcases Nat.lt_or_ge p w.heap.size with h' | h'
  · exact h'
  · unfold At at h; simp [Array.getElem?_eq_none h'] at h
theorem At.below {w w' : World} {B p : Nat} {s : St} {rest : ByteArray} {size : Int} (h : At w p s rest size) (hb : Below B w w') (hB : p < B) : At w' p s rest size := (hb.block p hB).trans h
theorem At.range {w : World} {p : Nat} {s : St} {rest : ByteArray} {size : Int} (h : At w p s rest size) : w.rangeAt p 0 s.vals := by
  have := World.rangeAt_of_block h 0 8
  exact this
theorem info8 : (Tryd.prog.info? 115).map (·.size) = some 8 := by kernel_rfl
theorem vals_one (s : St) : s.vals.toArray.all (·.oneCell') = true := by simp [St.vals, Value.oneCell']

theorem run_index_ints {P : Program} {t e : TypeId} {n : Nat} (l : List Int) (k : Nat) (w : World) (hu : P.underlying t = some (.array n e)) (hz : ∀ w, (sizeOf e).run P w = .ok 1 w) (ha : ∀ w, (isAgg e).run P w = .ok false w) (hl : l.length = n) (hk : k < n) :
    (Instr.index t (.agg (l.map (Value.int .u32)).toArray) (.int .i64 (k : Int))).run P w = .ok (.int .u32 (l.getD k 0)) w := by
  have h1 : (0 : Int) ≤ k ∧ (k : Int) < (n : Int) := by omega
  obtain ⟨x, h2⟩ : ∃ x, l[k]? = some x := ⟨_, List.getElem?_eq_getElem (by omega)⟩
  rw [List.getD_eq_getElem?_getD, h2]
  simp [Instr.index, run_underlying hu, asIntOf, hk, h2, go_sem, hz, ha]
theorem size85 (w : World) : (sizeOf 113).run Tryd.prog w = .ok 1 w := by kernel_rfl
theorem agg85 (w : World) : (isAgg 113).run Tryd.prog w = .ok false w := by kernel_rfl
theorem run_loadAt_row {P : Program} (w : World) (g : Nat) (t ty : TypeId) (cs : Array Value) (fr : Nat × Nat) (d : TypeDesc) (hg : w.heap[g]? = some (.cells cs t fr))
    (hu : P.underlying ty = some d) (hd : (match d with | .struct _ | .array _ _ => true | _ => false) = true) (hi : (P.info? ty).map (·.size) = some cs.size) :
    (Instr.loadAt ty (.pointer (some ⟨g, 0, none⟩))).run P w = .ok (.agg cs) w := by
  simp only [Instr.loadAt, Instr.sureAddr, Sem.run_bind, Sem.run_pure, Result.andThen_ok, run_loadVar_row w g t ty cs fr d hg hu hd hi]
theorem run_storeAt_row {P : Program} (w : World) (g : Nat) (t ty : TypeId) (old cells : Array Value) (hg : w.heap[g]? = some (.cells old t (0, 0))) (hi : (P.info? ty).map (·.size) = some cells.size)
    (ho : old.size = cells.size) (h1 : cells.all (·.oneCell') = true) :
    (Instr.storeAt ty (.pointer (some ⟨g, 0, none⟩)) (.agg cells)).run P w = .ok () (w.setRow g cells) := by
  simp only [Instr.storeAt, Instr.sureAddr, Sem.run_bind, Sem.run_pure, Result.andThen_ok, run_storeVar_row w g t ty old cells hg hi ho h1]

theorem set8 {w : World} {p : Nat} {c0 c1 c2 c3 c4 c5 c6 c7 v0 v1 v2 v3 v4 v5 v6 v7 : Value} {t : TypeId} (h : w.heap[p]? = some (.cells #[c0, c1, c2, c3, c4, c5, c6, c7] t (0, 0))) :
    (∀ u, Below p u w → p ≤ p → Below p u ((((((((w.setCell ⟨p, 0, none⟩ v0).setCell ⟨p, 1, none⟩ v1).setCell ⟨p, 2, none⟩ v2).setCell ⟨p, 3, none⟩ v3).setCell ⟨p, 4, none⟩ v4).setCell ⟨p, 5, none⟩ v5).setCell ⟨p, 6, none⟩ v6).setCell ⟨p, 7, none⟩ v7)) ∧
    ((((((((w.setCell ⟨p, 0, none⟩ v0).setCell ⟨p, 1, none⟩ v1).setCell ⟨p, 2, none⟩ v2).setCell ⟨p, 3, none⟩ v3).setCell ⟨p, 4, none⟩ v4).setCell ⟨p, 5, none⟩ v5).setCell ⟨p, 6, none⟩ v6).setCell ⟨p, 7, none⟩ v7).heap[p]? = some (.cells #[v0, v1, v2, v3, v4, v5, v6, v7] t (0, 0)) :=
  ⟨fun u hb hp => (((((((hb.setCell (p := ⟨p, _, none⟩) hp _).setCell (p := ⟨p, _, none⟩) hp _).setCell (p := ⟨p, _, none⟩) hp _).setCell (p := ⟨p, _, none⟩) hp _).setCell (p := ⟨p, _, none⟩) hp _).setCell (p := ⟨p, _, none⟩) hp _).setCell (p := ⟨p, _, none⟩) hp _).setCell (p := ⟨p, _, none⟩) hp _,
   by
    have h0 := heap_setCell_same w p 0 _ t v0 h
    have h1 := heap_setCell_same _ p 1 _ t v1 h0
    have h2 := heap_setCell_same _ p 2 _ t v2 h1
    have h3 := heap_setCell_same _ p 3 _ t v3 h2
    have h4 := heap_setCell_same _ p 4 _ t v4 h3
    have h5 := heap_setCell_same _ p 5 _ t v5 h4
    have h6 := heap_setCell_same _ p 6 _ t v6 h5
    have h7 := heap_setCell_same _ p 7 _ t v7 h6
    simpa only [List.setIfInBounds_toArray, List.set_cons_zero, List.set_cons_succ] using h7⟩
theorem gset {a w : World} {p : Nat} (h : a.grownBy w (some p)) (i : Nat) (v : Value) : a.grownBy (w.setCell ⟨p, i, none⟩ v) (some p) :=
  ⟨h.os, h.tape, h.output, by simpa [World.setCell] using h.size, fun k hk hne => by
    rw [Below.heap_setCell _ _ _ _ (fun e => hne (by simp [e]))]
    exact h.block k hk hne⟩
theorem gdrew1 {a w : World} {r : Option Nat} (h : a.grownBy w r) : a.grownBy w.drew r := ⟨h.os, h.tape, h.output, h.size, h.block⟩
/-- the state on the way: the first k numbers are added -/
def nums8 (s r : St) (k : Nat) : List Int := (List.zipWith (fun x y => wr (x + y)) s.nums r.nums).take k ++ s.nums.drop k
def row10 (l : List Int) (rest : ByteArray) (size : Int) : Array Value := (l.map (Value.int .u32) ++ [Value.string rest, Value.int .u64 size]).toArray
theorem nums8_at (s r : St) (rest : ByteArray) (size : Int) : ∀ k, k < 8 → (row10 (nums8 s r k) rest size)[k]? = some (.int .u32 (s.nums.getD k 0))
  | 0, _ => rfl | 1, _ => rfl | 2, _ => rfl | 3, _ => rfl | 4, _ => rfl | 5, _ => rfl | 6, _ => rfl | 7, _ => rfl
  | k + 8, h => by omega
theorem nums8_set (s r : St) (rest : ByteArray) (size : Int) : ∀ k, k < 8 → (row10 (nums8 s r k) rest size).setIfInBounds k (.int .u32 (wr (s.nums.getD k 0 + r.nums.getD k 0))) = row10 (nums8 s r (k + 1)) rest size
  | 0, _ => rfl | 1, _ => rfl | 2, _ => rfl | 3, _ => rfl | 4, _ => rfl | 5, _ => rfl | 6, _ => rfl | 7, _ => rfl
  | k + 8, h => by omega

set_option maxRecDepth 20000 in
set_option maxHeartbeats 8000000 in
theorem mix_any (s : St) (rest : ByteArray) (size : Int) (p : Nat) (b : ByteArray) (w : World) (hs : s.ok) (hb : b.size = 64) (hp : At w p s rest size) (ht : Tab w) (hg : 0 < p) :
    Calls Tryd.prog 84 #[.pointer (some ⟨p, 0, none⟩), .string b] w fun e w' => e = .returned (.tuple #[]) ∧ At w' p (block s b.data.toList) rest size ∧ w.grownBy w' (some p) := by
  have hpl := hp.lt
  go_enter Tryd.func84, Tryd.ntmps84
  go_wp2_with (first | (refine wpList_load_mid rfl 115 _ rfl p 0 rfl s.vals _ hp.range Tryd.underlying115 rfl info8 ?_) | (refine wpList_store_row rfl 115 _ _ rfl w.heap.size _ rfl rfl _ _ (heap_alloc_new _ _) info8 rfl (vals_one _) ?_) | (go_at_call 89; fail))
  refine calls_world (fun u => Below w.heap.size w u ∧ u.heap[w.heap.size]? = some (.cells s.vals.toArray 115 (0, 0))) ⟨below_setRow ((Below.refl _ _).alloc (Nat.le_refl _) _) (Nat.le_refl _) _, setRow_heap _ _ _ _ _ _ (heap_alloc_new _ _)⟩ ?_
  rintro u0 ⟨hB0, h0⟩
  refine (words_any b u0 hb).mono ?_
  rintro e w1 ⟨rfl, hb1⟩
  have hB1 : Below w.heap.size w w1 := hB0.trans (hb1.mono hB0.size)
  have H1 : Hid (w1.heap[w.heap.size]? = some (.cells s.vals.toArray 115 (0, 0))) := (hb1.block _ (block_lt_of_heap h0)).trans h0
  clear hb1 h0 hB0
  have hwl := words_length b.data.toList 64
  have hwu := words_U b.data.toList 64
  have HM : Hid (At w p s rest size) := hp
  have HT : Hid (Tab w) := ht
  have HBL : Hid (block s b.data.toList = s.add (rounds (words b.data.toList 64) s 64)) := rfl
  clear hp ht
  generalize words b.data.toList 64 = ws at *
  go_wp2_with fail
  go_loopw [5, 6, 14] (fun _ _ i u => ∃ k : Nat, k ≤ 64 ∧ i = .int .i64 k ∧ Below w.heap.size w u ∧ Hid (u.heap[w.heap.size]? = some (.cells (rounds ws s k).vals.toArray 115 (0, 0)))) (fun _ _ i _ => 64 - (intOf i).toNat)
  case atStart => exact ⟨0, by omega, rfl, hB1, H1⟩
  case round =>
    clear hB1 H1
    obtain ⟨k, hk, rfl, hB, H⟩ := hrel
    by_cases hlt : k < 64
    · have hidx : ∀ u, (Instr.index 123 (.agg (ws.map (Value.int .u32)).toArray) (.int .i64 (k : Int))).run Tryd.prog u = .ok (.int .u32 (ws.getD k 0)) u := fun u => run_index_ints ws k u Tryd.underlying123 size85 agg85 hwl hlt
      have hkey : wr.cell? ⟨0, k, none⟩ = some (.int .u32 (key k)) := (HT.out.below hB (by omega)) k hlt
      have hok : (rounds ws s k).ok := rounds_ok ws hs k
      have HS : Hid (rounds ws s (k + 1) = (rounds ws s k).round (sh.wr (key k + ws.getD k 0))) := rfl
      have hxu : U (ws.getD k 0) := word_U ws hwu k
      have hku := key_U k
      generalize rounds ws s k = r at *
      generalize ws.getD k 0 = x at *
      generalize key k = y at *
      obtain ⟨c0, c1, c2, c3, c4, c5, c6, c7⟩ := cells8 (show wr.heap[w.heap.size]? = some (.cells #[.int .u32 r.a, .int .u32 r.b, .int .u32 r.c, .int .u32 r.d, .int .u32 r.e, .int .u32 r.f, .int .u32 r.g, .int .u32 r.h] 115 (0, 0)) from H.out)
      have HB : Hid (Below w.heap.size w wr) := hB
      have hBl : w.heap.size < wr.heap.size := block_lt_of_heap H.out
      clear hwl hwu hB
      go_wp2_with fail
      go_region_with (go_at_call 90; refine (round_lit r _ _ hok (by first | exact wr_U _ | (unfold U; omega))).mono ?_; rintro e w2 ⟨r2, HR2, rfl, hb2⟩; have h2 := (hb2.block w.heap.size hBl).trans H.out; have f0 := frozen_of_row w2 w.heap.size 0 _ _ h2; have f1 := frozen_of_row w2 w.heap.size 1 _ _ h2; have f2 := frozen_of_row w2 w.heap.size 2 _ _ h2; have f3 := frozen_of_row w2 w.heap.size 3 _ _ h2; have f4 := frozen_of_row w2 w.heap.size 4 _ _ h2; have f5 := frozen_of_row w2 w.heap.size 5 _ _ h2; have f6 := frozen_of_row w2 w.heap.size 6 _ _ h2; have f7 := frozen_of_row w2 w.heap.size 7 _ _ h2; clear c0 c1 c2 c3 c4 c5 c6 c7; obtain ⟨c0, c1, c2, c3, c4, c5, c6, c7⟩ := cells8 h2; have HH2 : Hid _ := h2; clear h2)
      all_goals
        obtain ⟨hA8, hh8⟩ := set8 (v0 := .int .u32 r2.a) (v1 := .int .u32 r2.b) (v2 := .int .u32 r2.c) (v3 := .int .u32 r2.d) (v4 := .int .u32 r2.e) (v5 := .int .u32 r2.f) (v6 := .int .u32 r2.g) (v7 := .int .u32 r2.h) HH2.out
        have HB8 : Below w.heap.size w w2 := HB.out.drew.trans (hb2.mono (by show w.heap.size ≤ wr.heap.size; omega))
        have HA8 : Hid _ := hA8 w HB8 (Nat.le_refl _)
        have HH8 : Hid _ := hh8
        have e8 : Hid (rounds ws s (k + 1) = r2) := HS.out.trans HR2.out.symm
        clear hA8 hh8 HB8 hb2 f0 f1 f2 f3 f4 f5 f6 f7 c0 c1 c2 c3 c4 c5 c6 c7 hkey hidx HH2 HR2 HS H HB
        go_wp2
        go_roundw
        case rel =>
          refine ⟨k + 1, by omega, by go_num, HA8.out, ?_⟩
          rw [e8.out]
          exact HH8
        case measure => simp [intOf]; omega
    · obtain rfl : k = 64 := by omega
      have hro : (rounds ws s 64).ok := rounds_ok ws hs 64
      generalize rounds ws s 64 = r at *
      have HG : Hid (w.grownBy wr (some p)) := ⟨hB.os, hB.tape, hB.output, hB.size, fun k hk _ => hB.block k hk⟩
      have HA : Hid (At wr p s rest size) := HM.out.below hB hpl
      have hBl : w.heap.size < wr.heap.size := block_lt_of_heap H.out
      clear hB
      go_wp2_with (refine wpList_load_row rfl 115 _ rfl w.heap.size rfl _ _ _ _ H.out Tryd.underlying115 rfl info8 ?_)
      go_loopw [7, 8, 27] (fun _ _ i u => ∃ k : Nat, k ≤ 8 ∧ i = .int .i64 k ∧ Hid (w.grownBy u (some p)) ∧ Hid (u.heap[p]? = some (.cells (row10 (nums8 s r k) rest size) 117 (0, 0)))) (fun _ _ i _ => 8 - (intOf i).toNat)
      case atStart => exact ⟨0, by omega, rfl, HG, HA⟩
      case round =>
        clear HG HA
        obtain ⟨k, hk, rfl, HG, HA⟩ := hrel
        by_cases hlt : k < 8
        · have hidx : ∀ u, (Instr.index 115 (.agg r.vals.toArray) (.int .i64 (k : Int))).run Tryd.prog u = .ok (.int .u32 (r.nums.getD k 0)) u := fun u => run_index_ints r.nums k u Tryd.underlying115 size85 agg85 rfl hlt
          have hc : wr.cell? ⟨p, k, none⟩ = some (.int .u32 (s.nums.getD k 0)) := by rw [cell_of_row _ _ _ _ _ _ HA.out]; exact nums8_at s r rest size k hlt
          have hf : wr.frozen? ⟨p, k, none⟩ = false := frozen_of_row _ _ _ _ _ HA.out
          have HX : Hid (∀ x, x = sh.wr (s.nums.getD k 0 + r.nums.getD k 0) → Hid (w.grownBy (wr.setCell ⟨p, k, none⟩ (.int .u32 x)).drew (some p)) ∧ Hid ((wr.setCell ⟨p, k, none⟩ (.int .u32 x)).drew.heap[p]? = some (.cells (row10 (nums8 s r (k + 1)) rest size) 117 (0, 0)))) := by
            intro x hx
            refine ⟨gdrew1 (gset HG.out k (.int .u32 x)), ?_⟩
            refine (heap_setCell_same wr _ _ _ _ _ HA.out).trans ?_
            rw [hx, nums8_set s r rest size k hlt]
          generalize s.nums.getD k 0 = x at *
          generalize r.nums.getD k 0 = y at *
          clear HA HG
          go_wp2
          go_region
          go_wp2
          go_roundw
          case rel => exact ⟨k + 1, by omega, by go_num, HX.out _ (by unfold sh.wr; rw [IntKind.wrap_u32])⟩
          case measure => simp [intOf]; omega
        · obtain rfl : k = 8 := by omega
          go_wp2
          go_end0
          exact ⟨rfl, by rw [HBL.out]; exact HA.out, HG.out⟩
end Go.Proofs.YtcfekhahibklfaaDoor.sh
