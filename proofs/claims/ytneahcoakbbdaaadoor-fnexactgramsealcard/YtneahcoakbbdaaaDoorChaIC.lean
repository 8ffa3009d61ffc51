/-
  The program's block of sixteen numbers, where the table of places lies in its variable: the plain function's bytes; no old block turns.
-/
import Derived.Test.YtneahcoakbbdaaaDoorChaIB
import Derived.Lib.AppendStr
namespace Go.Proofs.YtneahcoakbbdaaaDoor.cc
open Go.ChangeShapes Go.WideShapes Go.ChangeAt Go.RowKit
open Go.Proofs.YtneahcoakbbdaaaDoor.sh (U bits_U wr_U byteAt)
set_option linter.unusedVariables false

/-- the table of places -/
def pl : List Int := [0, 4, 8, 12, 1, 5, 9, 13, 2, 6, 10, 14, 3, 7, 11, 15, 0, 5, 10, 15, 1, 6, 11, 12, 2, 7, 8, 13, 3, 4, 9, 14]
def plN (k j : Nat) : Nat := (pl.getD (4 * k + j) 0).toNat
def plA : Array Value := #[.int .i64 0, .int .i64 4, .int .i64 8, .int .i64 12, .int .i64 1, .int .i64 5, .int .i64 9, .int .i64 13, .int .i64 2, .int .i64 6, .int .i64 10, .int .i64 14, .int .i64 3, .int .i64 7, .int .i64 11, .int .i64 15, .int .i64 0, .int .i64 5, .int .i64 10, .int .i64 15, .int .i64 1, .int .i64 6, .int .i64 11, .int .i64 12, .int .i64 2, .int .i64 7, .int .i64 8, .int .i64 13, .int .i64 3, .int .i64 4, .int .i64 9, .int .i64 14]
/-- the table lies in its variable -/
def Mixes (w : World) : Prop := ∃ t fr, w.heap[4]? = some (.cells plA t fr)
theorem Mixes.lt {w : World} (h : Mixes w) : 4 < w.heap.size := by obtain ⟨t, fr, h⟩ := h; exact heap_lt h
theorem Mixes.below {w u : World} {B : Nat} (h : Mixes w) (hb : Below B w u) (hB : 4 < B) : Mixes u := by
  obtain ⟨t, fr, h⟩ := h; exact ⟨t, fr, (hb.block _ hB).trans h⟩
theorem Mixes.up {w u : World} (h : Mixes w) (hb : Below w.heap.size w u) : Mixes u := h.below hb h.lt
theorem infoP : (Tryd.prog.info? 128).map (·.size) = some 32 := by kernel_rfl
theorem info4 : (Tryd.prog.info? 127).map (·.size) = some 4 := by kernel_rfl
def pl4 (k : Nat) : Array Value := #[.int .i64 (plN k 0 : Nat), .int .i64 (plN k 1 : Nat), .int .i64 (plN k 2 : Nat), .int .i64 (plN k 3 : Nat)]
theorem idx_pl (u : World) : ∀ k : Nat, k < 8 → (Instr.index 128 (.agg plA) (.int .i64 (k : Int))).run Tryd.prog u = .ok (.agg (pl4 k)) u
  | 0, _ => by kernel_rfl
  | 1, _ => by kernel_rfl
  | 2, _ => by kernel_rfl
  | 3, _ => by kernel_rfl
  | 4, _ => by kernel_rfl
  | 5, _ => by kernel_rfl
  | 6, _ => by kernel_rfl
  | 7, _ => by kernel_rfl
  | k + 8, h => by omega
theorem pl_ok : ∀ k : Nat, k < 8 → (plN k 0 < 16 ∧ plN k 1 < 16 ∧ plN k 2 < 16 ∧ plN k 3 < 16) ∧ plN k 0 ≠ plN k 1 ∧ plN k 0 ≠ plN k 2 ∧ plN k 0 ≠ plN k 3 ∧ plN k 1 ≠ plN k 2 ∧ plN k 1 ≠ plN k 3 ∧ plN k 2 ≠ plN k 3 := by decide
/-- the first k quarters -/
def mixK (l : List Int) : Nat → List Int
  | 0 => l
  | k + 1 => quarter (mixK l k) (plN k 0) (plN k 1) (plN k 2) (plN k 3)
theorem mixK_eight (l : List Int) : mixK l 8 = twice l := rfl
theorem mixK_length (l : List Int) (k : Nat) : (mixK l k).length = l.length := by
  induction k with
  | zero => rfl
  | succ k ih => rw [mixK, quarter_length, ih]
theorem mixK_U {l : List Int} (h : AllU l) (k : Nat) : AllU (mixK l k) := by
  induction k with
  | zero => exact h
  | succ k ih => exact quarter_U ih _ _ _ _
def cellsU (l : List Int) : Array Value := (l.map (Value.int .u32)).toArray
theorem cellsU_size (l : List Int) : (cellsU l).size = l.length := by simp [cellsU]
theorem cellsU_at (l : List Int) (i : Nat) (h : i < l.length) : (cellsU l)[i]? = some (.int .u32 (l.getD i 0)) := by
  simp [cellsU, h]
theorem cellsU_set (l : List Int) (i : Nat) (x : Int) : (cellsU l).setIfInBounds i (.int .u32 x) = cellsU (l.set i x) := by
  unfold cellsU
  rw [List.setIfInBounds_toArray, List.map_set]
theorem cellsU_one (l : List Int) : (cellsU l).all (·.oneCell') = true := by
  unfold cellsU
  refine all_oneCell_toArray fun v hv => ?_
  obtain ⟨x, _, rfl⟩ := List.mem_map.1 hv
  rfl
theorem infoU (l : List Int) (h : l.length = 16) : (Tryd.prog.info? 110).map (·.size) = some (cellsU l).size := info16.trans (congrArg some ((cellsU_size l).trans h).symm)
theorem wp_w {P : Program} {c : Code} {Q : Exit → Act → World → Prop} {a : Act} {w : World} (I : World → Prop) (hI : I w) (h : ∀ u, I u → c.wp P Q a u) : c.wp P Q a w := h w hI
/-- what is known of the world inside the rounds -/
def InMix (w : World) (F l : List Int) (u : World) : Prop := Below w.heap.size w u ∧ w.heap.size + 2 ≤ u.heap.size ∧ u.heap[w.heap.size]? = some (.cells (cellsU F) 110 (0, 0)) ∧ u.heap[w.heap.size + 1]? = some (.cells (cellsU l) 110 (0, 0))
theorem InMix.alloc {w u : World} {F l : List Int} (h : InMix w F l u) (o : Obj) : InMix w F l (u.alloc o) := by
  obtain ⟨hB, hs, h0, h1⟩ := h
  exact ⟨hB.alloc hB.size _, by simp; omega, (Below.heap_alloc _ _ _ (by omega)).trans h0, (Below.heap_alloc _ _ _ (by omega)).trans h1⟩
theorem InMix.drew {w u : World} {F l : List Int} (h : InMix w F l u) : InMix w F l u.drew := ⟨h.1.drew, h.2.1, h.2.2.1, h.2.2.2⟩
theorem InMix.set4 {w u : World} {F l : List Int} (h : InMix w F l u) (a b c d : Nat) (x y z v : Int) :
    InMix w F ((((l.set a x).set b y).set c z).set d v) ((((u.setCell ⟨w.heap.size + 1, a, none⟩ (.int .u32 x)).setCell ⟨w.heap.size + 1, b, none⟩ (.int .u32 y)).setCell ⟨w.heap.size + 1, c, none⟩ (.int .u32 z)).setCell ⟨w.heap.size + 1, d, none⟩ (.int .u32 v)) := by
  obtain ⟨hB, hs, h0, h1⟩ := h
  have hp : w.heap.size ≤ w.heap.size + 1 := by omega
  have e1 := heap_setCell_same _ _ a _ _ (.int .u32 x) h1
  rw [cellsU_set] at e1
  have e2 := heap_setCell_same _ _ b _ _ (.int .u32 y) e1
  rw [cellsU_set] at e2
  have e3 := heap_setCell_same _ _ c _ _ (.int .u32 z) e2
  rw [cellsU_set] at e3
  have e4 := heap_setCell_same _ _ d _ _ (.int .u32 v) e3
  rw [cellsU_set] at e4
  refine ⟨(((hB.setCell (p := ⟨_, a, none⟩) hp _).setCell (p := ⟨_, b, none⟩) hp _).setCell (p := ⟨_, c, none⟩) hp _).setCell (p := ⟨_, d, none⟩) hp _, by simpa [World.setCell] using hs, ?_, e4⟩
  rw [heap_setCell_other _ _ _ _ (by show w.heap.size ≠ w.heap.size + 1; omega), heap_setCell_other _ _ _ _ (by show w.heap.size ≠ w.heap.size + 1; omega), heap_setCell_other _ _ _ _ (by show w.heap.size ≠ w.heap.size + 1; omega), heap_setCell_other _ _ _ _ (by show w.heap.size ≠ w.heap.size + 1; omega)]
  exact h0
/-- a block's numbers, of the sixteen at first -/
def blockF (F : List Int) (k : Nat) : List Int := ((List.range k).map fun i => sh.wr ((turns 10 F).getD i 0 + F.getD i 0)).flatMap lowBytes
theorem blockF_first (key : List UInt8) (ctr : Int) (nonce : List UInt8) (k : Nat) : blockF (first key ctr nonce) k = blockN key ctr nonce k := rfl
theorem blockF_succ (F : List Int) (k : Nat) : blockF F (k + 1) = blockF F k ++ lowBytes (sh.wr ((turns 10 F).getD k 0 + F.getD k 0)) := by simp [blockF, List.range_succ]
theorem strLow (x : Int) : Go.Lib.strCells ⟨(lowL x 4).toArray⟩ = (lowBytes x).map (Value.int .u8) := by
  rw [lowL_four]
  simp only [Go.Lib.strCells, List.map_map]
  refine List.map_congr_left fun y hy => ?_
  have h := lowBytes_le x y hy
  simp only [Function.comp_apply]
  rw [ofNat_toNat h.1 h.2]
theorem convI {w : World} {base : Nat} {v : Value} {n : Nat} {xs : List Int} (hn : 0 < n) (h : w.ownsRow base 5 1 v n (xs.map (Value.int .u8))) :
    (convert 91 9 v).run Tryd.prog w = .ok (.string (strOfNums xs)) w := by
  obtain ⟨hl, ⟨_, h0⟩ | ⟨g, cap, cur, rfl, hg, hh, h1, h2, h3, h4⟩⟩ := h
  · omega
  · have hlen : xs.length = n := by simpa using hl
    refine run_convert_bytes_arg (P := Tryd.prog) w 91 5 Tryd.underlying91 Tryd.underlying5 g 0 n cap xs hlen (fun i hi => ?_) 9 Tryd.underlying9
    have hc : (cur.toList.take (n * 1))[i]? = some (Value.int .u8 (xs.getD i 0)) := by
      rw [h4, List.getElem?_map, List.getElem?_eq_getElem (by omega)]
      simp [List.getD, List.getElem?_eq_getElem (show i < xs.length by omega)]
    rw [List.getElem?_take_of_lt (by omega)] at hc
    simp [World.cell?, hh]
    simpa using hc
end Go.Proofs.YtneahcoakbbdaaaDoor.cc
