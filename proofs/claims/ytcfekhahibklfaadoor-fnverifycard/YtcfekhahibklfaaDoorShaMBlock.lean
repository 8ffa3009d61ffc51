/-
  The model's block of the digest: it takes 64 bytes into a state as the plain function does; no old block turns.
-/
import Derived.Test.YtcfekhahibklfaaDoorMg8
import Derived.Deep.RegionHeld2
import Derived.Laws.BytesArg
namespace Go.Proofs.YtcfekhahibklfaaDoor.sh
open Go.ChangeShapes Go.WideShapes Go.ChangeAt Go.RowKit
set_option linter.unusedVariables false

set_option maxHeartbeats 1000000 in
theorem turnM_any (x : Int) (k : Nat) (w : World) (hk : 0 < k ∧ k < 32) (hx : U x) :
    Calls Tryd.prog 87 #[.int .u32 x, .int .u64 (k : Int)] w fun e w' => e = .returned (.int .u32 (rotr k x)) ∧ w' = w := by
  have e0 : ((32 : Int) - k).toNat = 32 - k := by omega
  go_enter Tryd.func87, Tryd.ntmps87
  go_wp2
  go_ret
  refine ⟨congrArg (fun y => Ending.returned (.int .u32 y)) ?_, rfl⟩
  unfold rotr wr
  rw [or_comm, IntKind.wrap_u32]

set_option maxRecDepth 20000 in
set_option maxHeartbeats 4000000 in
theorem keysM_any (w : World) : Calls Tryd.prog 88 #[] w fun e w' => e = .returned (.slice (some ⟨w.heap.size, 0, none⟩) 64 64) ∧ w'.heap[w.heap.size]? = some (.cells (keys.map (Value.int .u32)).toArray 113 (0, 0)) ∧ Below w.heap.size w w' := by
  go_enter Tryd.func88, Tryd.ntmps88
  go_wp2
  go_ret
  exact ⟨rfl, heap_alloc_new _ _, (Below.refl _ _).alloc (Nat.le_refl _) _⟩

/-- a state as the model keeps it: eight numbers in a slice -/
def StAt (w : World) (v : Value) (s : St) : Prop := ∃ q cap, v = .slice (some ⟨q, 0, none⟩) 8 cap ∧ ∀ i, i < 8 → w.cell? ⟨q, i, none⟩ = some (.int .i64 (s.nums.getD i 0))
theorem StAt.below {w u : World} {v : Value} {s : St} (h : StAt w v s) (hb : Below w.heap.size w u) : StAt u v s := by
  obtain ⟨q, cap, rfl, hc⟩ := h
  exact ⟨q, cap, rfl, fun i hi => by rw [hb.cell (p := ⟨q, i, none⟩) (block_lt_of_cell (hc i hi))]; exact hc i hi⟩
theorem info85 : (Tryd.prog.info? 113).map (fun i => (i.zero, i.size, i.bytes)) = some (some (.int .u32 0), 1, 4) := by kernel_rfl
theorem info2 : (Tryd.prog.info? 2).map (fun i => (i.zero, i.size, i.bytes)) = some (some (.int .i64 0), 1, 8) := by kernel_rfl
theorem madeRow32 (n : Nat) : madeCells #[Value.int .u32 0] n = (List.replicate n (Value.int .u32 0)).toArray := by
  apply Array.ext
  · simp [madeCells]
  · intro i h1 h2
    simp [madeCells, Nat.mod_one]
theorem keys_at (i : Nat) (h : i < 64) : (keys.map (Value.int .u32)).toArray[i]? = some (.int .u32 (key i)) := by
  simp only [List.getElem?_toArray, List.getElem?_map, key]
  rw [List.getD_eq_getElem?_getD, List.getElem?_eq_getElem (by rw [keys_length]; omega)]
  rfl
theorem make64 (w : World) : (Instr.makeSlice 119 (.int .i64 64) (.int .i64 64)).run Tryd.prog w = .ok (.slice (some ⟨w.heap.size, 0, none⟩) 64 64) (w.alloc (.cells (cells64 []) 113)) := by
  obtain ⟨i0, hi, hz0, hz1, hz2⟩ := info_parts info85
  have h := run_make (P := Tryd.prog) w 119 113 i0 (.int .u32 0) Tryd.underlying119 hi hz0 .i64 .i64 64 64 (by omega) (Int.le_refl _) (by rw [hz2]; omega) (by omega)
  have e : madeCells #[Value.int .u32 0] 64 = cells64 [] := (madeRow32 64).trans (by simp only [cells64, List.nil_append, List.length_nil, Nat.sub_zero, List.map_replicate])
  simpa [hz1, Value.cells, e] using h

theorem add_take (s r : St) : ∀ k, k < 8 → (s.add r).nums.take (k + 1) = (s.add r).nums.take k ++ [sh.wr (s.nums.getD k 0 + r.nums.getD k 0)]
  | 0, _ => rfl | 1, _ => rfl | 2, _ => rfl | 3, _ => rfl | 4, _ => rfl | 5, _ => rfl | 6, _ => rfl | 7, _ => rfl
  | k + 8, h => by omega
theorem grown_cell {u u' : World} {row : Option Nat} {B : Nat} (hg : u.grownBy u' row) (hr : ∀ k, row = some k → B ≤ k) {p : Addr} (hp : p.block < B) (hl : p.block < u.heap.size) : u'.cell? p = u.cell? p :=
  World.cell?_of_block (w := u) (hg.block p.block hl (fun e => by have := hr _ e.symm; omega))
theorem stAt_of_own {u : World} {base : Nat} {v : Value} {s : St} (h : u.ownsRow base 2 1 v 8 ((s.nums.take 8).map (Value.int .i64))) : StAt u v s := by
  obtain ⟨_, ⟨_, h0⟩ | ⟨g, cap, cur, rfl, _, hh, _, _, _, ht⟩⟩ := h
  · cases h0
  · refine ⟨g, cap, rfl, fun i hi => ?_⟩
    rw [cell_of_row _ _ _ _ _ _ hh]
    have e : (cur.toList.take (8 * 1))[i]? = some (.int .i64 (s.nums.getD i 0)) := by
      rw [ht]
      match i, hi with
      | 0, _ => rfl
      | 1, _ => rfl
      | 2, _ => rfl
      | 3, _ => rfl
      | 4, _ => rfl
      | 5, _ => rfl
      | 6, _ => rfl
      | 7, _ => rfl
    rw [List.getElem?_take_of_lt (by omega)] at e
    simpa using e
/-- append onto a row of the call's own, as one step of a region that draws -/
theorem step_append_own {P : Program} {w : World} {ops : Array Oper} {o : Oper} {a : Act} {K : Act → World → Prop} {Q : Exit → Act → World → Prop} {E : Prop} (hgd : o.guard = none) (s x : Operand) (t : TypeId)
    (ho : o.op = .call { callee := .builtin .append, args := #[s, x], argTypes := #[t, t] })
    (base : Nat) (e : TypeId) (i : TypeInfo) (z : Value) (size bytes : Nat) (ht : P.underlying t = some (.slice e)) (hi : P.info? e = some i) (hz : i.zero = some z)
    (hsize : i.size = size) (hby : i.bytes = bytes) (hzs : z.cells.size = size) (hsz : 0 < size)
    (v : Value) (n : Nat) (xs : List Value) (hs : a.eval s = v) (hown : w.ownsRow base e size v n xs)
    (ad : Addr) (m c : Nat) (news : List Value) (hx : a.eval x = .slice (some ad) m c) (hl : news.length = m * size) (hnews : ∀ j u, news[j]? = some u → w.cell? (ad.add j) = some u) (h1 : ∀ u ∈ news, u.oneCell' = true)
    (h63 : n + m ≤ maxLen) (hbytes : (n + m) * bytes ≤ 140737488355328) (hbase : base ≤ w.heap.size)
    (h : ∀ v' w', w'.ownsRow base e size v' (n + m) (xs ++ news) → w.grownBy w' v.ownBlock → (v' = .slice none 0 0 ↔ v = .slice none 0 0 ∧ m = 0) → K (a.put o.dst v') w') :
    if Region.wanted o (yielded ops a.tmps) = true then Oper.wp P o a w K Q else E := by
  rw [if_pos (by simp [Region.wanted, hgd])]
  exact wp_append_own w s x t ho base e i z size bytes ht hi hz hsize hby hzs hsz v n xs hs hown ad m c news hx hl hnews h1 h63 hbytes hbase h

set_option maxRecDepth 20000 in
set_option maxHeartbeats 16000000 in
theorem blockM_any (s : St) (b : ByteArray) (v : Value) (w : World) (hs : s.ok) (hb : b.size = 64) (hv : StAt w v s) :
    Calls Tryd.prog 83 #[v, .string b] w fun e w' => ∃ v', e = .returned v' ∧ StAt w' v' (block s b.data.toList) ∧ Below w.heap.size w w' := by
  have HV : Hid (StAt w v s) := hv
  obtain ⟨q, cap, rfl, hq⟩ := hv
  have hql := block_lt_of_cell (hq 0 (by omega))
  have HQ : Hid (∀ i, i < 8 → w.cell? ⟨q, i, none⟩ = some (.int .i64 (s.nums.getD i 0))) := hq
  clear hq
  have hmk := make64 w
  have HW0 : Hid ((w.alloc (.cells (cells64 []) 113)).heap[w.heap.size]? = some (.cells (cells64 []) 113 (0, 0))) := heap_alloc_new _ _
  have hB0 : Below w.heap.size w (w.alloc (.cells (cells64 []) 113)) := (Below.refl _ _).alloc (Nat.le_refl _) _
  go_enter Tryd.func83, Tryd.ntmps83
  go_wp2
  go_loopw [6] (fun i u => ∃ k : Nat, k ≤ 16 ∧ i = .int .i64 k ∧ Below w.heap.size w u ∧ Hid (u.heap[w.heap.size]? = some (.cells (cells64 (words b.data.toList k)) 113 (0, 0)))) (fun i _ => 16 - (intOf i).toNat)
  case atStart => exact ⟨0, by omega, rfl, hB0, HW0⟩
  case round =>
    clear hB0 HW0 hmk
    obtain ⟨k, hk, rfl, hB, H1⟩ := hrel
    by_cases hlt : k < 16
    · have hc : wr.cell? ⟨w.heap.size, k, none⟩ = some (.int .u32 0) := by
        rw [cell_of_row _ _ _ _ _ _ H1.out, cells64_at _ _ (by omega) (by rw [words_length]; omega), List.getD_eq_getElem?_getD, List.getElem?_eq_none (by rw [words_length]; omega)]; rfl
      have hf : wr.frozen? ⟨w.heap.size, k, none⟩ = false := frozen_of_row _ _ _ _ _ H1.out
      have e0 : IntKind.i64.wrap (4 * (k : Int)) = 4 * (k : Int) := by rw [IntKind.wrap_i64]; omega
      have e1 : IntKind.i64.wrap (4 * (k : Int) + 1) = 4 * (k : Int) + 1 := by rw [IntKind.wrap_i64]; omega
      have e2 : IntKind.i64.wrap (4 * (k : Int) + 2) = 4 * (k : Int) + 2 := by rw [IntKind.wrap_i64]; omega
      have e3 : IntKind.i64.wrap (4 * (k : Int) + 3) = 4 * (k : Int) + 3 := by rw [IntKind.wrap_i64]; omega
      have i0 : 0 ≤ 4 * (k : Int) ∧ 4 * (k : Int) < 64 := by omega
      have i1 : 0 ≤ 4 * (k : Int) + 1 ∧ 4 * (k : Int) + 1 < 64 := by omega
      have i2 : 0 ≤ 4 * (k : Int) + 2 ∧ 4 * (k : Int) + 2 < 64 := by omega
      have i3 : 0 ≤ 4 * (k : Int) + 3 ∧ 4 * (k : Int) + 3 < 64 := by omega
      have HW : Hid (∀ x, x = wordAt b.data.toList k → Below w.heap.size w (wr.setCell ⟨w.heap.size, k, none⟩ (.int .u32 x)).drew ∧ Hid ((wr.setCell ⟨w.heap.size, k, none⟩ (.int .u32 x)).drew.heap[w.heap.size]? = some (.cells (cells64 (words b.data.toList (k + 1))) 113 (0, 0)))) := by
        intro x hx
        refine ⟨(hB.setCell (Nat.le_refl _) _).drew, ?_⟩
        refine (heap_setCell_same _ _ _ _ _ _ H1.out).trans ?_
        rw [words_succ_lo _ _ hlt, ← cells64_set _ _ (by rw [words_length]; omega), words_length, hx]
      have HV' : Hid (wordAt b.data.toList k = bits .or .u32 (bits .or .u32 (bits .or .u32 ((b[4 * k].toNat : Int) % 4294967296 * 16777216 % 4294967296) ((b[4 * k + 1].toNat : Int) % 4294967296 * 65536 % 4294967296)) ((b[4 * k + 2].toNat : Int) % 4294967296 * 256 % 4294967296)) ((b[4 * k + 3].toNat : Int) % 4294967296)) := wordAt_of b k (by omega)
      clear H1
      go_wp2
      go_region
      go_wp2
      go_roundw
      case rel => exact ⟨k + 1, by omega, by go_num, HW.out _ HV'.out.symm⟩
      case measure => simp [intOf]; omega
    · obtain rfl : k = 16 := by omega
      go_wp2
      go_loopw [7, 8, 9] (fun i _ _ u => ∃ j : Nat, j ≤ 48 ∧ i = .int .i64 ((j : Int) + 16) ∧ Below w.heap.size w u ∧ Hid (u.heap[w.heap.size]? = some (.cells (cells64 (words b.data.toList (j + 16))) 113 (0, 0)))) (fun i _ _ _ => 64 - (intOf i).toNat)
      case atStart => exact ⟨0, by omega, rfl, hB, H1⟩
      case round =>
        clear hB H1
        obtain ⟨j, hj, rfl, hB, H1⟩ := hrel
        by_cases hlt : j < 48
        · have hat : ∀ i, i < 64 → wr.cell? ⟨w.heap.size, i, none⟩ = some (.int .u32 ((words b.data.toList (j + 16)).getD i 0)) := fun i hi => by
            rw [cell_of_row _ _ _ _ _ _ H1.out, cells64_at _ _ hi (by rw [words_length]; omega)]
          have hu : ∀ i, U ((words b.data.toList (j + 16)).getD i 0) := word_U _ (words_U _ _)
          have e15 : IntKind.i64.wrap ((j : Int) + 16 - 15) = (j : Int) + 1 := by rw [IntKind.wrap_i64]; omega
          have e2 : IntKind.i64.wrap ((j : Int) + 16 - 2) = (j : Int) + 14 := by rw [IntKind.wrap_i64]; omega
          have e16 : IntKind.i64.wrap ((j : Int) + 16 - 16) = (j : Int) := by rw [IntKind.wrap_i64]; omega
          have e16b : IntKind.i64.wrap (j : Int) = (j : Int) := by rw [IntKind.wrap_i64]; omega
          have e7 : IntKind.i64.wrap ((j : Int) + 16 - 7) = (j : Int) + 9 := by rw [IntKind.wrap_i64]; omega
          have c15 := hat (j + 1) (by omega)
          have c2 := hat (j + 14) (by omega)
          have c16 := hat j (by omega)
          have c7 := hat (j + 9) (by omega)
          have cc := hat (j + 16) (by omega)
          have hf : wr.frozen? ⟨w.heap.size, j + 16, none⟩ = false := frozen_of_row _ _ _ _ _ H1.out
          have hy1 := hu (j + 1)
          have hy2 := hu (j + 14)
          clear hat hu
          have n0 : (0 : Int) ≤ (j : Int) := by omega
          have n1 : (j : Int) < 64 := by omega
          have n2 : (0 : Int) ≤ (j : Int) + 9 := by omega
          have n3 : (j : Int) + 9 < 64 := by omega
          have n4 : (0 : Int) ≤ (j : Int) + 16 := by omega
          have n5 : (j : Int) + 16 < 64 := by omega
          have n6 : ((j : Int) + 9).toNat = j + 9 := by omega
          have n7 : ((j : Int) + 16).toNat = j + 16 := by omega
          have HW : Hid (∀ x, x = next (words b.data.toList (j + 16)) → Below w.heap.size w (wr.setCell ⟨w.heap.size, j + 16, none⟩ (.int .u32 x)).drew ∧ Hid ((wr.setCell ⟨w.heap.size, j + 16, none⟩ (.int .u32 x)).drew.heap[w.heap.size]? = some (.cells (cells64 (words b.data.toList (j + 1 + 16))) 113 (0, 0)))) := by
            intro x hx
            refine ⟨(hB.setCell (Nat.le_refl _) _).drew, ?_⟩
            refine (heap_setCell_same wr _ _ _ _ _ H1.out).trans ?_
            rw [show j + 1 + 16 = (j + 16) + 1 by omega, words_succ_hi _ (j + 16) (by omega), ← cells64_set _ _ (by rw [words_length]; omega), words_length, hx]
          have HN : Hid (next (words b.data.toList (j + 16)) = sh.wr (sh.wr (sh.wr ((words b.data.toList (j + 16)).getD j 0 + s0 ((words b.data.toList (j + 16)).getD (j + 1) 0)) + (words b.data.toList (j + 16)).getD (j + 9) 0) + s1 ((words b.data.toList (j + 16)).getD (j + 14) 0))) := by
            show _ = _
            unfold next
            rw [words_length, show j + 16 - 16 = j by omega, show j + 16 - 15 = j + 1 by omega, show j + 16 - 7 = j + 9 by omega, show j + 16 - 2 = j + 14 by omega]
          clear H1
          generalize (words b.data.toList (j + 16)).getD (j + 1) 0 = y1 at *
          generalize (words b.data.toList (j + 16)).getD (j + 14) 0 = y2 at *
          generalize (words b.data.toList (j + 16)).getD (j + 9) 0 = y3 at *
          generalize (words b.data.toList (j + 16)).getD j 0 = y4 at *
          generalize (words b.data.toList (j + 16)).getD (j + 16) 0 = y5 at *
          have k1 : ∀ v, (wr.setCell ⟨w.heap.size, j + 16, none⟩ v).cell? ⟨w.heap.size, j, none⟩ = some (.int .u32 y4) := fun v => by rw [World.cell?_setCell_other _ _ _ _ (by simp)]; exact c16
          have k2 : ∀ v, (wr.setCell ⟨w.heap.size, j + 16, none⟩ v).cell? ⟨w.heap.size, j + 9, none⟩ = some (.int .u32 y3) := fun v => by rw [World.cell?_setCell_other _ _ _ _ (by simp)]; exact c7
          go_wp2
          go_region_held2 (fun u => u.cell? ⟨w.heap.size, j, none⟩ = some (.int .u32 y4) ∧ u.cell? ⟨w.heap.size, j + 9, none⟩ = some (.int .u32 y3)) (go_keep) (first | (go_at_call 87; refine (turnM_any _ _ _ ⟨by decide, by decide⟩ ‹_›).mono ?_; rintro e w' ⟨rfl, rfl⟩))
          clear k1 k2
          go_wp2
          go_roundw
          case rel =>
            (repeat apply Exists.intro)
            refine ⟨⟨j + 1, by omega, by go_num, HW.out _ ?_⟩, rfl⟩
            rw [HN.out]
            simp only [s0, s1, sh.wr, sh.xor, IntKind.wrap_u32, show ((2 : Int) ^ 3) = 8 by decide, show ((2 : Int) ^ 10) = 1024 by decide]
          case measure => simp [intOf]; omega
        · obtain rfl : j = 48 := by omega
          
          have hus : U s.a ∧ U s.b ∧ U s.c ∧ U s.d ∧ U s.e ∧ U s.f ∧ U s.g ∧ U s.h := hs
          have hat : ∀ i, i < 8 → wr.cell? ⟨q, i, none⟩ = some (.int .i64 (s.nums.getD i 0)) := fun i hi => by rw [hB.cell (p := ⟨q, i, none⟩) hql]; exact HQ.out i hi
          have q0 : wr.cell? ⟨q, 0, none⟩ = some (.int .i64 s.a) := hat 0 (by omega)
          have q1 : wr.cell? ⟨q, 1, none⟩ = some (.int .i64 s.b) := hat 1 (by omega)
          have q2 : wr.cell? ⟨q, 2, none⟩ = some (.int .i64 s.c) := hat 2 (by omega)
          have q3 : wr.cell? ⟨q, 3, none⟩ = some (.int .i64 s.d) := hat 3 (by omega)
          have q4 : wr.cell? ⟨q, 4, none⟩ = some (.int .i64 s.e) := hat 4 (by omega)
          have q5 : wr.cell? ⟨q, 5, none⟩ = some (.int .i64 s.f) := hat 5 (by omega)
          have q6 : wr.cell? ⟨q, 6, none⟩ = some (.int .i64 s.g) := hat 6 (by omega)
          have q7 : wr.cell? ⟨q, 7, none⟩ = some (.int .i64 s.h) := hat 7 (by omega)
          obtain ⟨⟨a0, a1⟩, ⟨b0, b1⟩, ⟨c0, c1⟩, ⟨d0, d1⟩, ⟨e0, e1⟩, ⟨f0, f1⟩, ⟨g0, g1⟩, ⟨h0, h1⟩⟩ := hus
          clear hat
          go_wp2
          go_quiet (fail)
          go_wp2
          go_quiet (fail)
          go_wp2_with fail
          refine calls_world (fun u => Below w.heap.size w u ∧ Hid (u.heap[w.heap.size]? = some (.cells (cells64 (words b.data.toList 64)) 113 (0, 0)))) ⟨below_drewN hB _, H1⟩ ?_
          rintro u0 ⟨hB0, HW0⟩
          refine (keysM_any u0).mono ?_
          rintro e w3 ⟨rfl, hK3, hB3⟩
          have hB' : Below w.heap.size w w3 := hB0.trans (hB3.mono hB0.size)
          have hul := block_lt_of_heap HW0.out
          have HWW : Hid (∀ i, i < 64 → w3.cell? ⟨w.heap.size, i, none⟩ = some (.int .u32 ((words b.data.toList 64).getD i 0))) := fun i hi => by
            rw [cell_of_row _ _ _ _ _ _ ((hB3.block _ hul).trans HW0.out), cells64_at _ _ hi (by rw [words_length]; omega)]
          have HKK : Hid (∀ i, i < 64 → w3.cell? ⟨u0.heap.size, i, none⟩ = some (.int .u32 (key i))) := fun i hi => by
            rw [cell_of_row _ _ _ _ _ _ hK3]; exact keys_at i hi
          have hkl : u0.heap.size < w3.heap.size := block_lt_of_heap hK3
          have HBB : Hid (Below w.heap.size w w3) := hB'
          have hwl' : w.heap.size < w3.heap.size := by omega
          have HWU : Hid (∀ x ∈ words b.data.toList 64, U x) := words_U _ _
          have HBL : Hid (block s b.data.toList = s.add (rounds (words b.data.toList 64) s 64)) := rfl
          clear q0 q1 q2 q3 q4 q5 q6 q7 hB3 hK3 hB0 HW0 hB' hB H1 hul
          generalize words b.data.toList 64 = ws at *
          generalize u0.heap.size = K at *
          go_wp2_with fail
          go_loopw [10, 11, 12, 13, 14, 15, 16, 17, 19, 20, 21] (fun a b1 c d e f g h i _ _ u => ∃ (k : Nat) (r : St), k ≤ 64 ∧ i = .int .i64 k ∧ a = .int .u32 r.a ∧ b1 = .int .u32 r.b ∧ c = .int .u32 r.c ∧ d = .int .u32 r.d ∧ e = .int .u32 r.e ∧ f = .int .u32 r.f ∧ g = .int .u32 r.g ∧ h = .int .u32 r.h ∧ r.ok ∧ Hid (r = rounds ws s k) ∧ Below w3.heap.size w3 u) (fun _ _ _ _ _ _ _ _ i _ _ _ => 64 - (intOf i).toNat)
          case atStart => exact ⟨0, s, by omega, rfl, rfl, rfl, rfl, rfl, rfl, rfl, rfl, rfl, hs, rfl, Below.refl _ _⟩
          case round =>
            obtain ⟨k, r, hk, rfl, rfl, rfl, rfl, rfl, rfl, rfl, rfl, rfl, hr, HR, hB⟩ := hrel
            have hro := hr
            obtain ⟨ra, rb, rc, rd, re, rf, rg, rh⟩ := hro
            by_cases hlt : k < 64
            · have hkc : wr.cell? ⟨K, k, none⟩ = some (.int .u32 (key k)) := by rw [hB.cell (p := ⟨K, k, none⟩) hkl]; exact HKK.out k hlt
              have hwc : wr.cell? ⟨w.heap.size, k, none⟩ = some (.int .u32 (ws.getD k 0)) := by rw [hB.cell (p := ⟨w.heap.size, k, none⟩) hwl']; exact HWW.out k hlt
              have HS : Hid (rounds ws s (k + 1) = r.round (sh.wr (key k + ws.getD k 0))) := by show _ = _; rw [HR.out]; rfl
              have HOK : Hid ((r.round (sh.wr (key k + ws.getD k 0))).ok) := St.round_ok hr _
              have HB : Hid (∀ n, Below w3.heap.size w3 (wr.drewN n)) := fun n => below_drewN hB n
              have n1 : (k : Int) < 64 := by omega
              have n0 : (0 : Int) ≤ (k : Int) := by omega
              generalize key k = y at *
              generalize ws.getD k 0 = x at *
              clear hB
              go_wp2_with fail
              go_quiet ((go_at_call 87; refine Calls.quiet_of_same (turnM_any _ _ _ ⟨by decide, by decide⟩ ‹_›)))
              go_wp2_with (go_at_call 87; refine (turnM_any _ _ _ ⟨by decide, by decide⟩ ‹_›).mono ?_; rintro e w' ⟨rfl, rfl⟩)
              go_roundw
              case rel =>
                refine ⟨k + 1, r.round (sh.wr (y + x)), by omega, by go_num, ?_, rfl, rfl, rfl, ?_, rfl, rfl, rfl, HOK.out, HS.out.symm, HB.out _⟩
                · refine congrArg (Value.int .u32) ?_
                  simp only [St.round, t1, t2, sh.wr, IntKind.wrap_u32, S0, S1, ch, maj, neg, sh.xor, sh.and, show (if IntKind.u32.signed = true then -1 else IntKind.u32.max) = IntKind.u32.max from rfl]
                  omega
                · refine congrArg (Value.int .u32) ?_
                  simp only [St.round, t1, t2, sh.wr, IntKind.wrap_u32, S0, S1, ch, maj, neg, sh.xor, sh.and, show (if IntKind.u32.signed = true then -1 else IntKind.u32.max) = IntKind.u32.max from rfl]
                  omega
              case measure => simp [intOf]; omega
            · obtain rfl : k = 64 := by omega
              have hat : ∀ i, i < 8 → wr.cell? ⟨q, i, none⟩ = some (.int .i64 (s.nums.getD i 0)) := fun i hi => by rw [hB.cell (p := ⟨q, i, none⟩) (by have := HBB.out.size; show q < w3.heap.size; omega), HBB.out.cell (p := ⟨q, i, none⟩) hql]; exact HQ.out i hi
              have HAT : Hid (∀ i, i < 8 → wr.cell? ⟨q, i, none⟩ = some (.int .i64 (s.nums.getD i 0))) := hat
              have hqw : q < wr.heap.size := block_lt_of_cell (hat 0 (by omega))
              have HBW : Hid (Below w.heap.size w wr) := HBB.out.trans (hB.mono HBB.out.size)
              clear hat hB
              go_wp2
              refine wp_world (fun u => Hid (Below w.heap.size w u) ∧ Hid (∀ i, i < 8 → u.cell? ⟨q, i, none⟩ = some (.int .i64 (s.nums.getD i 0))) ∧ Hid (∀ i, i < 8 → u.cell? ⟨wr.heap.size, i, none⟩ = some (.int .u32 (r.nums.getD i 0))) ∧ u.heap[wr.heap.size + 1]? = some (.cells #[] 2 (0, 0))) ⟨(HBW.out.alloc HBW.out.size _).alloc (((HBW.out.alloc HBW.out.size _)).size) _, fun i hi => ?_, fun i hi => ?_, heap_alloc2_new _ _ _⟩ ?_
              · rw [World.cell?_alloc_lt _ _ _ (by simp; omega), World.cell?_alloc_lt _ _ _ (by simpa using hqw)]; exact HAT.out i hi
              · rw [cell_of_row _ _ _ _ _ _ (heap_alloc2_old _ _ _)]
                match i, hi with
                | 0, _ => rfl | 1, _ => rfl | 2, _ => rfl | 3, _ => rfl | 4, _ => rfl | 5, _ => rfl | 6, _ => rfl | 7, _ => rfl
              rintro w5 ⟨HB5, HQ5, HV5, h5⟩
              have hl5 := block_lt_of_heap h5
              obtain ⟨i0, hi, hz0, hz1, hz2⟩ := info_parts info2
              have HADD : Hid (block s b.data.toList = s.add r) := by show _ = _; rw [HBL.out, HR.out]
              have hVl : w.heap.size ≤ wr.heap.size := HBW.out.size
              generalize wr.heap.size = V at *
              have ho5 : w5.ownsRow (V + 1) 2 1 (.slice (some ⟨V + 1, 0, none⟩) 0 0) 0 (((s.add r).nums.take 0).map (Value.int .i64)) := ⟨rfl, Or.inr ⟨V + 1, 0, #[], rfl, Nat.le_refl _, h5, Nat.le_refl _, Nat.zero_le _, rfl, rfl⟩⟩
              clear h5
              go_loopw [23, 24] (fun vv i u => ∃ k : Nat, k ≤ 8 ∧ i = .int .i64 k ∧ u.ownsRow (V + 1) 2 1 vv k (((s.add r).nums.take k).map (Value.int .i64)) ∧ Below (V + 1) w5 u) (fun _ i _ => 8 - (intOf i).toNat)
              case atStart => exact ⟨0, by omega, rfl, ho5, Below.refl _ _⟩
              case round =>
                clear ho5
                obtain ⟨k, hk, rfl, hown, hB⟩ := hrel
                by_cases hlt : k < 8
                · have hqV : q < V + 1 := by omega
                  have hcq : wr.cell? ⟨q, k, none⟩ = some (.int .i64 (s.nums.getD k 0)) := by rw [hB.cell (p := ⟨q, k, none⟩) hqV]; exact HQ5.out k hlt
                  have hcv : wr.cell? ⟨V, k, none⟩ = some (.int .u32 (r.nums.getD k 0)) := by rw [hB.cell (p := ⟨V, k, none⟩) (Nat.lt_succ_self V)]; exact HV5.out k hlt
                  obtain ⟨x0, x1⟩ := nums_U hs k hlt
                  obtain ⟨y0, y1⟩ := nums_U hr k hlt
                  have HT' : Hid ((s.add r).nums.take (k + 1) = (s.add r).nums.take k ++ [sh.wr (s.nums.getD k 0 + r.nums.getD k 0)]) := add_take s r k hlt
                  have HO := own_base hown
                  have n1 : (k : Int) < 8 := by omega
                  have n0 : (0 : Int) ≤ (k : Int) := by omega
                  generalize s.nums.getD k 0 = x at *
                  generalize r.nums.getD k 0 = y at *
                  have hbs : V + 1 < wr.heap.size := by have := hB.size; omega
                  have w1q := World.new_ne wr ⟨q, k, none⟩ hcq
                  have w1v := World.new_ne wr ⟨V, k, none⟩ hcv
                  go_wp2_with fail
                  go_region_held2 (fun u => u.cell? ⟨q, k, none⟩ = some (.int .i64 x) ∧ u.cell? ⟨V, k, none⟩ = some (.int .u32 y)) (go_keep) ((refine step_append_own rfl (.tmp 220) (.tmp 232) 110 rfl (V + 1) 2 i0 (.int .i64 0) 1 8 Tryd.underlying110 hi hz0 hz1 hz2 rfl (by decide) _ _ _ rfl ((show World.ownsRow wr.drew _ _ _ _ _ _ from hown).alloc _) ⟨wr.heap.size, 0, none⟩ 1 1 [_] rfl rfl (cell_one_new _ _ _) (fun x hx => by simp at hx; subst hx; rfl) (by unfold maxLen; omega) (by omega) (by simp; omega) ?_; intro v' w6 hown' hgrow _; have sq : w6.cell? ⟨q, k, none⟩ = some (.int .i64 x) := (grown_cell hgrow HO.out (p := ⟨q, k, none⟩) hqV (by simp; omega)).trans (by go_keep); have sv : w6.cell? ⟨V, k, none⟩ = some (.int .u32 y) := (grown_cell hgrow HO.out (p := ⟨V, k, none⟩) (Nat.lt_succ_self V) (by simp; omega)).trans (by go_keep)))
                  have HO2 : Hid _ := hown'
                  have HB2 : Hid (Below (V + 1) w5 w6) := (hB.drew.alloc (by show V + 1 ≤ wr.heap.size; omega) _).grown hgrow (by simp; omega) HO.out
                  clear hown' hgrow sq sv w1q w1v
                  go_wp2
                  go_roundw
                  case rel =>
                    (repeat apply Exists.intro)
                    refine ⟨⟨k + 1, by omega, by go_num, ?_, HB2.out⟩, rfl⟩
                    have ev : IntKind.i64.wrap (IntKind.u32.wrap (IntKind.u32.wrap x + y)) = sh.wr (x + y) := by
                      unfold sh.wr; simp only [IntKind.wrap_u32, IntKind.wrap_i64]; omega
                    rw [HT'.out, List.map_append]
                    show World.ownsRow _ _ _ _ _ _ (((s.add r).nums.take k).map (Value.int .i64) ++ [.int .i64 (sh.wr (x + y))])
                    rw [← ev]
                    exact HO2.out
                  case measure => simp [intOf]; omega
                · obtain rfl : k = 8 := by omega
                  have hst := stAt_of_own hown
                  rw [← HADD.out] at hst
                  have HST : Hid _ := hst
                  clear hst
                  have HBE : Hid (Below w.heap.size w wr) := HB5.out.trans (hB.mono (by omega))
                  clear hown hB
                  go_wp2
                  go_ret
                  exact ⟨_, rfl, HST.out, HBE.out⟩
end Go.Proofs.YtcfekhahibklfaaDoor.sh
