/-
  A key of a mac, filled up to 64 bytes and turned by a byte: the program's function and the model's hand back the plain function's text; no old block turns.
-/
import Derived.Test.YtcfekhahibklfaaDoorShaPlain
import Derived.Laws.CopyOwn
import Derived.Laws.IdiomStrings
import Derived.Lib.BufferWrite
import Derived.WalkSpells
import Derived.WalkSmall
namespace Go.Proofs.YtcfekhahibklfaaDoor.sh
open Go.ChangeShapes Go.WideShapes Go.ChangeAt Go.RowKit
open Go.Lib (byteCells)
set_option linter.unusedVariables false

theorem info5p : (Tryd.prog.info? 5).map (fun i => (i.zero, i.size, i.bytes)) = some (some (.int .u8 0), 1, 1) := by kernel_rfl
theorem madeRow (n : Nat) : madeCells #[Value.int .u8 0] n = (List.replicate n (Value.int .u8 0)).toArray := by
  apply Array.ext
  · simp [madeCells]
  · intro i h1 h2
    simp [madeCells, Nat.mod_one]
theorem row_cells {w : World} {g : Nat} {l : List UInt8} {e : TypeId} (h : w.heap[g]? = some (.cells (byteCells l).toArray e (0, 0))) (j : Nat) (hj : j < l.length) :
    w.cell? ((⟨g, 0, none⟩ : Addr).add j) = some (.int .u8 (l[j].toNat : Int)) := by
  have e : (⟨g, 0, none⟩ : Addr).add j = ⟨g, j, none⟩ := by unfold Addr.add; split <;> simp_all
  rw [e]
  simp [World.cell?, h, byteCells, hj]

/-- 'copy(out[off:], t)' from a text, out a row that is known whole -/
theorem wpList_copy_string {P : Program} {w : World} {ops : Array Oper} {rest : List Oper} {o : Oper} {a : Act} {Q : Exit → Act → World → Prop} (hgd : o.guard = none) (d s : Operand) (dT sT : TypeId)
    (ho : o.op = .call { callee := .builtin .copy, args := #[d, s], argTypes := #[dT, sT] }) (elem : TypeId) (hu : P.underlying dT = some (.slice elem)) (hsz : (P.info? elem).map (·.size) = some 1)
    (dp : Option Addr) (dLen dCap : Nat) (t : ByteArray) (hd : a.eval d = .slice dp dLen dCap) (hs : a.eval s = .string t)
    (g off : Nat) (cur : List Value) (et : TypeId) (hg : w.heap[g]? = some (.cells cur.toArray et (0, 0))) (hn : t.size ≤ dLen)
    (hpos : 0 < t.size → dp = some ⟨g, off, none⟩) (hfit : off + t.size ≤ cur.length) (B : Nat) (w0 : World) (hb : Below B w0 w) (hBg : B ≤ g)
    (h : ∀ w', Hid (w'.heap[g]? = some (.cells (splice cur off (byteCells t.data.toList)).toArray et (0, 0))) → Below B w0 w' → wpList P ops Q rest (a.put o.dst (goInt t.size)) w') :
    wpList P ops Q (o :: rest) a w := by
  have hz : (byteCells t.data.toList).length = t.size := by simp [byteCells]
  by_cases h0 : t.size = 0
  · refine wpList_plain hgd fun K hK => ?_
    have hrun := Lib.run_copy_empty_string (P := P) w dT sT o.type elem dp dLen dCap t hu (by cases hq : P.info? elem <;> simp [hq] at hsz ⊢) h0
    unfold Oper.wp
    simp [execOp, ho, resolve, invoke, builtin, hd, hs, hrun, Result.andThen]
    rw [h0] at h
    refine hK _ _ (h w (show _ = _ from ?_) hb)
    have e : byteCells t.data.toList = [] := List.eq_nil_of_length_eq_zero (by omega)
    rw [e, hg]; simp [splice]
  · obtain rfl := hpos (by omega)
    refine wpList_plain hgd fun K hK => ?_
    have hrun := Lib.run_copy_row_string (P := P) w dT sT o.type elem g off dLen dCap t cur.toArray et hu hsz hg hn (by simpa using hfit)
    unfold Oper.wp
    simp [execOp, ho, resolve, invoke, builtin, hd, hs, hrun, Result.andThen]
    refine hK _ _ (h _ (show _ = _ from ?_) (below_setRow hb hBg _))
    rw [setRow_heap w g _ _ et _ hg]
    simp [splice, hz]

theorem info5 : (Tryd.prog.info? 5).map (fun i => (i.zero, i.size, i.bytes)) = some (some (.int .u8 0), 1, 1) := by kernel_rfl


/-- 64 bytes of a key, the first k turned -/
def padB (key : List UInt8) (m : UInt8) (k : Nat) : List UInt8 := (List.range 64).map fun i => if i < k then key.getD i 0 ^^^ m else key.getD i 0
def padS (key : List UInt8) (m : UInt8) : ByteArray := ⟨(padB key m 64).toArray⟩
theorem padB_length (key : List UInt8) (m : UInt8) (k : Nat) : (padB key m k).length = 64 := by simp [padB]
theorem padS_size (key : List UInt8) (m : UInt8) : (padS key m).size = 64 := by simp [padS, ByteArray.size, padB_length]
theorem padB_get (key : List UInt8) (m : UInt8) (k i : Nat) (h : i < 64) : (padB key m k)[i]? = some (if i < k then key.getD i 0 ^^^ m else key.getD i 0) := by
  simp [padB, List.getElem?_range h]
theorem pad_at (key : List UInt8) (m : UInt8) (k : Nat) (h : k < 64) : (byteCells (padB key m k)).toArray[k]? = some (.int .u8 ((key.getD k 0).toNat : Int)) := by
  simp only [byteCells, List.getElem?_toArray, List.getElem?_map, padB_get key m k k h]
  simp
theorem xor_u8 (b m : UInt8) : bits BinOp.xor IntKind.u8 (b.toNat : Int) (m.toNat : Int) = (((b ^^^ m).toNat : Nat) : Int) := by
  have hb := b.toNat_lt
  have hm := m.toNat_lt
  rw [u8_xor _ _ (by omega) (by omega) (by omega) (by omega)]
  simp
theorem pad_set (key : List UInt8) (m : UInt8) (k : Nat) (h : k < 64) : (byteCells (padB key m k)).toArray.setIfInBounds k (.int .u8 (bits BinOp.xor IntKind.u8 ((key.getD k 0).toNat : Int) (m.toNat : Int))) = (byteCells (padB key m (k + 1))).toArray := by
  rw [xor_u8, List.setIfInBounds_toArray]
  congr 1
  apply List.ext_getElem?
  intro i
  rw [List.getElem?_set]
  simp only [byteCells, List.getElem?_map, List.length_map, padB_length]
  by_cases hi : i < 64
  · rw [padB_get key m _ i hi, padB_get key m _ i hi]
    by_cases hk : k = i
    · subst hk; simp [h]
    · simp only [hk, if_false, Option.map_some]
      by_cases hik : i < k
      · simp [hik, show i < k + 1 by omega]
      · simp [hik, show ¬ i < k + 1 by omega]
  · rw [List.getElem?_eq_none (by rw [padB_length]; omega), List.getElem?_eq_none (by rw [padB_length]; omega)]
    have : ¬ k = i := by omega
    simp [this]
theorem pad_copy (key : ByteArray) (m : UInt8) (h : key.size ≤ 64) : splice (List.replicate 64 (Value.int .u8 0)) 0 (byteCells key.data.toList) = byteCells (padB key.data.toList m 0) := by
  have hl : (byteCells key.data.toList).length = key.size := by simp [byteCells]
  apply List.ext_getElem?
  intro i
  unfold splice
  rw [List.take_zero, List.nil_append, Nat.zero_add]
  by_cases hi : i < 64
  · have e : (byteCells (padB key.data.toList m 0))[i]? = some (.int .u8 ((key.data.toList.getD i 0).toNat : Int)) := by
      simp only [byteCells, List.getElem?_map, padB_get key.data.toList m 0 i hi]
      simp
    rw [e]
    by_cases hk : i < key.size
    · rw [List.getElem?_append_left (by omega)]
      simp [byteCells, hk, List.getD_eq_getElem?_getD]
    · rw [List.getElem?_append_right (by omega), hl, List.getElem?_drop, List.getElem?_replicate, if_pos (by omega), List.getD_eq_getElem?_getD, List.getElem?_eq_none (by simpa using hk)]
      rfl
  · rw [List.getElem?_eq_none (by simp [hl]; omega), List.getElem?_eq_none (by simp [byteCells, padB_length]; omega)]

set_option maxRecDepth 20000 in
set_option maxHeartbeats 4000000 in
theorem masked_any (key : ByteArray) (m : UInt8) (mi : Int) (w : World) (hk : key.size ≤ 64) (hm : mi = (m.toNat : Int)) :
    Calls Tryd.prog 62 #[.string key, .int .u8 mi] w fun e w' => e = .returned (.string (padS key.data.toList m)) ∧ Below w.heap.size w w' := by
  obtain ⟨i0, hi, hz0, hz1, hz2⟩ := info_parts info5p
  have hmk : (Instr.makeSlice 22 (.int .i64 64) (.int .i64 64)).run Tryd.prog w = .ok (.slice (some ⟨w.heap.size, 0, none⟩) 64 64) (w.alloc (.cells (List.replicate 64 (.int .u8 0)).toArray 5)) := by
    have h := run_make (P := Tryd.prog) w 22 5 i0 (.int .u8 0) Tryd.underlying22 hi hz0 .i64 .i64 64 64 (by omega) (Int.le_refl _) (by rw [hz2]; omega) (by omega)
    rw [← madeRow]
    simpa [hz1, Value.cells] using h
  have HR0 : Hid ((w.alloc (.cells (List.replicate 64 (.int .u8 0)).toArray 5)).heap[w.heap.size]? = some (.cells (List.replicate 64 (.int .u8 0)).toArray 5 (0, 0))) := heap_alloc_new _ _
  have hB0 : Below w.heap.size w (w.alloc (.cells (List.replicate 64 (.int .u8 0)).toArray 5)) := (Below.refl _ _).alloc (Nat.le_refl _) _
  go_enter Tryd.func62, Tryd.ntmps62
  go_wp2_with (refine wpList_copy_string rfl _ _ 22 9 rfl 5 Tryd.underlying22 (by kernel_rfl) _ _ _ _ rfl rfl w.heap.size 0 (List.replicate 64 (.int .u8 0)) 5 HR0.out ?_ ?_ ?_ w.heap.size w hB0 (Nat.le_refl _) ?_)
  all_goals first | omega | (simp; omega) | (intro _; rfl) | skip
  intro w1 HG0 hB1
  have HG1 : Hid (w1.heap[w.heap.size]? = some (.cells (byteCells (padB key.data.toList m 0)).toArray 5 (0, 0))) := HG0.out.trans (congrArg (fun l => some (Obj.cells (List.toArray l) 5 (0, 0))) (pad_copy key m hk))
  clear HG0
  clear hmk HR0 hB0
  go_wp2
  go_loopw [6, 13] (fun _ i u => ∃ k : Nat, k ≤ 64 ∧ i = .int .i64 k ∧ Below w.heap.size w u ∧ Hid (u.heap[w.heap.size]? = some (.cells (byteCells (padB key.data.toList m k)).toArray 5 (0, 0)))) (fun _ i _ => 64 - (intOf i).toNat)
  case atStart => exact ⟨0, by omega, rfl, hB1, HG1⟩
  case round =>
    clear hB1 HG1
    obtain ⟨k, hk', rfl, hB, HR⟩ := hrel
    by_cases hlt : k < 64
    · have hc : wr.cell? ⟨w.heap.size, k, none⟩ = some (.int .u8 ((key.data.toList.getD k 0).toNat : Int)) := by
        rw [cell_of_row _ _ _ _ _ _ HR.out]; exact pad_at _ _ _ hlt
      have hf : wr.frozen? ⟨w.heap.size, k, none⟩ = false := frozen_of_row _ _ _ _ _ HR.out
      have HX : Hid (∀ x, x = bits .xor .u8 ((key.data.toList.getD k 0).toNat : Int) mi → (wr.setCell ⟨w.heap.size, k, none⟩ (.int .u8 x)).heap[w.heap.size]? = some (.cells (byteCells (padB key.data.toList m (k + 1))).toArray 5 (0, 0))) := by
        intro x hx
        refine (heap_setCell_same wr _ _ _ _ _ HR.out).trans ?_
        rw [hx, hm, pad_set _ _ _ hlt]
      have HB : Hid (∀ x, Below w.heap.size w (wr.setCell ⟨w.heap.size, k, none⟩ x)) := fun x => hB.setCell (Nat.le_refl _) x
      have hb0 : (0 : Int) ≤ ((key.data.toList.getD k 0).toNat : Int) := by omega
      have hb1 : ((key.data.toList.getD k 0).toNat : Int) ≤ 255 := by have := (key.data.toList.getD k 0).toNat_lt; omega
      generalize ((key.data.toList.getD k 0).toNat : Int) = y at *
      clear HR
      go_wp2
      go_roundw
      case rel => exact ⟨k + 1, by omega, by go_num, HB.out _, HX.out _ (by first | rfl | rw [hm])⟩
      case measure => simp [intOf]; omega
    · obtain rfl : k = 64 := by omega
      have hconv : (convert 22 9 (.slice (some ⟨w.heap.size, 0, none⟩) 64 64)).run Tryd.prog wr = .ok (.string (padS key.data.toList m)) wr := by
        have h := run_convert_bytes_back (P := Tryd.prog) wr 22 9 5 ⟨w.heap.size, 0, none⟩ 64 (padB key.data.toList m 64) Tryd.underlying22 Tryd.underlying5 Tryd.underlying9 (fun j hj => row_cells HR.out j hj)
        rw [padB_length] at h
        exact h
      go_wp2
      go_ret
      exact ⟨rfl, hB⟩

set_option maxRecDepth 20000 in
set_option maxHeartbeats 4000000 in
theorem padM_any (key : ByteArray) (m : UInt8) (mi : Int) (w : World) (hk : key.size ≤ 64) (hm : mi = (m.toNat : Int)) :
    Calls Tryd.prog 74 #[.string key, .int .u8 mi] w fun e w' => e = .returned (.string (padS key.data.toList m)) ∧ Below w.heap.size w w' := by
  obtain ⟨i0, hi, hz0, hz1, hz2⟩ := info_parts info5p
  have hmk : (Instr.makeSlice 22 (.int .i64 64) (.int .i64 64)).run Tryd.prog w = .ok (.slice (some ⟨w.heap.size, 0, none⟩) 64 64) (w.alloc (.cells (List.replicate 64 (.int .u8 0)).toArray 5)) := by
    have h := run_make (P := Tryd.prog) w 22 5 i0 (.int .u8 0) Tryd.underlying22 hi hz0 .i64 .i64 64 64 (by omega) (Int.le_refl _) (by rw [hz2]; omega) (by omega)
    rw [← madeRow]
    simpa [hz1, Value.cells] using h
  have HR0 : Hid ((w.alloc (.cells (List.replicate 64 (.int .u8 0)).toArray 5)).heap[w.heap.size]? = some (.cells (List.replicate 64 (.int .u8 0)).toArray 5 (0, 0))) := heap_alloc_new _ _
  have hB0 : Below w.heap.size w (w.alloc (.cells (List.replicate 64 (.int .u8 0)).toArray 5)) := (Below.refl _ _).alloc (Nat.le_refl _) _
  go_enter Tryd.func74, Tryd.ntmps74
  go_wp2_with (refine wpList_copy_string rfl _ _ 22 9 rfl 5 Tryd.underlying22 (by kernel_rfl) _ _ _ _ rfl rfl w.heap.size 0 (List.replicate 64 (.int .u8 0)) 5 HR0.out ?_ ?_ ?_ w.heap.size w hB0 (Nat.le_refl _) ?_)
  all_goals first | omega | (simp; omega) | (intro _; rfl) | skip
  intro w1 HG0 hB1
  have HG1 : Hid (w1.heap[w.heap.size]? = some (.cells (byteCells (padB key.data.toList m 0)).toArray 5 (0, 0))) := HG0.out.trans (congrArg (fun l => some (Obj.cells (List.toArray l) 5 (0, 0))) (pad_copy key m hk))
  clear HG0
  clear hmk HR0 hB0
  go_wp2
  go_loopw [6] (fun i u => ∃ k : Nat, k ≤ 64 ∧ i = .int .i64 k ∧ Below w.heap.size w u ∧ Hid (u.heap[w.heap.size]? = some (.cells (byteCells (padB key.data.toList m k)).toArray 5 (0, 0)))) (fun i _ => 64 - (intOf i).toNat)
  case atStart => exact ⟨0, by omega, rfl, hB1, HG1⟩
  case round =>
    clear hB1 HG1
    obtain ⟨k, hk', rfl, hB, HR⟩ := hrel
    by_cases hlt : k < 64
    · have hc : wr.cell? ⟨w.heap.size, k, none⟩ = some (.int .u8 ((key.data.toList.getD k 0).toNat : Int)) := by
        rw [cell_of_row _ _ _ _ _ _ HR.out]; exact pad_at _ _ _ hlt
      have hf : wr.frozen? ⟨w.heap.size, k, none⟩ = false := frozen_of_row _ _ _ _ _ HR.out
      have HX : Hid (∀ x, x = bits .xor .u8 ((key.data.toList.getD k 0).toNat : Int) mi → (wr.setCell ⟨w.heap.size, k, none⟩ (.int .u8 x)).heap[w.heap.size]? = some (.cells (byteCells (padB key.data.toList m (k + 1))).toArray 5 (0, 0))) := by
        intro x hx
        refine (heap_setCell_same wr _ _ _ _ _ HR.out).trans ?_
        rw [hx, hm, pad_set _ _ _ hlt]
      have HB : Hid (∀ x, Below w.heap.size w (wr.setCell ⟨w.heap.size, k, none⟩ x)) := fun x => hB.setCell (Nat.le_refl _) x
      have hb0 : (0 : Int) ≤ ((key.data.toList.getD k 0).toNat : Int) := by omega
      have hb1 : ((key.data.toList.getD k 0).toNat : Int) ≤ 255 := by have := (key.data.toList.getD k 0).toNat_lt; omega
      generalize ((key.data.toList.getD k 0).toNat : Int) = y at *
      clear HR
      go_wp2
      go_roundw
      case rel => exact ⟨k + 1, by omega, by go_num, HB.out _, HX.out _ (by first | rfl | rw [hm])⟩
      case measure => simp [intOf]; omega
    · obtain rfl : k = 64 := by omega
      have hconv : (convert 22 9 (.slice (some ⟨w.heap.size, 0, none⟩) 64 64)).run Tryd.prog wr = .ok (.string (padS key.data.toList m)) wr := by
        have h := run_convert_bytes_back (P := Tryd.prog) wr 22 9 5 ⟨w.heap.size, 0, none⟩ 64 (padB key.data.toList m 64) Tryd.underlying22 Tryd.underlying5 Tryd.underlying9 (fun j hj => row_cells HR.out j hj)
        rw [padB_length] at h
        exact h
      go_wp2
      go_ret
      exact ⟨rfl, hB⟩
end Go.Proofs.YtcfekhahibklfaaDoor.sh
