/-
  The program's blanks and fitted: so many blanks in a row of their own; a row cut, or filled with blanks. No condition but the sizes.
-/
import Derived.Test.YtikkohecanmefaaRep1
import Derived.Lib.BufferWrite
import Derived.Lib.AppendStr
namespace Go.Proofs.Ytikkohecanmefaa.rp
open Go.ChangeShapes Go.WideShapes Go.ChangeAt Go.RowKit
open Go.Lib
open Sem Builtin
set_option linter.unusedVariables false
set_option linter.unusedSimpArgs false

/-- copy of a text into a row that is known whole: as much of it as there is room -/
theorem run_copy_text {P : Program} (w : World) (dT sT ty elem : TypeId) (g o dLen dCap k : Nat) (s : ByteArray) (cur : Array Value) (t : TypeId)
    (hu : P.underlying dT = some (.slice elem)) (hs : (P.info? elem).map (·.size) = some 1) (hg : w.heap[g]? = some (.cells cur t (0, 0))) (hk : Nat.min s.size dLen = k) (hfit : o + k ≤ cur.size) :
    (Builtin.copy_ #[dT, sT] ty #[.slice (some ⟨g, o, none⟩) dLen dCap, .string s]).run P w =
      .ok (goInt k) (w.setRow g (cur.toList.take o ++ byteCells (s.data.toList.take k) ++ cur.toList.drop (o + k)).toArray) := by
  have hks : k ≤ s.size := by rw [← hk]; exact Nat.min_le_left _ _
  have hlen : (byteCells (s.data.toList.take k)).length = k := by simp [byteCells]; omega
  have hst := run_storeCells_at P g o t (byteCells (s.data.toList.take k)) 0 cur w hg (by rw [hlen]; simpa using hfit) (byteCells_one _)
  have htk : List.take k (List.map (fun b : UInt8 => Value.int IntKind.u8 (b.toNat : Int)) s.data.toList) = byteCells (s.data.toList.take k) := by
    rw [← List.map_take]
    rfl
  rw [hlen] at hst
  simp only [Nat.add_zero] at hst
  cases hq : P.info? elem with
  | none => simp [hq] at hs
  | some i =>
    simp [Builtin.copy_, run_underlying hu, Builtin.lenOf, Builtin.firstCells, sizeOf, typeInfo, hq, hk]
    rw [htk, hst]
    simp [Result.andThen]
theorem wpList_copy_text {P : Program} {w : World} {ops : Array Oper} {rest : List Oper} {o : Oper} {a : Act} {Q : Exit → Act → World → Prop} (hgd : o.guard = none) (d s : Operand) (dT sT : TypeId)
    (ho : o.op = .call { callee := .builtin .copy, args := #[d, s], argTypes := #[dT, sT] }) (elem : TypeId) (hu : P.underlying dT = some (.slice elem)) (hsz : (P.info? elem).map (·.size) = some 1)
    (dLen dCap k : Nat) (t : ByteArray) (g off : Nat) (hd : a.eval d = .slice (some ⟨g, off, none⟩) dLen dCap) (hs : a.eval s = .string t)
    (cur : List Value) (et : TypeId) (hg : w.heap[g]? = some (.cells cur.toArray et (0, 0))) (hk : Nat.min t.size dLen = k) (hfit : off + k ≤ cur.length) (B : Nat) (w0 : World) (hb : Below B w0 w) (hBg : B ≤ g)
    (h : ∀ w', Hid (w'.heap[g]? = some (.cells (splice cur off (byteCells (t.data.toList.take k))).toArray et (0, 0))) → Below B w0 w' → wpList P ops Q rest (a.put o.dst (goInt k)) w') :
    wpList P ops Q (o :: rest) a w := by
  refine wpList_plain hgd fun K hK => ?_
  have hrun := run_copy_text (P := P) w dT sT o.type elem g off dLen dCap k t cur.toArray et hu hsz hg hk (by simpa using hfit)
  unfold Oper.wp
  simp only [execOp, ho, resolve, invoke, builtin, Sem.run_bind, Sem.run_pure, Result.andThen_ok, List.map_toArray, List.map_cons, List.map_nil, hd, hs, hrun]
  refine hK _ _ (h _ (show _ = _ from ?_) (below_setRow hb hBg _))
  rw [setRow_heap w g _ _ et _ hg]
  have hks : k ≤ t.size := by rw [← hk]; exact Nat.min_le_left _ _
  have hz : (byteCells (t.data.toList.take k)).length = k := by simp [byteCells]; omega
  unfold splice
  rw [hz]
  simp

/-- a row cut, or filled with blanks -/
def fitL (row : ByteArray) (n : Nat) : List UInt8 := row.data.toList.take n ++ List.replicate (n - row.size) 32
def fitB (row : ByteArray) (n : Nat) : ByteArray := ⟨(fitL row n).toArray⟩
theorem fitL_length (row : ByteArray) (n : Nat) : (fitL row n).length = n := by
  have : row.data.toList.length = row.size := by simp
  simp [fitL]; omega
theorem fit_cell {row : ByteArray} {n k : Nat} {cs : List Value} (hk : Nat.min row.size n = k) (hn : n ≤ cs.length) (ht : cs.take n = blk n) {j : Nat} (hj : j < n) :
    (splice cs 0 (byteCells (row.data.toList.take k)))[j]? = ((fitL row n)[j]?).map fun b => Value.int .u8 (b.toNat : Int) := by
  have hks : k ≤ row.size := by rw [← hk]; exact Nat.min_le_left _ _
  have hkn : k ≤ n := by rw [← hk]; exact Nat.min_le_right _ _
  have hl : row.data.toList.length = row.size := by simp
  have hz : (byteCells (row.data.toList.take k)).length = k := by simp [byteCells]; omega
  unfold splice fitL
  rw [hz, List.take_zero, List.nil_append, Nat.zero_add]
  by_cases hj2 : j < k
  · rw [List.getElem?_append_left (by rw [hz]; exact hj2), List.getElem?_append_left (by rw [List.length_take]; omega)]
    unfold byteCells
    rw [List.getElem?_map, List.getElem?_take_of_lt hj2, List.getElem?_take_of_lt hj]
  · have hrn : k = row.size := by
      rcases Nat.le_total row.size n with h | h
      · exact hk.symm.trans (Nat.min_eq_left h)
      · have : k = n := hk.symm.trans (Nat.min_eq_right h)
        omega
    rw [List.getElem?_append_right (by rw [hz]; omega), hz, List.getElem?_drop, List.getElem?_append_right (by rw [List.length_take]; omega)]
    have e2 : k + (j - k) = j := by omega
    rw [e2]
    have hc : cs[j]? = some (.int .u8 32) := by
      have := congrArg (fun z => z[j]?) ht
      simp only [List.getElem?_take_of_lt hj] at this
      rw [this]; unfold blk; rw [List.getElem?_replicate, if_pos hj]
    rw [hc, List.getElem?_replicate, if_pos (by rw [List.length_take]; omega)]
    rfl
theorem fitB_size (row : ByteArray) (n : Nat) : (fitB row n).size = n := by
  show (fitL row n).toArray.size = n
  rw [List.size_toArray, fitL_length]
set_option maxRecDepth 20000 in
set_option maxHeartbeats 4000000 in
theorem blanks_any (n : Nat) (w : World) (h1 : 1 ≤ n) (h2 : n ≤ 20) :
    Calls Try.prog 72 #[.int .i64 (n : Int)] w fun r w' => ∃ g, r = .returned (.slice (some ⟨g, 0, none⟩) n n) ∧ w.heap.size ≤ g ∧ Blank w' g n ∧ Below w.heap.size w w' := by
  have hr := repeat_any n w.heap.size 1 (w.alloc (.cells #[.int .u8 32] 5)) h1 h2 (by rw [World.cell?, heap_alloc_new]; rfl)
  have HB : Hid (Below w.heap.size w (w.alloc (.cells #[.int .u8 32] 5))) := (Below.refl _ _).alloc (Nat.le_refl _) _
  go_enter Try.func72, Try.ntmps72
  go_wp2_with (go_at_call 81; fail)
  refine hr.mono ?_
  rintro r w1 ⟨g, rfl, hg, hbk, hb1⟩
  have HB1 : Hid (Below w.heap.size w w1) := HB.out.trans (hb1.mono HB.out.size)
  have hg' : w.heap.size ≤ g := Nat.le_trans HB.out.size hg
  have HK : Hid (Blank w1 g n) := hbk
  clear hr hb1 hbk hg HB
  go_wp2
  go_ret
  exact ⟨g, rfl, hg', HK.out, HB1.out⟩
set_option maxRecDepth 20000 in
set_option maxHeartbeats 4000000 in
theorem fitted_any (row : ByteArray) (n : Nat) (w : World) (h1 : 1 ≤ n) (h2 : n ≤ 20) (hr : row.size ≤ maxLen) :
    Calls Try.prog 62 #[.string row, .int .i64 (n : Int)] w fun r w' => r = .returned (.string (fitB row n)) ∧ Below w.heap.size w w' := by
  go_enter Try.func62, Try.ntmps62
  go_wp2_with (go_at_call 72; fail)
  refine (blanks_any n w h1 h2).mono ?_
  rintro r w1 ⟨g, rfl, hg, ⟨cs, hcs, hn, ht⟩, hb1⟩
  obtain ⟨k, hk⟩ : ∃ k, Nat.min row.size n = k := ⟨_, rfl⟩
  have hkn : k ≤ n := by rw [← hk]; exact Nat.min_le_right _ _
  have HC : Hid (∀ u : World, u.heap[g]? = some (.cells (splice cs 0 (byteCells (row.data.toList.take k))).toArray 5 (0, 0)) → (convert 83 9 (.slice (some ⟨g, 0, none⟩) n n)).run Try.prog u = .ok (.string (fitB row n)) u) := fun u hu => by
    have hb := run_convert_bytes_back (P := Try.prog) u 83 9 5 ⟨g, 0, none⟩ n (fitL row n) Try.underlying83 Try.underlying5 Try.underlying9 (fun j hj => by
      have hjn : j < n := by rw [fitL_length] at hj; exact hj
      have e : (⟨g, 0, none⟩ : Addr).add j = ⟨g, j, none⟩ := by unfold Addr.add; split <;> simp_all
      rw [e, World.cell?, hu]
      have := fit_cell hk hn ht hjn
      rw [List.getElem?_eq_getElem hj] at this
      simpa using this)
    rw [fitL_length] at hb
    exact hb
  go_wp2_with (refine wpList_copy_text rfl (.tmp 8) (.tmp 9) 83 9 rfl 5 Try.underlying83 info5 n n k row g 0 rfl rfl cs 5 hcs hk (by omega) w.heap.size w hb1 hg ?_; intro w2 HG2 hB2; have hcv := HC.out w2 HG2.out; have HB2 : Hid (Below w.heap.size w w2) := hB2; clear hB2 HG2 HC)
  go_ret
  exact ⟨rfl, HB2.out⟩
end Go.Proofs.Ytikkohecanmefaa.rp
