/-
  What 'joined' hands back: the texts that it is given, one behind the other, in new memory; no old block turns. Condition: they have at most 2^40 bytes together.
-/
import Derived.Test.YtndjjhcdnlkekaaDoorRows
import Derived.WalkKit
import Derived.ProofKit
import Derived.OpenShut
import Derived.ShutString
import Derived.WalkLawsBesides
import Derived.Laws.CopyOwn
import Derived.Laws.IdiomStrings
import Derived.Lib.BufferWrite
import Derived.WalkSpells
namespace Go.Proofs.YtndjjhcdnlkekaaDoor.jo
open Go.ChangeShapes Go.WideShapes Go.ChangeAt Go.RowKit
open Go.Lib (byteCells)
set_option linter.unusedVariables false

def total (ss : List ByteArray) : Nat := (ss.map ByteArray.size).sum
def bytesOf (ss : List ByteArray) : List UInt8 := ss.flatMap (fun s => s.data.toList)
def joinB (ss : List ByteArray) : ByteArray := ⟨(bytesOf ss).toArray⟩
theorem total_append (a b : List ByteArray) : total (a ++ b) = total a + total b := by simp [total]
theorem total_one (s : ByteArray) : total [s] = s.size := by simp [total]
theorem bytesOf_append (a b : List ByteArray) : bytesOf (a ++ b) = bytesOf a ++ bytesOf b := by simp [bytesOf]
theorem bytesOf_one (s : ByteArray) : bytesOf [s] = s.data.toList := by simp [bytesOf]
theorem bytesOf_length (ss : List ByteArray) : (bytesOf ss).length = total ss := by
  induction ss with
  | nil => rfl
  | cons s ss ih =>
    rw [show s :: ss = [s] ++ ss from rfl, bytesOf_append, total_append, List.length_append, ih, bytesOf_one, total_one]
    rfl
theorem total_take_succ (ss : List ByteArray) (k : Nat) (h : k < ss.length) : total (ss.take (k + 1)) = total (ss.take k) + ss[k].size := by
  rw [List.take_succ_eq_append_getElem h, total_append, total_one]
theorem bytesOf_take_succ (ss : List ByteArray) (k : Nat) (h : k < ss.length) : bytesOf (ss.take (k + 1)) = bytesOf (ss.take k) ++ ss[k].data.toList := by
  rw [List.take_succ_eq_append_getElem h, bytesOf_append, bytesOf_one]
theorem total_take_le (ss : List ByteArray) (k : Nat) : total (ss.take k) ≤ total ss := by
  have h : total (ss.take k ++ ss.drop k) = total ss := by rw [List.take_append_drop]
  rw [total_append] at h
  omega
/-- the row when k texts have been laid -/
def rowAt (ss : List ByteArray) (k : Nat) : List Value := byteCells (bytesOf (ss.take k)) ++ List.replicate (total ss - total (ss.take k)) (.int .u8 0)
theorem rowAt_length (ss : List ByteArray) (k : Nat) : (rowAt ss k).length = total ss := by
  have := total_take_le ss k
  simp [rowAt, byteCells, bytesOf_length]; omega
theorem madeRow (n : Nat) : madeCells #[Value.int .u8 0] n = (List.replicate n (Value.int .u8 0)).toArray := by
  apply Array.ext
  · simp [madeCells]
  · intro i h1 h2
    simp [madeCells, Nat.mod_one]
theorem rowAt_zero (ss : List ByteArray) : rowAt ss 0 = List.replicate (total ss) (.int .u8 0) := by
  simp [rowAt, bytesOf, byteCells, total]
theorem rowAt_succ (ss : List ByteArray) (k : Nat) (h : k < ss.length) : splice (rowAt ss k) (total (ss.take k)) (byteCells ss[k].data.toList) = rowAt ss (k + 1) := by
  have h1 := total_take_le ss (k + 1)
  have h2 := total_take_succ ss k h
  have hl : (byteCells (bytesOf (ss.take k))).length = total (ss.take k) := by simp [byteCells, bytesOf_length]
  have hz : (byteCells ss[k].data.toList).length = ss[k].size := by simp [byteCells]
  unfold splice rowAt
  rw [List.take_append_of_le_length (by omega), List.take_of_length_le (by omega), List.drop_append, hl, hz, List.drop_of_length_le (by omega), List.drop_replicate, bytesOf_take_succ ss k h]
  simp only [byteCells, List.map_append, List.append_assoc, List.nil_append]
  congr 3
  omega
theorem rowAt_end (ss : List ByteArray) (k : Nat) (h : ss.length ≤ k) : rowAt ss k = byteCells (bytesOf ss) := by
  simp [rowAt, List.take_of_length_le h]

theorem row_cells {w : World} {g : Nat} {l : List UInt8} {e : TypeId} (h : w.heap[g]? = some (.cells (byteCells l).toArray e (0, 0))) (j : Nat) (hj : j < l.length) :
    w.cell? ((⟨g, 0, none⟩ : Addr).add j) = some (.int .u8 (l[j].toNat : Int)) := by
  have e : (⟨g, 0, none⟩ : Addr).add j = ⟨g, j, none⟩ := by unfold Addr.add; split <;> simp_all
  rw [e]
  simp [World.cell?, h, byteCells, hj]

/-- 'copy(out[off:], t)' from a text, out a row that is known whole -/
theorem wpList_copy_string {P : Program} {w : World} {ops : Array Oper} {rest : List Oper} {o : Oper} {a : Act} {Q : Exit → Act → World → Prop} (hgd : o.guard = none) (d s : Operand) (dT sT : TypeId)
    (ho : o.op = .call { callee := .builtin .copy, args := #[d, s], argTypes := #[dT, sT] }) (elem : TypeId) (hu : P.underlying dT = some (.slice elem)) (hsz : (P.info? elem).map (·.size) = some 1)
    (dp : Option Addr) (dLen dCap : Nat) (t : ByteArray) (hd : a.eval d = .slice dp dLen dCap) (hs : a.eval s = .string t)
    (g off : Nat) (cur : List Value) (et : TypeId) (hg : w.heap[g]? = some (.cells cur.toArray et (0, 0))) (hn : t.size ≤ dLen)
    (hpos : 0 < t.size → dp = some ⟨g, off, none⟩) (hfit : off + t.size ≤ cur.length) (B : Nat) (w0 : World) (hb : Below B w0 w) (hBg : B ≤ g)
    (h : ∀ w', Hid (w'.heap[g]? = some (.cells (splice cur off (byteCells t.data.toList)).toArray et (0, 0))) → Below B w0 w' → wpList P ops Q rest (a.put o.dst (goInt t.size)) w') :
    wpList P ops Q (o :: rest) a w := by
  have hz : (byteCells t.data.toList).length = t.size := by simp [byteCells]
  by_cases h0 : t.size = 0
  · refine wpList_plain hgd fun K hK => ?_
    have hrun := Lib.run_copy_empty_string (P := P) w dT sT o.type elem dp dLen dCap t hu (by cases hq : P.info? elem <;> simp [hq] at hsz ⊢) h0
    unfold Oper.wp
    simp [execOp, ho, resolve, invoke, builtin, hd, hs, hrun, Result.andThen]
    rw [h0] at h
    refine hK _ _ (h w (show _ = _ from ?_) hb)
    have e : byteCells t.data.toList = [] := List.eq_nil_of_length_eq_zero (by omega)
    rw [e, hg]; simp [splice]
  · obtain rfl := hpos (by omega)
    refine wpList_plain hgd fun K hK => ?_
    have hrun := Lib.run_copy_row_string (P := P) w dT sT o.type elem g off dLen dCap t cur.toArray et hu hsz hg hn (by simpa using hfit)
    unfold Oper.wp
    simp [execOp, ho, resolve, invoke, builtin, hd, hs, hrun, Result.andThen]
    refine hK _ _ (h _ (show _ = _ from ?_) (below_setRow hb hBg _))
    rw [setRow_heap w g _ _ et _ hg]
    simp [splice, hz]

theorem info5 : (Tryd.prog.info? 5).map (fun i => (i.zero, i.size, i.bytes)) = some (some (.int .u8 0), 1, 1) := by kernel_rfl

set_option maxHeartbeats 1000000 in
theorem joined_any (ss : List ByteArray) (b cap : Nat) (w : World) (hb : b < w.heap.size) (hn : ss.length ≤ 1000000) (htot : total ss ≤ 1099511627776)
    (hc : ∀ i (h : i < ss.length), w.cell? ⟨b, i, none⟩ = some (.string ss[i])) :
    Calls Tryd.prog 38 #[.slice (some ⟨b, 0, none⟩) ss.length cap] w fun e w' => e = .returned (.string (joinB ss)) ∧ Below w.heap.size w w' := by
  obtain ⟨i0, hi, hz0, hz1, hz2⟩ := info_parts info5
  have hmk : ∀ u : World, (Instr.makeSlice 78 (.int .i64 (total ss : Int)) (.int .i64 (total ss : Int))).run Tryd.prog u =
      .ok (.slice (some ⟨u.heap.size, 0, none⟩) (total ss) (total ss)) (u.alloc (.cells (rowAt ss 0).toArray 5)) := fun u => by
    have h := run_make (P := Tryd.prog) u 78 5 i0 (.int .u8 0) Tryd.underlying78 hi hz0 .i64 .i64 (total ss : Int) (total ss : Int) (by omega) (Int.le_refl _) (by rw [hz2]; omega) (by omega)
    rw [rowAt_zero, ← madeRow]
    simpa [hz1, Value.cells] using h
  have HB : Hid (∀ i (h : i < ss.length), w.cell? ⟨b, i, none⟩ = some (.string ss[i])) := hc
  clear hc
  go_enter Tryd.func38, Tryd.ntmps38
  go_wp2
  go_loop [3, 5, 12] (fun t p i => ∃ k : Nat, k ≤ ss.length ∧ i = .int .i64 k ∧ t = .int .i64 (total (ss.take k))) (fun _ _ i => ss.length - (intOf i).toNat)
  case atStart => exact ⟨0, Nat.zero_le _, rfl, rfl⟩
  case round =>
    obtain ⟨k, hk, rfl, rfl⟩ := hrel
    have hle := total_take_le ss k
    by_cases hlt : k < ss.length
    · have hcell := HB.out k hlt
      have hle1 := total_take_le ss (k + 1)
      have HT : Hid (total (ss.take (k + 1)) = total (ss.take k) + ss[k].size) := total_take_succ ss k hlt
      have hsz : total (ss.take k) + ss[k].size ≤ 1099511627776 := by have := HT.out; omega
      clear hle1
      go_wp2
      go_round
      case rel => exact ⟨k + 1, by omega, by go_num, by rw [HT.out]; go_num⟩
      case measure => simp [intOf]; omega
    · have hke : k = ss.length := by omega
      subst hke
      have HE : Hid (total (ss.take ss.length) = total ss) := by show _ = _; rw [List.take_length]
      rw [HE.out]
      have HS : Hid (total ss ≤ 1099511627776) := htot
      go_wp2
      go_loopw [7, 9, 25] (fun t p i wr => ∃ k : Nat, k ≤ ss.length ∧ i = .int .i64 k ∧ t = .int .i64 (total (ss.take k)) ∧ Below w.heap.size w wr ∧ Hid (wr.heap[w.heap.size]? = some (.cells (rowAt ss k).toArray 5 (0, 0)))) (fun _ _ i _ => ss.length - (intOf i).toNat)
      case atStart => exact ⟨0, Nat.zero_le _, rfl, rfl, (Below.refl _ _).alloc (Nat.le_refl _) _, by show _ = _; exact heap_alloc_new _ _⟩
      case round =>
        obtain ⟨k, hk, rfl, rfl, hB, HR⟩ := hrel
        have hle := total_take_le ss k
        by_cases hlt : k < ss.length
        · have hcell : wr.cell? ⟨b, k, none⟩ = some (.string ss[k]) := by rw [hB.cell (p := ⟨b, k, none⟩) hb]; exact HB.out k hlt
          have hle1 := total_take_le ss (k + 1)
          have HT : Hid (total (ss.take (k + 1)) = total (ss.take k) + ss[k].size) := total_take_succ ss k hlt
          have hsz : total (ss.take k) + ss[k].size ≤ total ss := by have := HT.out; omega
          clear hle1
          by_cases hcut : total (ss.take k) < total ss
          · go_wp2_with (refine wpList_copy_string rfl (.tmp 32) (.tmp 33) 78 9 rfl 5 Tryd.underlying78 (by kernel_rfl) _ _ _ _ rfl rfl w.heap.size (total (ss.take k)) (rowAt ss k) 5 HR.out ?_ ?_ ?_ w.heap.size w hB (Nat.le_refl _) ?_)
            all_goals first | omega | (rw [rowAt_length]; omega) | skip
            intro w2 HG2 hB2
            rw [rowAt_succ ss k hlt] at HG2
            go_wp2
            go_roundw
            case rel => exact ⟨k + 1, by omega, by go_num, by rw [HT.out]; go_num, hB2, HG2⟩
            case measure => simp [intOf]; omega
          · have hs0 : ss[k].size = 0 := by omega
            have hcut' : total ss ≤ total (ss.take k) := by omega
            clear hcut
            go_wp2_with (refine wpList_copy_string rfl (.tmp 32) (.tmp 33) 78 9 rfl 5 Tryd.underlying78 (by kernel_rfl) _ _ _ _ rfl rfl w.heap.size (total (ss.take k)) (rowAt ss k) 5 HR.out ?_ ?_ ?_ w.heap.size w hB (Nat.le_refl _) ?_)
            all_goals first | omega | (rw [rowAt_length]; omega) | (intro hp; omega) | skip
            intro w2 HG2 hB2
            rw [rowAt_succ ss k hlt] at HG2
            clear hs0
            go_wp2
            go_roundw
            case rel => exact ⟨k + 1, by omega, by go_num, by rw [HT.out]; go_num, hB2, HG2⟩
            case measure => simp [intOf]; omega
        · have hke : k = ss.length := by omega
          subst hke
          have hconv : (convert 78 9 (.slice (some ⟨w.heap.size, 0, none⟩) (total ss) (total ss))).run Tryd.prog wr = .ok (.string (joinB ss)) wr := by
            have h := run_convert_bytes_back (P := Tryd.prog) wr 78 9 5 ⟨w.heap.size, 0, none⟩ (total ss) (bytesOf ss) Tryd.underlying78 Tryd.underlying5 Tryd.underlying9 (fun j hj => by
              have hr := HR.out
              rw [rowAt_end ss _ (Nat.le_refl _)] at hr
              exact row_cells hr j hj)
            rw [bytesOf_length] at h
            exact h
          go_wp2
          go_ret
          exact ⟨rfl, hB⟩

theorem joinB_one (s : ByteArray) : joinB [s] = s := by simp [joinB, bytesOf]
theorem joinB_two (s t : ByteArray) : joinB [s, t] = s ++ t := by
  apply ByteArray.ext
  simp [joinB, bytesOf]

theorem joined1 (s : ByteArray) (u : World) (h : s.size ≤ 1099511627776) :
    Calls Tryd.prog 38 #[.slice (some ⟨u.heap.size, 0, none⟩) 1 1] (u.alloc (.cells #[.string s] 9)) fun e w' => e = .returned (.string s) ∧ Below u.heap.size u w' := by
  refine (joined_any [s] u.heap.size 1 (u.alloc (.cells #[.string s] 9)) (by simp) (by simp) (by rw [total_one]; omega) (fun i hi => ?_)).mono ?_
  · match i, hi with
    | 0, _ => simp
  · rintro e w' ⟨rfl, hb⟩
    rw [joinB_one]
    exact ⟨rfl, ((Below.refl _ _).alloc (Nat.le_refl _) _).trans (hb.mono (by simp))⟩

theorem joined2 (s t : ByteArray) (u : World) (h : s.size + t.size ≤ 1099511627776) :
    Calls Tryd.prog 38 #[.slice (some ⟨u.heap.size, 0, none⟩) 2 2] (u.alloc (.cells #[.string s, .string t] 9)) fun e w' => e = .returned (.string (s ++ t)) ∧ Below u.heap.size u w' := by
  refine (joined_any [s, t] u.heap.size 2 (u.alloc (.cells #[.string s, .string t] 9)) (by simp) (by simp) (by rw [show [s, t] = [s] ++ [t] from rfl, total_append, total_one, total_one]; omega) (fun i hi => ?_)).mono ?_
  · match i, hi with
    | 0, _ => simp
    | 1, _ => simp
  · rintro e w' ⟨rfl, hb⟩
    rw [joinB_two]
    exact ⟨rfl, ((Below.refl _ _).alloc (Nat.le_refl _) _).trans (hb.mono (by simp))⟩
end Go.Proofs.YtndjjhcdnlkekaaDoor.jo
