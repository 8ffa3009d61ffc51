/-
  The program's write: a text is taken into a hash at work, block by block; nothing else of what was there turns.
  The program's told: the eight numbers of a hash at work as 32 bytes; no old block turns. Beside it: rows of bytes that a call makes and turns into a text.
-/
import Derived.Test.YtcfekhahibklfaaDoorShaMix
import Derived.Laws.BytesArg
namespace Go.Proofs.YtcfekhahibklfaaDoor.sh
open Go.ChangeShapes Go.WideShapes Go.ChangeAt Go.RowKit
set_option linter.unusedVariables false

theorem cells10 {w : World} {p : Nat} {s : St} {rest : ByteArray} {size : Int} (h : At w p s rest size) :
    w.cell? ⟨p, 8, none⟩ = some (.string rest) ∧ w.cell? ⟨p, 9, none⟩ = some (.int .u64 size) ∧ (∀ j, w.frozen? ⟨p, j, none⟩ = false) := by
  unfold At at h
  refine ⟨by simp [World.cell?, h], by simp [World.cell?, h], fun j => ?_⟩
  simp [World.frozen?, h]
theorem At.rest {w : World} {p : Nat} {s : St} {rest : ByteArray} {size : Int} (h : At w p s rest size) (r : ByteArray) : At (w.setCell ⟨p, 8, none⟩ (.string r)) p s r size := by
  have h1 := heap_setCell_same w p 8 _ _ (.string r) h
  unfold At
  simpa only [List.setIfInBounds_toArray, List.set_cons_zero, List.set_cons_succ] using h1
theorem At.size {w : World} {p : Nat} {s : St} {rest : ByteArray} {size : Int} (h : At w p s rest size) (n : Int) : At (w.setCell ⟨p, 9, none⟩ (.int .u64 n)) p s rest n := by
  have h1 := heap_setCell_same w p 9 _ _ (.int .u64 n) h
  unfold At
  simpa only [List.setIfInBounds_toArray, List.set_cons_zero, List.set_cons_succ] using h1
theorem gtrans {w u u2 : World} {p : Nat} (h : w.grownBy u (some p)) (hg : u.grownBy u2 (some p)) : w.grownBy u2 (some p) :=
  ⟨hg.os.trans h.os, hg.tape.trans h.tape, hg.output.trans h.output, Nat.le_trans h.size hg.size, fun k hk hne =>
    (hg.block k (Nat.lt_of_lt_of_le hk h.size) hne).trans (h.block k hk hne)⟩
/-- how long the text in a cell is -/
def sizeIn : Option Value → Nat
  | some (.string r) => r.size
  | _ => 0

set_option maxRecDepth 20000 in
set_option maxHeartbeats 8000000 in
theorem write_any (s : St) (rest : ByteArray) (size : Int) (p : Nat) (t : ByteArray) (w : World) (hs : s.ok) (hr : rest.size ≤ 1000000) (h0 : 0 ≤ size) (h1 : size ≤ 1000000) (hl : t.size ≤ 1000000) (hp : At w p s rest size) (ht : Tab w) (hg : 0 < p) :
    Calls Tryd.prog 77 #[.pointer (some ⟨p, 0, none⟩), .string t] w fun e w' => e = .returned (.tuple #[]) ∧ (∃ (s' : St) (r' : ByteArray), s'.ok ∧ (s', r'.data.toList) = take s (rest.data.toList ++ t.data.toList) ∧ At w' p s' r' (size + t.size)) ∧ w.grownBy w' (some p) := by
  obtain ⟨c8, c9, hf⟩ := cells10 hp
  have f8 := hf 8
  have f9 := hf 9
  have HP : Hid (At w p s rest size) := hp
  clear hp hf
  go_enter Tryd.func77, Tryd.ntmps77
  go_wp2
  refine wp_world (fun u => At u p s (rest ++ t) (size + t.size) ∧ w.grownBy u (some p)) ⟨(HP.out.size _).rest _, gset (gset (World.grownBy.refl _ _) _ _) _ _⟩ ?_
  rintro u ⟨hA, hG⟩
  clear c8 c9 f8 f9
  go_loopw [22] (fun _ u => ∃ (s' : St) (r' : ByteArray), s'.ok ∧ Hid (take s' r'.data.toList = take s (rest.data.toList ++ t.data.toList)) ∧ r'.size ≤ 2000000 ∧ Hid (At u p s' r' (size + t.size)) ∧ Hid (w.grownBy u (some p))) (fun _ u => sizeIn (u.cell? ⟨p, 8, none⟩))
  case atStart => exact ⟨s, rest ++ t, hs, by show _ = _; simp, by simp; omega, hA, hG⟩
  case round =>
    clear hA hG
    obtain ⟨s', r', hs', HT', hr', HA, HG⟩ := hrel
    obtain ⟨c8, c9, hf⟩ := cells10 HA.out
    have f8 := hf 8
    clear hf c9
    by_cases hlt : 64 ≤ r'.size
    · have hex : (r'.extract 0 64).size = 64 := by simp; omega
      have HTB : Hid (Tab wr) := ht.grown HG.out hg
      have hZ : sizeIn (wr.cell? ⟨p, 8, none⟩) = r'.size := by rw [c8]; rfl
      go_wp2
      go_region_with (go_at_call 84; refine (mix_any s' r' (size + t.size) p _ wr.drew hs' hex HA.out HTB.out hg).mono ?_; rintro e w2 ⟨rfl, hA2, hG2⟩; have HA2 : Hid (At w2 p (block s' (r'.extract 0 64).data.toList) r' (size + t.size)) := hA2; have HG2 : Hid (wr.drew.grownBy w2 (some p)) := hG2; clear c8 f8 hA2 hG2; obtain ⟨c8, c9, hf⟩ := cells10 HA2.out; have f8 := hf 8; clear hf c9)
      all_goals
        have HA3 : Hid (At (w2.setCell ⟨p, 8, none⟩ (.string (r'.extract 64 r'.size))) p (block s' (r'.extract 0 64).data.toList) (r'.extract 64 r'.size) (size + t.size)) := HA2.out.rest _
        have HG3 : Hid (w.grownBy (w2.setCell ⟨p, 8, none⟩ (.string (r'.extract 64 r'.size))) (some p)) := gset (gtrans (gdrew1 HG.out) HG2.out) _ _
        have HE : Hid (take (block s' (r'.extract 0 64).data.toList) (r'.extract 64 r'.size).data.toList = take s (rest.data.toList ++ t.data.toList)) := by
          show _ = _
          rw [← HT'.out, take_ge (s := s') (l := r'.data.toList) (by simpa using hlt)]
          simp only [ByteArray.data_extract, Array.toList_extract, List.extract_eq_take_drop, Nat.sub_zero, List.drop_zero]
          rw [List.take_of_length_le (l := List.drop 64 r'.data.toList) (by simp)]
        go_wp2
        go_roundw
        case rel => exact ⟨_, _, block_ok _ _, HE, by simp; omega, HA3, HG3⟩
        case measure =>
          rw [hZ, (cells10 HA3.out).1]
          simp [sizeIn]; omega
    · go_wp2
      go_end0
      refine ⟨rfl, ⟨s', r', hs', ?_, HA.out⟩, HG.out⟩
      rw [← HT'.out, take_lt (by simpa using hlt)]
end Go.Proofs.YtcfekhahibklfaaDoor.sh

namespace Go.Proofs.YtcfekhahibklfaaDoor.sh
open Go.ChangeShapes Go.WideShapes Go.ChangeAt Go.RowKit
set_option linter.unusedVariables false

theorem info5 : (Tryd.prog.info? 5).map (fun i => (i.zero, i.size, i.bytes)) = some (some (.int .u8 0), 1, 1) := by kernel_rfl
theorem conv_owned {w : World} {base : Nat} {v : Value} {n : Nat} {xs : List Int} (h : w.ownsRow base 5 1 v n (xs.map (Value.int .u8))) :
    (convert 22 9 v).run Tryd.prog w = .ok (.string (strOfNums xs)) w := by
  obtain ⟨hl, ⟨rfl, rfl⟩ | ⟨g, cap, cur, rfl, hg, hh, h1, h2, h3, h4⟩⟩ := h
  · have : xs = [] := by
      apply List.eq_nil_of_length_eq_zero
      simpa using hl
    subst this
    exact run_convert_bytes_nil (P := Tryd.prog) w 22 5 Tryd.underlying22 Tryd.underlying5 0 0 9 Tryd.underlying9
  · have hlen : xs.length = n := by simpa using hl
    refine run_convert_bytes_arg (P := Tryd.prog) w 22 5 Tryd.underlying22 Tryd.underlying5 g 0 n cap xs hlen (fun i hi => ?_) 9 Tryd.underlying9
    have hc : (cur.toList.take (n * 1))[i]? = some (Value.int .u8 (xs.getD i 0)) := by
      rw [h4, List.getElem?_map, List.getElem?_eq_getElem (by omega)]
      simp [List.getD, List.getElem?_eq_getElem (show i < xs.length by omega)]
    rw [List.getElem?_take_of_lt (by omega)] at hc
    simp [World.cell?, hh]
    simpa using hc
theorem own_base {w : World} {base : Nat} {e : TypeId} {size : Nat} {v : Value} {n : Nat} {xs : List Value} (h : w.ownsRow base e size v n xs) : Hid (∀ k, v.ownBlock = some k → base ≤ k) := by
  show ∀ k, v.ownBlock = some k → base ≤ k
  obtain ⟨_, ⟨rfl, _⟩ | ⟨g, cap, cur, rfl, hg, _⟩⟩ := h
  · intro k hk; simp [Value.ownBlock] at hk
  · intro k hk; simp [Value.ownBlock] at hk; omega
/-- The four cells of a block that has just been laid. -/
theorem cell_four_new (w : World) (a b c d : Value) (t : TypeId) : ∀ j u, [a, b, c, d][j]? = some u → (w.alloc (.cells #[a, b, c, d] t)).cell? ((⟨w.heap.size, 0, none⟩ : Addr).add j) = some u := by
  intro j u hj
  match j, hj with
  | 0, hj => simp at hj; subst hj; simp [Addr.add]
  | 1, hj => simp at hj; subst hj; simp [Addr.add]
  | 2, hj => simp at hj; subst hj; simp [Addr.add]
  | 3, hj => simp at hj; subst hj; simp [Addr.add]
  | j + 4, hj => simp at hj

/-- a number's four bytes, as numbers -/
def tellN (x : Int) : List Int := [x / 16777216 % 256, x / 65536 % 256, x / 256 % 256, x % 256]
theorem tellN_bytes (x : Int) : (tellN x).map (fun n => UInt8.ofNat n.toNat) = tell4 x := by
  simp [tellN, tell4, byteOf, IntKind.wrap_u8]
def toldN (s : St) (k : Nat) : List Int := (s.nums.take k).flatMap tellN
theorem toldN_length (s : St) : ∀ k, k ≤ 8 → (toldN s k).length = 4 * k
  | 0, _ => rfl | 1, _ => rfl | 2, _ => rfl | 3, _ => rfl | 4, _ => rfl | 5, _ => rfl | 6, _ => rfl | 7, _ => rfl | 8, _ => rfl
  | k + 9, h => by omega
theorem toldN_succ (s : St) : ∀ k, k < 8 → toldN s (k + 1) = toldN s k ++ tellN (s.nums.getD k 0)
  | 0, _ => rfl | 1, _ => rfl | 2, _ => rfl | 3, _ => rfl | 4, _ => rfl | 5, _ => rfl | 6, _ => rfl | 7, _ => rfl
  | k + 8, h => by omega
theorem toldN_all (s : St) : strOfNums (toldN s 8) = ⟨(told s).toArray⟩ := by
  unfold strOfNums toldN told
  have : s.nums.take 8 = s.nums := rfl
  rw [this, List.map_flatMap]
  simp only [tellN_bytes]
theorem ret_str {a b : ByteArray} (h : a = b) : Ending.returned (.string a) = .returned (.string b) := by rw [h]
theorem nums_U {s : St} (h : s.ok) : ∀ k, k < 8 → U (s.nums.getD k 0) := by
  obtain ⟨a, b, c, d, e, f, g, hh⟩ := h
  intro k hk
  match k, hk with
  | 0, _ => exact a
  | 1, _ => exact b
  | 2, _ => exact c
  | 3, _ => exact d
  | 4, _ => exact e
  | 5, _ => exact f
  | 6, _ => exact g
  | 7, _ => exact hh

set_option maxRecDepth 20000 in
set_option maxHeartbeats 4000000 in
theorem told_any (s : St) (rest : ByteArray) (size : Int) (p : Nat) (w : World) (hs : s.ok) (hp : At w p s rest size) :
    Calls Tryd.prog 85 #[.pointer (some ⟨p, 0, none⟩)] w fun e w' => e = .returned (.string ⟨(told s).toArray⟩) ∧ Below w.heap.size w w' := by
  obtain ⟨i0, hi, hz0, hz1, hz2⟩ := info_parts info5
  have hpl := hp.lt
  have HP : Hid (At w p s rest size) := hp
  clear hp
  go_enter Tryd.func85, Tryd.ntmps85
  go_wp2
  go_loopw [3, 5, 7] (fun v _ i u => ∃ k : Nat, k ≤ 8 ∧ i = .int .i64 k ∧ u.ownsRow w.heap.size 5 1 v (4 * k) ((toldN s k).map (Value.int .u8)) ∧ Below w.heap.size w u) (fun _ _ i _ => 8 - (intOf i).toNat)
  case atStart => exact ⟨0, by omega, rfl, World.ownsRow_nil _ _ _ _, Below.refl _ _⟩
  case round =>
    obtain ⟨k, hk, rfl, hown, hB⟩ := hrel
    have hbs : w.heap.size ≤ wr.heap.size := hB.size
    have HO := own_base hown
    by_cases hlt : k < 8
    · have hc : wr.cell? ⟨p, k, none⟩ = some (.int .u32 (s.nums.getD k 0)) := by
        rw [cell_of_row _ _ _ _ _ _ (HP.out.below hB hpl)]
        match k, hlt with
        | 0, _ => rfl | 1, _ => rfl | 2, _ => rfl | 3, _ => rfl | 4, _ => rfl | 5, _ => rfl | 6, _ => rfl | 7, _ => rfl
      obtain ⟨x0, x1⟩ := nums_U hs k hlt
      have HT := toldN_succ s k hlt
      have HT' : Hid (toldN s (k + 1) = toldN s k ++ tellN (s.nums.getD k 0)) := HT
      clear HT
      generalize s.nums.getD k 0 = x at *
      go_wp2_with (at_builtin; go_must (refine wpList_append_own _ rfl _ _ 22 rfl w.heap.size 5 i0 (.int .u8 0) 1 1 Tryd.underlying22 hi hz0 hz1 hz2 rfl (by decide) _ _ _ rfl (hown.alloc _) ⟨wr.heap.size, 0, none⟩ 4 4 [_, _, _, _] rfl rfl (cell_four_new _ _ _ _ _ _) (fun x hx => by simp at hx; rcases hx with rfl | rfl | rfl | rfl <;> rfl) (by unfold maxLen; omega) (by omega) (by simp; omega) ?_))
      intro v' w1 hown' hgrow _
      have HO2 : Hid _ := hown'
      have HB2 : Hid (Below w.heap.size w w1) := (hB.alloc hbs _).grown hgrow (by simp; omega) HO.out
      clear hown' hgrow
      go_wp2
      go_roundw
      case rel =>
        refine ⟨k + 1, by omega, by go_num, ?_, HB2.out⟩
        have e0 : x / 16777216 % 256 = x / 16777216 := by omega
        rw [HT'.out, List.map_append, show 4 * (k + 1) = 4 * k + 4 by omega]
        show World.ownsRow _ _ _ _ _ _ ((toldN s k).map (Value.int .u8) ++ [.int .u8 (x / 16777216 % 256), .int .u8 (x / 65536 % 256), .int .u8 (x / 256 % 256), .int .u8 (x % 256)])
        rw [e0]
        exact HO2.out
      case measure => simp [intOf]; omega
    · obtain rfl : k = 8 := by omega
      have hconv := conv_owned hown
      go_wp2
      go_ret
      exact ⟨ret_str (toldN_all s), hB⟩
end Go.Proofs.YtcfekhahibklfaaDoor.sh
