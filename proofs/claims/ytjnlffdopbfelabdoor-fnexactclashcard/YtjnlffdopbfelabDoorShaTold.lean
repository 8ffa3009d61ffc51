/-
  The program's told: the eight numbers of a hash at work as 32 bytes; no old block turns. Beside it: rows of bytes that a call makes and turns into a text.
-/
import Derived.Test.YtjnlffdopbfelabDoorShaWrite
import Derived.Laws.BytesArg
namespace Go.Proofs.YtjnlffdopbfelabDoor.sh
open Go.ChangeShapes Go.WideShapes Go.ChangeAt Go.RowKit
set_option linter.unusedVariables false

theorem info5 : (Tryd.prog.info? 5).map (fun i => (i.zero, i.size, i.bytes)) = some (some (.int .u8 0), 1, 1) := by kernel_rfl
theorem conv_owned {w : World} {base : Nat} {v : Value} {n : Nat} {xs : List Int} (h : w.ownsRow base 5 1 v n (xs.map (Value.int .u8))) :
    (convert 53 9 v).run Tryd.prog w = .ok (.string (strOfNums xs)) w := by
  obtain ⟨hl, ⟨rfl, rfl⟩ | ⟨g, cap, cur, rfl, hg, hh, h1, h2, h3, h4⟩⟩ := h
  · have : xs = [] := by
      apply List.eq_nil_of_length_eq_zero
      simpa using hl
    subst this
    exact run_convert_bytes_nil (P := Tryd.prog) w 53 5 Tryd.underlying53 Tryd.underlying5 0 0 9 Tryd.underlying9
  · have hlen : xs.length = n := by simpa using hl
    refine run_convert_bytes_arg (P := Tryd.prog) w 53 5 Tryd.underlying53 Tryd.underlying5 g 0 n cap xs hlen (fun i hi => ?_) 9 Tryd.underlying9
    have hc : (cur.toList.take (n * 1))[i]? = some (Value.int .u8 (xs.getD i 0)) := by
      rw [h4, List.getElem?_map, List.getElem?_eq_getElem (by omega)]
      simp [List.getD, List.getElem?_eq_getElem (show i < xs.length by omega)]
    rw [List.getElem?_take_of_lt (by omega)] at hc
    simp [World.cell?, hh]
    simpa using hc
theorem own_base {w : World} {base : Nat} {e : TypeId} {size : Nat} {v : Value} {n : Nat} {xs : List Value} (h : w.ownsRow base e size v n xs) : Hid (∀ k, v.ownBlock = some k → base ≤ k) := by
  show ∀ k, v.ownBlock = some k → base ≤ k
  obtain ⟨_, ⟨rfl, _⟩ | ⟨g, cap, cur, rfl, hg, _⟩⟩ := h
  · intro k hk; simp [Value.ownBlock] at hk
  · intro k hk; simp [Value.ownBlock] at hk; omega
/-- The four cells of a block that has just been laid. -/
theorem cell_four_new (w : World) (a b c d : Value) (t : TypeId) : ∀ j u, [a, b, c, d][j]? = some u → (w.alloc (.cells #[a, b, c, d] t)).cell? ((⟨w.heap.size, 0, none⟩ : Addr).add j) = some u := by
  intro j u hj
  match j, hj with
  | 0, hj => simp at hj; subst hj; simp [Addr.add]
  | 1, hj => simp at hj; subst hj; simp [Addr.add]
  | 2, hj => simp at hj; subst hj; simp [Addr.add]
  | 3, hj => simp at hj; subst hj; simp [Addr.add]
  | j + 4, hj => simp at hj

/-- a number's four bytes, as numbers -/
def tellN (x : Int) : List Int := [x / 16777216 % 256, x / 65536 % 256, x / 256 % 256, x % 256]
theorem tellN_bytes (x : Int) : (tellN x).map (fun n => UInt8.ofNat n.toNat) = tell4 x := by
  simp [tellN, tell4, byteOf, IntKind.wrap_u8]
def toldN (s : St) (k : Nat) : List Int := (s.nums.take k).flatMap tellN
theorem toldN_length (s : St) : ∀ k, k ≤ 8 → (toldN s k).length = 4 * k
  | 0, _ => rfl | 1, _ => rfl | 2, _ => rfl | 3, _ => rfl | 4, _ => rfl | 5, _ => rfl | 6, _ => rfl | 7, _ => rfl | 8, _ => rfl
  | k + 9, h => by omega
theorem toldN_succ (s : St) : ∀ k, k < 8 → toldN s (k + 1) = toldN s k ++ tellN (s.nums.getD k 0)
  | 0, _ => rfl | 1, _ => rfl | 2, _ => rfl | 3, _ => rfl | 4, _ => rfl | 5, _ => rfl | 6, _ => rfl | 7, _ => rfl
  | k + 8, h => by omega
theorem toldN_all (s : St) : strOfNums (toldN s 8) = ⟨(told s).toArray⟩ := by
  unfold strOfNums toldN told
  have : s.nums.take 8 = s.nums := rfl
  rw [this, List.map_flatMap]
  simp only [tellN_bytes]
theorem ret_str {a b : ByteArray} (h : a = b) : Ending.returned (.string a) = .returned (.string b) := by rw [h]
theorem nums_U {s : St} (h : s.ok) : ∀ k, k < 8 → U (s.nums.getD k 0) := by
  obtain ⟨a, b, c, d, e, f, g, hh⟩ := h
  intro k hk
  match k, hk with
  | 0, _ => exact a
  | 1, _ => exact b
  | 2, _ => exact c
  | 3, _ => exact d
  | 4, _ => exact e
  | 5, _ => exact f
  | 6, _ => exact g
  | 7, _ => exact hh

set_option maxRecDepth 20000 in
set_option maxHeartbeats 4000000 in
theorem told_any (s : St) (rest : ByteArray) (size : Int) (p : Nat) (w : World) (hs : s.ok) (hp : At w p s rest size) :
    Calls Tryd.prog 46 #[.pointer (some ⟨p, 0, none⟩)] w fun e w' => e = .returned (.string ⟨(told s).toArray⟩) ∧ Below w.heap.size w w' := by
  obtain ⟨i0, hi, hz0, hz1, hz2⟩ := info_parts info5
  have hpl := hp.lt
  have HP : Hid (At w p s rest size) := hp
  clear hp
  go_enter Tryd.func46, Tryd.ntmps46
  go_wp2
  go_loopw [3, 5, 7] (fun v _ i u => ∃ k : Nat, k ≤ 8 ∧ i = .int .i64 k ∧ u.ownsRow w.heap.size 5 1 v (4 * k) ((toldN s k).map (Value.int .u8)) ∧ Below w.heap.size w u) (fun _ _ i _ => 8 - (intOf i).toNat)
  case atStart => exact ⟨0, by omega, rfl, World.ownsRow_nil _ _ _ _, Below.refl _ _⟩
  case round =>
    obtain ⟨k, hk, rfl, hown, hB⟩ := hrel
    have hbs : w.heap.size ≤ wr.heap.size := hB.size
    have HO := own_base hown
    by_cases hlt : k < 8
    · have hc : wr.cell? ⟨p, k, none⟩ = some (.int .u32 (s.nums.getD k 0)) := by
        rw [cell_of_row _ _ _ _ _ _ (HP.out.below hB hpl)]
        match k, hlt with
        | 0, _ => rfl | 1, _ => rfl | 2, _ => rfl | 3, _ => rfl | 4, _ => rfl | 5, _ => rfl | 6, _ => rfl | 7, _ => rfl
      obtain ⟨x0, x1⟩ := nums_U hs k hlt
      have HT := toldN_succ s k hlt
      have HT' : Hid (toldN s (k + 1) = toldN s k ++ tellN (s.nums.getD k 0)) := HT
      clear HT
      generalize s.nums.getD k 0 = x at *
      go_wp2_with (at_builtin; go_must (refine wpList_append_own _ rfl _ _ 53 rfl w.heap.size 5 i0 (.int .u8 0) 1 1 Tryd.underlying53 hi hz0 hz1 hz2 rfl (by decide) _ _ _ rfl (hown.alloc _) ⟨wr.heap.size, 0, none⟩ 4 4 [_, _, _, _] rfl rfl (cell_four_new _ _ _ _ _ _) (fun x hx => by simp at hx; rcases hx with rfl | rfl | rfl | rfl <;> rfl) (by unfold maxLen; omega) (by omega) (by simp; omega) ?_))
      intro v' w1 hown' hgrow _
      have HO2 : Hid _ := hown'
      have HB2 : Hid (Below w.heap.size w w1) := (hB.alloc hbs _).grown hgrow (by simp; omega) HO.out
      clear hown' hgrow
      go_wp2
      go_roundw
      case rel =>
        refine ⟨k + 1, by omega, by go_num, ?_, HB2.out⟩
        have e0 : x / 16777216 % 256 = x / 16777216 := by omega
        rw [HT'.out, List.map_append, show 4 * (k + 1) = 4 * k + 4 by omega]
        show World.ownsRow _ _ _ _ _ _ ((toldN s k).map (Value.int .u8) ++ [.int .u8 (x / 16777216 % 256), .int .u8 (x / 65536 % 256), .int .u8 (x / 256 % 256), .int .u8 (x % 256)])
        rw [e0]
        exact HO2.out
      case measure => simp [intOf]; omega
    · obtain rfl : k = 8 := by omega
      have hconv := conv_owned hown
      go_wp2
      go_ret
      exact ⟨ret_str (toldN_all s), hB⟩
end Go.Proofs.YtjnlffdopbfelabDoor.sh
