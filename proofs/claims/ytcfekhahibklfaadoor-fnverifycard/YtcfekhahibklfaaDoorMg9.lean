/-
  The program's digest of a list of texts together is the plain digest; no old block turns.
  The program's digest of a list of texts together is the plain digest of all their bytes; no old block turns.
-/
import Derived.Test.YtcfekhahibklfaaDoorMg8
import Derived.Laws.IdiomStrings
namespace Go.Proofs.YtcfekhahibklfaaDoor.sh
open Go.ChangeShapes Go.WideShapes Go.ChangeAt Go.RowKit
set_option linter.unusedVariables false

theorem zeros_make (N : Nat) (hN : N ≤ 1048576) (u : World) : (Instr.makeSlice 22 (.int .i64 (N : Int)) (.int .i64 (N : Int))).run Tryd.prog u =
    .ok (.slice (some ⟨u.heap.size, 0, none⟩) N N) (u.alloc (.cells (madeCells #[.int .u8 0] N) 5)) := by
  obtain ⟨i0, hi, hz0, hz1, hz2⟩ := info_parts info5
  have h := run_make (P := Tryd.prog) u 22 5 i0 (.int .u8 0) Tryd.underlying22 hi hz0 .i64 .i64 (N : Int) (N : Int) (by omega) (Int.le_refl _) (by rw [hz2]; omega) (by omega)
  simpa [hz1, Value.cells] using h
theorem zeros_conv (N : Nat) (u : World) : (convert 22 9 (.slice (some ⟨u.heap.size, 0, none⟩) N N)).run Tryd.prog (u.alloc (.cells (madeCells #[.int .u8 0] N) 5)) =
    .ok (.string ⟨(List.replicate N (0 : UInt8)).toArray⟩) (u.alloc (.cells (madeCells #[.int .u8 0] N) 5)) := by
  have h := run_convert_bytes_back (P := Tryd.prog) (u.alloc (.cells (madeCells #[.int .u8 0] N) 5)) 22 9 5 ⟨u.heap.size, 0, none⟩ N (List.replicate N (0 : UInt8)) Tryd.underlying22 Tryd.underlying5 Tryd.underlying9 (fun j hj => by
    have e : (⟨u.heap.size, 0, none⟩ : Addr).add j = ⟨u.heap.size, j, none⟩ := by unfold Addr.add; split <;> simp_all
    rw [e]
    simp at hj
    simp [madeCells, hj, Nat.mod_one])
  simpa using h

/-- the length's bytes, as numbers: the first k -/
def lenN (y : Int) (k : Nat) : List Int := ([56, 48, 40, 32, 24, 16, 8, 0].take k).map (fun j : Nat => y / 2 ^ j % 256)
theorem lenN_length (y : Int) : ∀ k, k ≤ 8 → (lenN y k).length = k
  | 0, _ => rfl | 1, _ => rfl | 2, _ => rfl | 3, _ => rfl | 4, _ => rfl | 5, _ => rfl | 6, _ => rfl | 7, _ => rfl | 8, _ => rfl
  | k + 9, h => by omega
theorem lenN_succ (y : Int) : ∀ k, k < 8 → lenN y (k + 1) = lenN y k ++ [y / 2 ^ (56 - 8 * k) % 256]
  | 0, _ => rfl | 1, _ => rfl | 2, _ => rfl | 3, _ => rfl | 4, _ => rfl | 5, _ => rfl | 6, _ => rfl | 7, _ => rfl
  | k + 8, h => by omega
theorem lenN_all (n : Nat) : strOfNums (lenN (8 * (n : Int)) 8) = ⟨(len8 n).toArray⟩ := by
  unfold strOfNums lenN len8
  simp [byteOf, IntKind.wrap_u8]

/-- a hash at work to which a text was written -/
def Has (w : World) (p : Nat) (l : List UInt8) : Prop := ∃ (s : St) (r : ByteArray), s.ok ∧ Hid ((s, r.data.toList) = take start l) ∧ Hid (At w p s r (l.length : Int))
theorem Has.rest {s : St} {r : ByteArray} {l : List UInt8} (h : (s, r.data.toList) = take start l) : r.size = l.length % 64 := by
  have := take_rest l.length start l (Nat.le_refl _)
  rw [← h] at this
  simpa using this

set_option maxHeartbeats 2000000 in
theorem write_has (p : Nat) (l : List UInt8) (t : ByteArray) (w : World) (hl : l.length ≤ 100000) (ht : t.size ≤ 100000) (hH : Has w p l) (hT : Tab w) (hg : 0 < p) :
    Calls Tryd.prog 77 #[.pointer (some ⟨p, 0, none⟩), .string t] w fun e w' => e = .returned (.tuple #[]) ∧ Has w' p (l ++ t.data.toList) ∧ Tab w' ∧ w.grownBy w' (some p) := by
  obtain ⟨s, r, hs, he, hA⟩ := hH
  have hr := Has.rest he.out
  refine (write_any s r _ p t w hs (by omega) (by omega) (by omega) (by omega) hA.out hT hg).mono ?_
  rintro e w' ⟨rfl, ⟨s', r', hs', he', hA'⟩, hG⟩
  refine ⟨rfl, ⟨s', r', hs', ?_, ?_⟩, hT.grown hG hg, hG⟩
  · show _ = _
    rw [take_app l.length start l _ (Nat.le_refl _), ← he.out]
    exact he'
  · have : ((l ++ t.data.toList).length : Int) = (l.length : Int) + t.size := by simp
    rw [this]
    exact hA'
end Go.Proofs.YtcfekhahibklfaaDoor.sh

namespace Go.Proofs.YtcfekhahibklfaaDoor.sh
open Go.ChangeShapes Go.WideShapes Go.ChangeAt Go.RowKit
set_option linter.unusedVariables false

theorem gof {w u : World} {p : Nat} (h : Below w.heap.size w u) : w.grownBy u (some p) := ⟨h.os, h.tape, h.output, h.size, fun k hk _ => h.block k hk⟩
theorem Has.below {w u : World} {p : Nat} {l : List UInt8} (h : Has w p l) (hb : Below w.heap.size w u) : Has u p l := by
  obtain ⟨s, r, hs, he, hA⟩ := h
  exact ⟨s, r, hs, he, hA.out.below hb hA.out.lt⟩
theorem Tab.up {w u : World} (h : Tab w) (hb : Below w.heap.size w u) : Tab u := h.below hb h.lt

set_option maxRecDepth 20000 in
set_option maxHeartbeats 8000000 in
theorem finish_any (p : Nat) (l : List UInt8) (w : World) (hl : l.length ≤ 20000) (hH : Has w p l) (hT : Tab w) (hg : 0 < p) :
    Calls Tryd.prog 78 #[.pointer (some ⟨p, 0, none⟩)] w fun e w' => e = .returned (.string ⟨(sha l).toArray⟩) ∧ w.grownBy w' (some p) := by
  obtain ⟨i0, hi, hz0, hz1, hz2⟩ := info_parts info5
  obtain ⟨s0, r0, hs0, he0, hA0⟩ := hH
  obtain ⟨c8, c9, hf⟩ := cells10 hA0.out
  have HH : Hid (Has w p l) := ⟨s0, r0, hs0, he0, hA0⟩
  clear hf c8 hA0 he0 hs0
  go_enter Tryd.func78, Tryd.ntmps78
  go_wp2_with fail
  refine (write_has p l ⟨#[128]⟩ w (by omega) (by decide) HH.out hT hg).mono ?_
  rintro e w1 ⟨rfl, hH1, hT1, hG1⟩
  have HG1 : Hid (w.grownBy w1 (some p)) := hG1
  have HH1 : Hid (Has w1 p (l ++ [128])) := hH1
  obtain ⟨s1, r1, hs1, he1, hA1⟩ := hH1
  have hr1 := Has.rest he1.out
  obtain ⟨d8, d9, hf⟩ := cells10 hA1.out
  clear hf d9 hA1 he1 hs1 hG1 HH
  have hN : (120 - (r1.size : Int)) % 64 = ((gap l.length : Nat) : Int) := by
    rw [hr1]; unfold gap; simp; omega
  have hgl := gap_lt l.length
  have hmk := zeros_make (gap l.length) (by omega) w1
  have hcv := zeros_conv (gap l.length) w1
  generalize hgN : gap l.length = N at *
  have hr64 : r1.size < 64 := by rw [hr1]; omega
  clear hr1
  go_wp2_with fail
  have HBZ : Below w1.heap.size w1 (w1.alloc (.cells (madeCells #[.int .u8 0] N) 5)) := (Below.refl _ _).alloc (Nat.le_refl _) _
  refine (write_has p (l ++ [128]) ⟨Array.replicate N 0⟩ _ (by simp; omega) (by simp [ByteArray.size]; omega) (HH1.out.below HBZ) (hT1.up HBZ) hg).mono ?_
  rintro e w2 ⟨rfl, hH2, hT2, hG2⟩
  have HG2 : Hid (w.grownBy w2 (some p)) := gtrans (gtrans HG1.out (gof HBZ)) hG2
  have HH2 : Hid (Has w2 p (l ++ [128] ++ List.replicate N 0)) := by show Has _ _ _; simpa using hH2
  have HT2 : Hid (Tab w2) := hT2
  have HP : Hid (padded l = (l ++ [128] ++ List.replicate N 0) ++ len8 l.length) := by show _ = _; rw [← hgN]; rfl
  have HL : Hid (strOfNums (lenN ((l.length : Int) * 8) 8) = ⟨(len8 l.length).toArray⟩) := by show _ = _; rw [Int.mul_comm]; exact lenN_all _
  have hpl : p < w2.heap.size := by obtain ⟨_, _, _, _, h⟩ := hH2; exact h.out.lt
  clear hH2 hT2 hG2 HBZ hmk hcv hT1 hT d8 c9 HH1 HG1
  obtain ⟨y, hy⟩ : ∃ y : Int, (l.length : Int) * 8 = y := ⟨_, rfl⟩
  have hy0 : 0 ≤ y := by omega
  have hy1 : y ≤ 160000 := by omega
  have HY : Hid ((l.length : Int) * 8 = y) := hy
  go_wp2_with fail
  go_loopw [5, 6] (fun v i u => ∃ (k : Nat), k ≤ 8 ∧ i = .int .i64 (56 - 8 * (k : Int)) ∧ u.ownsRow w2.heap.size 5 1 v k ((lenN y k).map (Value.int .u8)) ∧ Below w2.heap.size w2 u) (fun _ i _ => (intOf i + 8).toNat)
  case atStart => exact ⟨0, by omega, rfl, World.ownsRow_nil _ _ _ _, Below.refl _ _⟩
  case round =>
    obtain ⟨k, hk, rfl, hown, hB⟩ := hrel
    have hbs : w2.heap.size ≤ wr.heap.size := hB.size
    have HO := own_base hown
    by_cases hlt : k < 8
    · have HT' : Hid (lenN y (k + 1) = lenN y k ++ [y / 2 ^ (56 - 8 * k) % 256]) := lenN_succ y k hlt
      have hsh : (56 - 8 * (k : Int)).toNat = 56 - 8 * k := by omega
      go_wp2_with (at_builtin; go_must (refine wpList_append_own _ rfl _ _ 22 rfl w2.heap.size 5 i0 (.int .u8 0) 1 1 Tryd.underlying22 hi hz0 hz1 hz2 rfl (by decide) _ _ _ rfl (hown.alloc _) ⟨wr.heap.size, 0, none⟩ 1 1 [_] rfl rfl (cell_one_new _ _ _) (fun x hx => by simp at hx; subst hx; rfl) (by unfold maxLen; omega) (by omega) (by simp; omega) ?_))
      intro v' w3 hown' hgrow _
      have HO2 : Hid _ := hown'
      have HB2 : Hid (Below w2.heap.size w2 w3) := (hB.alloc hbs _).grown hgrow (by simp; omega) HO.out
      clear hown' hgrow
      go_wp2
      go_roundw
      case rel =>
        refine ⟨k + 1, by omega, by go_num, ?_, HB2.out⟩
        rw [HT'.out, List.map_append]
        exact HO2.out
      case measure => simp [intOf]; omega
    · obtain rfl : k = 8 := by omega
      have hconv := conv_owned hown
      rw [show lenN y 8 = lenN ((l.length : Int) * 8) 8 by rw [HY.out], HL.out] at hconv
      go_wp2_with fail
      refine (write_has p (l ++ [128] ++ List.replicate N 0) ⟨(len8 l.length).toArray⟩ wr (by simp; omega) (by simp [ByteArray.size, len8]) (HH2.out.below hB) (HT2.out.up hB) hg).mono ?_
      rintro e w4 ⟨rfl, hH4, hT4, hG4⟩
      have HG4 : Hid (w.grownBy w4 (some p)) := gtrans (gtrans HG2.out (gof hB)) hG4
      have hH5 : Has w4 p (padded l) := by rw [HP.out]; exact hH4
      obtain ⟨s5, r5, hs5, he5, hA5⟩ := hH5
      have HS : Hid (told s5 = sha l) := by show _ = _; unfold sha; rw [← he5.out]
      clear hH4 hT4 hG4 hconv hown hB HO
      go_wp2_with fail
      refine (told_any s5 r5 _ p w4 hs5 hA5.out).mono ?_
      rintro e w5 ⟨rfl, hB5⟩
      go_wp2_with fail
      go_ret
      exact ⟨ret_str (by rw [HS.out]), gtrans HG4.out (gof hB5)⟩

set_option maxHeartbeats 2000000 in
theorem new_any (w : World) : Calls Tryd.prog 76 #[] w fun e w' => e = .returned (.pointer (some ⟨w.heap.size, 0, none⟩)) ∧ Has w' w.heap.size [] ∧ Below w.heap.size w w' := by
  go_enter Tryd.func76, Tryd.ntmps76
  go_wp2
  go_ret
  refine ⟨rfl, ⟨start, ⟨#[]⟩, start_ok, ?_, ?_⟩, (Below.refl _ _).alloc (Nat.le_refl _) _⟩
  · show _ = _
    rw [take_lt (by decide)]
  · exact heap_alloc_new _ _
end Go.Proofs.YtcfekhahibklfaaDoor.sh
