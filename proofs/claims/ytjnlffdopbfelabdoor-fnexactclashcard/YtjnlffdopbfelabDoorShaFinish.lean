/-
  The program's digest of a list of texts together is the plain digest; no old block turns.
-/
import Derived.Test.YtjnlffdopbfelabDoorShaTold
import Derived.Laws.IdiomStrings
namespace Go.Proofs.YtjnlffdopbfelabDoor.sh
open Go.ChangeShapes Go.WideShapes Go.ChangeAt Go.RowKit
set_option linter.unusedVariables false

theorem zeros_make (N : Nat) (hN : N ≤ 1048576) (u : World) : (Instr.makeSlice 53 (.int .i64 (N : Int)) (.int .i64 (N : Int))).run Tryd.prog u =
    .ok (.slice (some ⟨u.heap.size, 0, none⟩) N N) (u.alloc (.cells (madeCells #[.int .u8 0] N) 5)) := by
  obtain ⟨i0, hi, hz0, hz1, hz2⟩ := info_parts info5
  have h := run_make (P := Tryd.prog) u 53 5 i0 (.int .u8 0) Tryd.underlying53 hi hz0 .i64 .i64 (N : Int) (N : Int) (by omega) (Int.le_refl _) (by rw [hz2]; omega) (by omega)
  simpa [hz1, Value.cells] using h
theorem zeros_conv (N : Nat) (u : World) : (convert 53 9 (.slice (some ⟨u.heap.size, 0, none⟩) N N)).run Tryd.prog (u.alloc (.cells (madeCells #[.int .u8 0] N) 5)) =
    .ok (.string ⟨(List.replicate N (0 : UInt8)).toArray⟩) (u.alloc (.cells (madeCells #[.int .u8 0] N) 5)) := by
  have h := run_convert_bytes_back (P := Tryd.prog) (u.alloc (.cells (madeCells #[.int .u8 0] N) 5)) 53 9 5 ⟨u.heap.size, 0, none⟩ N (List.replicate N (0 : UInt8)) Tryd.underlying53 Tryd.underlying5 Tryd.underlying9 (fun j hj => by
    have e : (⟨u.heap.size, 0, none⟩ : Addr).add j = ⟨u.heap.size, j, none⟩ := by unfold Addr.add; split <;> simp_all
    rw [e]
    simp at hj
    simp [madeCells, hj, Nat.mod_one])
  simpa using h

/-- the length's bytes, as numbers: the first k -/
def lenN (y : Int) (k : Nat) : List Int := ([56, 48, 40, 32, 24, 16, 8, 0].take k).map (fun j : Nat => y / 2 ^ j % 256)
theorem lenN_length (y : Int) : ∀ k, k ≤ 8 → (lenN y k).length = k
  | 0, _ => rfl | 1, _ => rfl | 2, _ => rfl | 3, _ => rfl | 4, _ => rfl | 5, _ => rfl | 6, _ => rfl | 7, _ => rfl | 8, _ => rfl
  | k + 9, h => by omega
theorem lenN_succ (y : Int) : ∀ k, k < 8 → lenN y (k + 1) = lenN y k ++ [y / 2 ^ (56 - 8 * k) % 256]
  | 0, _ => rfl | 1, _ => rfl | 2, _ => rfl | 3, _ => rfl | 4, _ => rfl | 5, _ => rfl | 6, _ => rfl | 7, _ => rfl
  | k + 8, h => by omega
theorem lenN_all (n : Nat) : strOfNums (lenN (8 * (n : Int)) 8) = ⟨(len8 n).toArray⟩ := by
  unfold strOfNums lenN len8
  simp [byteOf, IntKind.wrap_u8]

/-- a hash at work to which a text was written -/
def Has (w : World) (p : Nat) (l : List UInt8) : Prop := ∃ (s : St) (r : ByteArray), s.ok ∧ Hid ((s, r.data.toList) = take start l) ∧ Hid (At w p s r (l.length : Int))
theorem Has.rest {s : St} {r : ByteArray} {l : List UInt8} (h : (s, r.data.toList) = take start l) : r.size = l.length % 64 := by
  have := take_rest l.length start l (Nat.le_refl _)
  rw [← h] at this
  simpa using this

set_option maxHeartbeats 2000000 in
theorem write_has (p : Nat) (l : List UInt8) (t : ByteArray) (w : World) (hl : l.length ≤ 100000) (ht : t.size ≤ 100000) (hH : Has w p l) (hT : Tab w) (hg : 0 < p) :
    Calls Tryd.prog 43 #[.pointer (some ⟨p, 0, none⟩), .string t] w fun e w' => e = .returned (.tuple #[]) ∧ Has w' p (l ++ t.data.toList) ∧ Tab w' ∧ w.grownBy w' (some p) := by
  obtain ⟨s, r, hs, he, hA⟩ := hH
  have hr := Has.rest he.out
  refine (write_any s r _ p t w hs (by omega) (by omega) (by omega) (by omega) hA.out hT hg).mono ?_
  rintro e w' ⟨rfl, ⟨s', r', hs', he', hA'⟩, hG⟩
  refine ⟨rfl, ⟨s', r', hs', ?_, ?_⟩, hT.grown hG hg, hG⟩
  · show _ = _
    rw [take_app l.length start l _ (Nat.le_refl _), ← he.out]
    exact he'
  · have : ((l ++ t.data.toList).length : Int) = (l.length : Int) + t.size := by simp
    rw [this]
    exact hA'
end Go.Proofs.YtjnlffdopbfelabDoor.sh
