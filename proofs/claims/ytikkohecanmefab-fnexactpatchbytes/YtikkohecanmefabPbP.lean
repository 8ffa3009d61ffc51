/-
  The bytes of a patch: plain words. No condition.
-/
import Derived.Test.YtikkohecanmefabLnS0
import Derived.Test.YtikkohecanmefabPutText
namespace Go.Proofs.Ytikkohecanmefab.ls
open Go.ChangeShapes Go.WideShapes Go.ChangeAt Go.RowKit
open Go.Proofs.Ytikkohecanmefab.pn (numB i64P)
open Go.Proofs.Ytikkohecanmefab.pt (putB numB_size_le putB_yes)
open Go.Proofs.Ytikkohecanmefab.jo (joinB)
set_option linter.unusedVariables false

/-- a patch that has bytes -/
def FitsP (s : List Ln) (e : ByteArray) : Prop := s.length ≤ 6 ∧ e.size ≤ 8 ∧ ∀ j, j < s.length → (s.getD j ln0).2.size ≤ 20
/-- the first lines -/
def px (s : List Ln) : Nat → ByteArray
  | 0 => numB (s.length : Int)
  | k + 1 => px s k ++ numB (s.getD k ln0).1 ++ putB (s.getD k ln0).2
def pxs (s : List Ln) : Nat → List ByteArray
  | 0 => [numB (s.length : Int)]
  | k + 1 => pxs s k ++ [numB (s.getD k ln0).1, putB (s.getD k ln0).2]
theorem pxs_length (s : List Ln) : ∀ k, (pxs s k).length = 2 * k + 1
  | 0 => rfl
  | k + 1 => by show (pxs s k ++ [_, _]).length = _; rw [List.length_append, pxs_length s k]; simp; omega
theorem join_app (a b : List ByteArray) : joinB (a ++ b) = joinB a ++ joinB b := by
  apply ByteArray.ext
  simp [joinB, jo.bytesOf_append]
theorem join_pxs (s : List Ln) : ∀ k, joinB (pxs s k) = px s k
  | 0 => jo.joinB_one _
  | k + 1 => by
    show joinB (pxs s k ++ [_, _]) = px s k ++ _ ++ _
    rw [join_app, join_pxs s k, jo.joinB_two, ByteArray.append_assoc]
/-- all of it -/
def pxA (s : List Ln) (row col : Int) (e : ByteArray) : ByteArray := px s s.length ++ numB row ++ numB col ++ putB e
def pxsA (s : List Ln) (row col : Int) (e : ByteArray) : List ByteArray := pxs s s.length ++ [numB row, numB col, putB e]
theorem join_three (a b c : ByteArray) : joinB [a, b, c] = a ++ b ++ c := by
  apply ByteArray.ext
  simp [joinB, jo.bytesOf]
theorem join_pxsA (s : List Ln) (row col : Int) (e : ByteArray) : joinB (pxsA s row col e) = pxA s row col e := by
  unfold pxsA pxA
  rw [join_app, join_pxs, join_three, ByteArray.append_assoc, ByteArray.append_assoc, ByteArray.append_assoc]
def AllI (s : List Ln) : Prop := ∀ j, j < s.length → i64P (s.getD j ln0).1
theorem put_small {t : ByteArray} (h : t.size ≤ 20) : (putB t).size ≤ 30 := by
  rw [putB_yes (by omega), ByteArray.size_append]
  have := numB_size_le (pt.i64_size (s := t) (by omega))
  omega
theorem px_size (s : List Ln) (e : ByteArray) (h : FitsP s e) (hi : AllI s) : ∀ k, k ≤ s.length → (px s k).size ≤ 10 + 40 * k
  | 0, _ => by
    have := numB_size_le (n := (s.length : Int)) (by have := h.1; unfold i64P; omega)
    show (numB (s.length : Int)).size ≤ _
    omega
  | k + 1, hk => by
    have h1 := px_size s e h hi k (by omega)
    have h2 := numB_size_le (hi k (by omega))
    have h3 := put_small (h.2.2 k (by omega))
    show (px s k ++ _ ++ _).size ≤ _
    rw [ByteArray.size_append, ByteArray.size_append]
    omega
end Go.Proofs.Ytikkohecanmefab.ls
