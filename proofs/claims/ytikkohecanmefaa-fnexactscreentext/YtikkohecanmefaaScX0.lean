/-
  The text of a screen: plain words. No condition.
-/
import Derived.Test.YtikkohecanmefaaSc0
import Derived.Test.YtikkohecanmefaaJoin
namespace Go.Proofs.Ytikkohecanmefaa.sc
open Go.ChangeShapes Go.WideShapes Go.ChangeAt Go.RowKit
open Go.Proofs.Ytikkohecanmefaa.jo (joinB total bytesOf total_append total_one bytesOf_append bytesOf_one bytesOf_length)
open Classical
set_option linter.unusedVariables false

abbrev nlB : ByteArray := ⟨#[10]⟩
/-- the first rows, each with a line feed -/
def tx (l : List ByteArray) : Nat → ByteArray
  | 0 => ⟨#[]⟩
  | k + 1 => tx l k ++ l.getD k ⟨#[]⟩ ++ nlB
/-- the parts it is put together of -/
def pts (l : List ByteArray) : Nat → List ByteArray
  | 0 => []
  | k + 1 => pts l k ++ [l.getD k ⟨#[]⟩, nlB]
theorem pts_length (l : List ByteArray) : ∀ k, (pts l k).length = 2 * k
  | 0 => rfl
  | k + 1 => by show (pts l k ++ [_, _]).length = _; rw [List.length_append, pts_length l k]; simp; omega
theorem join_append (a b : List ByteArray) : joinB (a ++ b) = joinB a ++ joinB b := by
  apply ByteArray.ext
  simp [joinB, bytesOf_append]
theorem join_pts (l : List ByteArray) : ∀ k, joinB (pts l k) = tx l k
  | 0 => rfl
  | k + 1 => by
    show joinB (pts l k ++ [l.getD k ⟨#[]⟩, nlB]) = tx l k ++ l.getD k ⟨#[]⟩ ++ nlB
    rw [join_append, join_pts l k, jo.joinB_two, ByteArray.append_assoc]
theorem tx_size (l : List ByteArray) (h : ∀ j, j < l.length → (l.getD j ⟨#[]⟩).size ≤ 20) : ∀ k, k ≤ l.length → (tx l k).size ≤ 21 * k
  | 0, _ => by show (0 : Nat) ≤ _; omega
  | k + 1, hk => by
    have h1 := tx_size l h k (by omega)
    have h2 := h k (by omega)
    show (tx l k ++ l.getD k ⟨#[]⟩ ++ nlB).size ≤ _
    rw [ByteArray.size_append, ByteArray.size_append]
    have : nlB.size = 1 := rfl
    omega
theorem join_total (s : List ByteArray) : total s = (joinB s).size := by
  rw [← bytesOf_length]
  simp [joinB, ByteArray.size]
/-- the text of a screen -/
def ScrTx (l : List ByteArray) (row col : Int) (e A : ByteArray) : Prop := (ScrR l row col e → A = tx l l.length) ∧ (¬ ScrR l row col e → A = ⟨#[]⟩)
theorem ScrTx.one {l : List ByteArray} {row col : Int} {e A B : ByteArray} (h : ScrTx l row col e A) (h2 : ScrTx l row col e B) : A = B := by
  by_cases hr : ScrR l row col e
  · rw [h.1 hr, h2.1 hr]
  · rw [h.2 hr, h2.2 hr]
end Go.Proofs.Ytikkohecanmefaa.sc
