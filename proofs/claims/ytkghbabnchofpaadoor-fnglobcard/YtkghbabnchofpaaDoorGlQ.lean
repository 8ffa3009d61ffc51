/-
  Globs put together; a glob without stars and question marks: plain words. No condition.
-/
import Derived.Test.YtkghbabnchofpaaDoorGl0
namespace Go.Proofs.YtkghbabnchofpaaDoor.gb
open Go.Proofs.YtkghbabnchofpaaDoor.sc (prn AllB)
open Classical
set_option linter.unusedVariables false

theorem bat_left (a b : ByteArray) {i : Nat} (h : i < a.size) : bat (a ++ b) i = bat a i := by
  unfold bat
  rw [show (a ++ b).data.toList = a.data.toList ++ b.data.toList by simp, List.getD_eq_getElem?_getD, List.getElem?_append_left (by simpa using h), ← List.getD_eq_getElem?_getD]
theorem bat_right (a b : ByteArray) (i : Nat) : bat (a ++ b) (a.size + i) = bat b i := by
  unfold bat
  have e : a.data.toList.length = a.size := by simp
  rw [show (a ++ b).data.toList = a.data.toList ++ b.data.toList by simp, List.getD_eq_getElem?_getD, List.getElem?_append_right (by rw [e]; omega), e, show a.size + i - a.size = i by omega, ← List.getD_eq_getElem?_getD]
theorem fit_app {g t h u : ByteArray} (h1 : fitB g t = true) (h2 : fitB h u = true) : fitB (g ++ h) (t ++ u) = true := by
  unfold fitB at *
  rw [ByteArray.size_append, ByteArray.size_append]
  refine fits_app (bat h) (bat u) (bat (g ++ h)) (bat (t ++ u)) g.size t.size ?_ h.size u.size (fun j hj => bat_right g h j) (fun j hj => bat_right t u j) h2
  rw [← h1]
  exact fits_congr _ _ _ _ _ _ (fun j hj => bat_left g h hj) (fun j hj => bat_left t u hj)
theorem same_bytes {g t : ByteArray} (hs : g.size = t.size) (hb : ∀ j, j < g.size → bat g j = bat t j) : g = t := by
  apply ByteArray.ext
  apply Array.ext
  · simpa using hs
  · intro i h1 h2
    have h1' : i < g.size := by simpa using h1
    have h2' : i < t.size := by simpa using h2
    have := hb i h1'
    rw [bat_eq h1', bat_eq h2'] at this
    exact UInt8.toNat_inj.1 this
theorem plain_eq {g t : ByteArray} (h1 : fitB g t = true) (h2 : ∀ j, j < g.size → bat g j ≠ 42 ∧ bat g j ≠ 63) : g = t := by
  obtain ⟨e, hb⟩ := fits_plain _ _ _ _ h2 h1
  exact same_bytes e hb
theorem star_glob : GlobR ⟨#[42]⟩ := by
  refine ⟨by decide, ?_, by decide, by decide⟩
  intro j h
  have : j = 0 := by
    have h' : j < 1 := h
    omega
  subst this
  show prn 42
  exact ⟨by decide, by decide⟩
theorem star_fits (t : ByteArray) : decide (GFits ⟨#[42]⟩ t) = decide ((t.size : Int) ≤ 60) := by
  rw [decide_eq_decide]
  refine ⟨fun h => by have := h.2.1; omega, fun h => ⟨star_glob, by omega, ?_⟩⟩
  exact fits_star _ _ _ rfl
end Go.Proofs.YtkghbabnchofpaaDoor.gb
