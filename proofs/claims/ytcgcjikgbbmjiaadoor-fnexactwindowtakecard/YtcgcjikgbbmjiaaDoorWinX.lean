/-
  The law that holds the program's WindowTake against the model's tells true at every window, epoch and count. Condition: the four errors lie in their variables.
-/
import Derived.Test.YtcgcjikgbbmjiaaDoorWinW
import Derived.Test.YtcgcjikgbbmjiaaDoorTakeM4
import Derived.Test.YtcgcjikgbbmjiaaDoorErrLaid
import Derived.Test.YtcgcjikgbbmjiaaDoorWinO
namespace Go.Proofs.YtcgcjikgbbmjiaaDoor.wi
open Go.ChangeShapes Go.WideShapes Go.ChangeAt Go.RowKit
open Classical
set_option linter.unusedVariables false

theorem endL_length (lo T : Int) (s : List Int) : (endL lo T s).length ≤ s.length + 2 := by
  have h := stepL_length lo T s [] (decide (lo < 0))
  have h3 : (if decide (lo < 0) then 0 else 1) ≤ 1 := by split <;> omega
  simp only [List.length_nil, Nat.zero_add] at h
  unfold endL
  generalize stepL lo T [] (decide (lo < 0)) s = P at h
  obtain ⟨l, d⟩ := P
  simp only at h ⊢
  cases d
  · have := putL_length l lo T
    simp only [Bool.false_eq_true, if_false]
    omega
  · simp only [if_true]
    omega
theorem takeA_len (e t : Int) (s : List Int) (ep c : Int) : (takeA e t s ep c).1.2.2.length ≤ 1048576 := by
  by_cases h : RightW e t s ∧ RightG 0 ep c 0
  · by_cases ho : Old ep c e t
    · rw [takeA_old h ho]; simp
    · by_cases ht : Told e t s ep c
      · rw [takeA_there h ho ht]; simp
      · by_cases hl : e < ep
        · rw [takeA_new h ho ht hl]; simp
        · rw [takeA_same h ho ht hl]
          have h1 := endL_length (min c t) (max c t) s
          rw [endL_eq] at h1
          have h2 := h.1.2.2.1
          simp only
          omega
  · rw [takeA_form h]; simp
theorem takeLaw (e t : Int) (v : Value) (s : List Int) (ep c : Int) (w : World) (hs : s.length ≤ maxLen) (hv : SliceIs w v s) (hg : el.Met w) :
    Calls Tryd.prog 4 #[.agg #[.int .i64 e, .int .i64 t, v], .int .i64 ep, .int .i64 c] w fun r w' => r = .returned (.bool true) ∧ Below w.heap.size w w' := by
  obtain ⟨a1, a2, a3, a4, hE⟩ := hg
  exact takeWalk e t v s ep c w hs hv _ _ _ _ (takeA_len e t s ep c) (fun u x h => takeM_any e t x s ep c u hs h) (fun u x hb h => takeI_any e t x s ep c u hs h (hE.up hb))
end Go.Proofs.YtcgcjikgbbmjiaaDoor.wi
