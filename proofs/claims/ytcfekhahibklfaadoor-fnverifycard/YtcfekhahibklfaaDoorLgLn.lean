/-
  How many records LogRead tells at most. No condition.
-/
import Derived.Test.YtcfekhahibklfaaDoorLogR
namespace Go.Proofs.YtcfekhahibklfaaDoor.ll
open Go.Proofs.YtcfekhahibklfaaDoor.lg
open Go.Proofs.YtcfekhahibklfaaDoor.lm (logR_yes logR_size logR_form)
open Go.Proofs.YtcfekhahibklfaaDoor.sh (macB)

theorem logR_len (key text : ByteArray) : (logR macB key text).1.length ≤ 60 := by
  by_cases h0 : 8000 < key.size ∨ 8000 < text.size
  · rw [logR_size h0]; simp
  · by_cases h : KeyL key
    · rw [logR_yes h (by omega)]
      exact (readF_right 60 (chainS macB key) 0).1
    · rw [logR_form h0 h]; simp
end Go.Proofs.YtcfekhahibklfaaDoor.ll
