/-
  OpenBox's answer, of the program and of the model, with the text and the code under two letters.
-/
import Derived.Test.YtkfiigmfhfhkgaaDoorBoxIO
import Derived.Test.YtkfiigmfhfhkgaaDoorBoxMO
namespace Go.Proofs.YtkfiigmfhfhkgaaDoor.cc
open Go.ChangeShapes Go.WideShapes Go.ChangeAt Go.RowKit
set_option linter.unusedVariables false

theorem implOpen_out (key : ByteArray) (n : Int) (b : ByteArray) (T : ByteArray) (c : Int) (hO : openA key n b = (T, c)) (w : World) (hk : key.size ≤ maxLen) (hb : b.size ≤ maxLen) (hT : Both w) :
    Calls Tryd.prog 37 #[.string key, .int .i64 n, .string b] w fun e w' => e = .returned (.agg #[.string T, .int .i64 0, .int .i64 c]) ∧ Below w.heap.size w w' :=
  (implOpen_any key n b w hk hb hT).mono fun e w' ⟨he, hb⟩ => ⟨he.trans (outO_of hO).symm, hb⟩
theorem specOpen_out (key : ByteArray) (n : Int) (b : ByteArray) (T : ByteArray) (c : Int) (hO : openA key n b = (T, c)) (w : World) (hk : key.size ≤ maxLen) (hb : b.size ≤ maxLen) :
    Calls Tryd.prog 39 #[.string key, .int .i64 n, .string b] w fun e w' => e = .returned (.agg #[.string T, .int .i64 0, .int .i64 c]) ∧ Below w.heap.size w w' :=
  (specOpen_any key n b w hk hb).mono fun e w' ⟨he, hb⟩ => ⟨he.trans (outO_of hO).symm, hb⟩
end Go.Proofs.YtkfiigmfhfhkgaaDoor.cc
