/-
  The model's GramOpen at every key and text, all cases together: what the plain function tells. No condition.
-/
import Derived.Test.YtneahcoakbbdaaaDoorGramN
namespace Go.Proofs.YtneahcoakbbdaaaDoor.gm
open Go.ChangeShapes Go.WideShapes Go.ChangeAt Go.RowKit
open Go.Proofs.YtneahcoakbbdaaaDoor.wi (RightG gramI_any gramM_any heap_lt wp_w calls_w is_any)
open Go.Proofs.YtneahcoakbbdaaaDoor.np (getV numV)
open Classical
set_option linter.unusedVariables false

theorem openM_any (key text : ByteArray) (w : World) (hk : key.size ≤ maxLen) (ht : text.size ≤ maxLen) :
    Calls Tryd.prog 13 #[.string key, .string text] w fun r w' => r = .returned (outG (openG key text)) ∧ Below w.heap.size w w' := by
  by_cases hsz : 8000 < key.size ∨ 8000 < text.size
  · rw [openG_size hsz]
    exact openM_size key text w hk ht hsz
  · have hk' : key.size ≤ 8000 := by omega
    have ht' : text.size ≤ 8000 := by omega
    by_cases h1 : KeyR key
    · obtain ⟨n, a, c, hg⟩ : ∃ n a c, getV text 0 = (n, a, c) := ⟨_, _, _, rfl⟩
      by_cases h2 : c = 0 ∧ 0 ≤ n ∧ n ≤ 804401
      · obtain ⟨rfl, h2⟩ := h2
        obtain ⟨T, c, ho⟩ : ∃ T c, cc.openA key n (text.extract a.toNat text.size) = (T, c) := ⟨_, _, rfl⟩
        exact openM_box key text w hk' ht' h1 n a hg h2 T c ho
      · rw [openG_num hsz h1 hg h2]
        exact openM_num key text w hk' ht' h1 n a c hg h2
    · rw [openG_key hsz h1]
      exact openM_key key text w hk' ht' h1

end Go.Proofs.YtneahcoakbbdaaaDoor.gm
