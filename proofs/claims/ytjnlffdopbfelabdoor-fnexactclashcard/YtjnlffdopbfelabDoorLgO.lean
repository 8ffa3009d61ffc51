/-
  What the form's reading of a slice of texts gives a walk: what the slice holds. No condition.
-/
import Derived.Test.YtjnlffdopbfelabDoorLogS0
import Derived.Lib.SmallJoins
import Derived.Carry
import Derived.ChangeSlices
import Derived.SliceStrings
namespace Go.Proofs.YtjnlffdopbfelabDoor.lo
open Go.ChangeShapes Go.WideShapes Go.ChangeAt Go.RowKit
open Go.Proofs.YtjnlffdopbfelabDoor.ss
set_option linter.unusedVariables false

set_option maxRecDepth 100000 in
theorem texts_open {H : Type} {enc : TypeId × Value → H} {W : World} {r : Reach} {b0 : Nat} {v : Value} {d : DataW H} {p : List MemPlace}
    (hv : Value.okWide Tryd.prog W r b0 22 v) (h : DataW.Trod enc Tryd.prog W 0 (fun _ => true) true 22 v d p) :
    ∃ s : List ByteArray, s.length ≤ maxLen ∧ (∀ r ∈ s, r.size ≤ maxLen) ∧ SliceIs W v s := by
  obtain ⟨a0, len0, cap0, rfl⟩ := okWide_slice Tryd.underlying22 hv
  obtain ⟨fuel, hf⟩ := h
  rcases open_strings Tryd.underlying22 Tryd.underlying9 (by kernel_rfl) hf with ⟨hcs, _⟩ | ⟨x, l, c, zs, hcs, _, hl, hm, hz, _, hcell, hwz⟩
  · simp [Value.cells] at hcs
    obtain ⟨rfl, rfl, rfl⟩ := hcs
    exact ⟨[], by simp, by simp, .inl ⟨_, _, rfl, rfl⟩⟩
  · simp [Value.cells] at hcs
    obtain ⟨rfl, rfl, rfl⟩ := hcs
    simp only [if_true] at hz
    rcases Nat.eq_zero_or_pos len0 with h0 | h0
    · subst h0
      exact ⟨[], by simp, by simp, .inl ⟨_, _, rfl, rfl⟩⟩
    · have hlen : (zs.take len0).length = len0 := by rw [List.length_take]; omega
      have hc0 := hcell 0 (by omega)
      obtain ⟨xb, xo, xl⟩ := x
      have e0 : (⟨xb, xo, xl⟩ : Addr).add 0 = ⟨xb, xo, xl⟩ := by simp [Addr.add]
      rw [e0] at hc0
      have hxl : xl = none := by
        cases xl with
        | none => rfl
        | some z =>
          unfold World.cell? at hc0
          split at hc0 <;> simp at hc0
      subst hxl
      have hlt : xb < W.heap.size := World.block_lt_of_cell? W _ hc0
      refine ⟨zs.take len0, by rw [hlen]; omega, fun r hr => hwz r (List.mem_of_mem_take hr), .inr ⟨xb, xo, cap0, hlt, by rw [hlen], fun j hj => ?_⟩⟩
      rw [hlen] at hj
      have hcj := hcell j (by omega)
      have ej : (⟨xb, xo, none⟩ : Addr).add j = ⟨xb, xo + j, none⟩ := by unfold Addr.add; split <;> simp_all
      rw [ej] at hcj
      rw [hcj, List.getD, List.getD, List.getElem?_take_of_lt hj]
      rfl
end Go.Proofs.YtjnlffdopbfelabDoor.lo
