/-
  A text of bytes 0, made and turned. No condition.
-/
import Derived.Test.YtkghbabnchofpaaDoorDraw0
namespace Go.Proofs.YtkghbabnchofpaaDoor.dr
open Go.ChangeShapes Go.WideShapes Go.ChangeAt Go.RowKit
set_option linter.unusedVariables false

theorem info5z : (Tryd.prog.info? 5).map (fun i => (i.zero, i.size, i.bytes)) = some (some (.int .u8 0), 1, 1) := by kernel_rfl
theorem zeros_make (N : Nat) (hN : N ≤ 1048576) (u : World) : (Instr.makeSlice 22 (.int .i64 (N : Int)) (.int .i64 (N : Int))).run Tryd.prog u =
    .ok (.slice (some ⟨u.heap.size, 0, none⟩) N N) (u.alloc (.cells (madeCells #[.int .u8 0] N) 5)) := by
  obtain ⟨i0, hi, hz0, hz1, hz2⟩ := info_parts info5z
  have h := run_make (P := Tryd.prog) u 22 5 i0 (.int .u8 0) Tryd.underlying22 hi hz0 .i64 .i64 (N : Int) (N : Int) (by omega) (Int.le_refl _) (by rw [hz2]; omega) (by omega)
  simpa [hz1, Value.cells] using h
theorem zeros_conv (N : Nat) (u : World) : (convert 22 9 (.slice (some ⟨u.heap.size, 0, none⟩) N N)).run Tryd.prog (u.alloc (.cells (madeCells #[.int .u8 0] N) 5)) =
    .ok (.string ⟨(List.replicate N (0 : UInt8)).toArray⟩) (u.alloc (.cells (madeCells #[.int .u8 0] N) 5)) := by
  have h := run_convert_bytes_back (P := Tryd.prog) (u.alloc (.cells (madeCells #[.int .u8 0] N) 5)) 22 9 5 ⟨u.heap.size, 0, none⟩ N (List.replicate N (0 : UInt8)) Tryd.underlying22 Tryd.underlying5 Tryd.underlying9 (fun j hj => by
    have e : (⟨u.heap.size, 0, none⟩ : Addr).add j = ⟨u.heap.size, j, none⟩ := by unfold Addr.add; split <;> simp_all
    rw [e]
    simp at hj
    simp [madeCells, hj, Nat.mod_one])
  simpa using h
end Go.Proofs.YtkghbabnchofpaaDoor.dr
