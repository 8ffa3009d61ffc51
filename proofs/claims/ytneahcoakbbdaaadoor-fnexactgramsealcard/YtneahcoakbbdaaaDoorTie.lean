/-
  DERIVED. GIVEN WITH THE SEED: THE PROGRAM's TIES (one call each: nine closed facts by the kernel) AND EACH ROW's TIE, after the 31st guide's Derived/Test/Toyas{Tie, Card}.lean. No idea stands in it: it is a product of the set-up. Laid BY PROGRAM, IN A SANDBOX (cutbox-door.mjs). By AI agents, Wed Nov 11 2026. No macro, syntax, notation, axiom, sorry.
-/
import Derived.Test.YtneahcoakbbdaaaDoorRows
import Derived.LaidByTextLater
import Derived.SevenTiedAt
import Derived.LaidSub
import Derived.LaidOnce
namespace Go.Proofs.YtneahcoakbbdaaaDoor
open Go
set_option maxRecDepth 100000
theorem seatTie1 : Tryd.prog.laidByTextLater [("errors.errorType", Rows.laid_errors_errorType), ("loop.example/g00455/impl.roundWords", Rows.laid_loop_example_g00455_impl_roundWords), ("loop.example/g00455/impl.mixPlaces", Rows.laid_loop_example_g00455_impl_mixPlaces), ("loop.example/g00455/impl.errNotRight", Rows.laid_loop_example_g00455_impl_errNotRight), ("loop.example/g00455/impl.errNoGram", Rows.laid_loop_example_g00455_impl_errNoGram), ("loop.example/g00455/impl.errTooOld", Rows.laid_loop_example_g00455_impl_errTooOld), ("loop.example/g00455/impl.errTaken", Rows.laid_loop_example_g00455_impl_errTaken)] [.handle, .data, .data, .sentinel, .sentinel, .sentinel, .sentinel] true :=
  Program.laidByTextLater_by_one 110 8 65 (by kernel_rfl) (by kernel_rfl) (by kernel_rfl) (by kernel_rfl) (by kernel_rfl) (by kernel_rfl) (fun _ _ => by kernel_rfl)
theorem noOwnUnsafe : Tryd.pinned.checked.prog.headLifts.contains "ownunsafe" = false := by kernel_rfl
theorem tie : Tryd.prog.laidByTextLater [("loop.example/g00455/impl.roundWords", Rows.laid_loop_example_g00455_impl_roundWords), ("loop.example/g00455/impl.mixPlaces", Rows.laid_loop_example_g00455_impl_mixPlaces)] [.data, .data] true :=
  Program.laidByTextLater.sub seatTie1 ["loop.example/g00455/impl.roundWords", "loop.example/g00455/impl.mixPlaces"] (by kernel_rfl) (by kernel_rfl)
theorem fnExactSealBox_row_tie : Rows.fnExactSealBoxRow.laidByTextAt .later Tryd.pinned [.data, .data] true :=
  OpenClaim.laidByTextAt_later rfl rfl tie noOwnUnsafe
theorem fnExactGramSeal_row_tie : Rows.fnExactGramSealRow.laidByTextAt .later Tryd.pinned [.data, .data] true :=
  OpenClaim.laidByTextAt_later rfl rfl tie noOwnUnsafe
theorem tie2 : Tryd.prog.laidByTextLater [("errors.errorType", Rows.laid_errors_errorType), ("loop.example/g00455/impl.roundWords", Rows.laid_loop_example_g00455_impl_roundWords), ("loop.example/g00455/impl.mixPlaces", Rows.laid_loop_example_g00455_impl_mixPlaces), ("loop.example/g00455/impl.errNotRight", Rows.laid_loop_example_g00455_impl_errNotRight), ("loop.example/g00455/impl.errNoGram", Rows.laid_loop_example_g00455_impl_errNoGram), ("loop.example/g00455/impl.errTooOld", Rows.laid_loop_example_g00455_impl_errTooOld), ("loop.example/g00455/impl.errTaken", Rows.laid_loop_example_g00455_impl_errTaken)] [.handle, .data, .data, .sentinel, .sentinel, .sentinel, .sentinel] true :=
  Program.laidByTextLater.sub seatTie1 ["errors.errorType", "loop.example/g00455/impl.roundWords", "loop.example/g00455/impl.mixPlaces", "loop.example/g00455/impl.errNotRight", "loop.example/g00455/impl.errNoGram", "loop.example/g00455/impl.errTooOld", "loop.example/g00455/impl.errTaken"] (by kernel_rfl) (by kernel_rfl)
theorem fnExactGramOpen_row_tie : Rows.fnExactGramOpenRow.laidByTextAt .later Tryd.pinned [.handle, .data, .data, .sentinel, .sentinel, .sentinel, .sentinel] true :=
  OpenClaim.laidByTextAt_later rfl rfl tie2 noOwnUnsafe
theorem tie3 : Tryd.prog.laidByTextLater [("errors.errorType", Rows.laid_errors_errorType), ("loop.example/g00455/impl.errNotRight", Rows.laid_loop_example_g00455_impl_errNotRight), ("loop.example/g00455/impl.errNoGram", Rows.laid_loop_example_g00455_impl_errNoGram), ("loop.example/g00455/impl.errTooOld", Rows.laid_loop_example_g00455_impl_errTooOld), ("loop.example/g00455/impl.errTaken", Rows.laid_loop_example_g00455_impl_errTaken)] [.handle, .sentinel, .sentinel, .sentinel, .sentinel] true :=
  Program.laidByTextLater.sub seatTie1 ["errors.errorType", "loop.example/g00455/impl.errNotRight", "loop.example/g00455/impl.errNoGram", "loop.example/g00455/impl.errTooOld", "loop.example/g00455/impl.errTaken"] (by kernel_rfl) (by kernel_rfl)
theorem fnExactWindowTake_row_tie : Rows.fnExactWindowTakeRow.laidByTextAt .later Tryd.pinned [.handle, .sentinel, .sentinel, .sentinel, .sentinel] true :=
  OpenClaim.laidByTextAt_later rfl rfl tie3 noOwnUnsafe
theorem fnExactSealBoxUpto_row_tie : Rows.fnExactSealBoxUptoRow.laidByTextAt .later Tryd.pinned [.data, .data] true :=
  OpenClaim.laidByTextAt_later rfl rfl tie noOwnUnsafe
theorem fnExactGramSealUpto_row_tie : Rows.fnExactGramSealUptoRow.laidByTextAt .later Tryd.pinned [.data, .data] true :=
  OpenClaim.laidByTextAt_later rfl rfl tie noOwnUnsafe
theorem fnExactGramOpenUpto_row_tie : Rows.fnExactGramOpenUptoRow.laidByTextAt .later Tryd.pinned [.handle, .data, .data, .sentinel, .sentinel, .sentinel, .sentinel] true :=
  OpenClaim.laidByTextAt_later rfl rfl tie2 noOwnUnsafe
theorem fnExactWindowTakeUpto_row_tie : Rows.fnExactWindowTakeUptoRow.laidByTextAt .later Tryd.pinned [.handle, .sentinel, .sentinel, .sentinel, .sentinel] true :=
  OpenClaim.laidByTextAt_later rfl rfl tie3 noOwnUnsafe
end Go.Proofs.YtneahcoakbbdaaaDoor
