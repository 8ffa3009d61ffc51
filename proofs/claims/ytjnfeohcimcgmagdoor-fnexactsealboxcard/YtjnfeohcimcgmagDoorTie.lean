/-
  DERIVED. GIVEN WITH THE SEED: THE PROGRAM's TIES (one call each: nine closed facts by the kernel) AND EACH ROW's TIE, after the 31st guide's Derived/Test/Toyas{Tie, Card}.lean. No idea stands in it: it is a product of the set-up. Laid BY PROGRAM, IN A SANDBOX (cutbox-door.mjs). By AI agents, Wed Nov 11 2026. No macro, syntax, notation, axiom, sorry.
-/
import Derived.Test.YtjnfeohcimcgmagDoorRows
import Derived.LaidByTextLater
import Derived.SevenTiedAt
import Derived.LaidSub
import Derived.LaidOnce
namespace Go.Proofs.YtjnfeohcimcgmagDoor
open Go
set_option maxRecDepth 100000
theorem seatTie1 : Tryd.prog.laidByTextLater [("loop.example/g00455/impl.roundWords", Rows.laid_loop_example_g00455_impl_roundWords), ("loop.example/g00455/impl.mixPlaces", Rows.laid_loop_example_g00455_impl_mixPlaces)] [.data, .data] true :=
  Program.laidByTextLater_by_one 27 8 65 (by kernel_rfl) (by kernel_rfl) (by kernel_rfl) (by kernel_rfl) (by kernel_rfl) (by kernel_rfl) (fun _ _ => by kernel_rfl)
theorem noOwnUnsafe : Tryd.pinned.checked.prog.headLifts.contains "ownunsafe" = false := by kernel_rfl
theorem tie : Tryd.prog.laidByTextLater [("loop.example/g00455/impl.roundWords", Rows.laid_loop_example_g00455_impl_roundWords)] [.data] true :=
  Program.laidByTextLater.sub seatTie1 ["loop.example/g00455/impl.roundWords"] (by kernel_rfl) (by kernel_rfl)
theorem fnExactMac_row_tie : Rows.fnExactMacRow.laidByTextAt .later Tryd.pinned [.data] true :=
  OpenClaim.laidByTextAt_later rfl rfl tie noOwnUnsafe
theorem fnExactStretch_row_tie : Rows.fnExactStretchRow.laidByTextAt .later Tryd.pinned [.data] true :=
  OpenClaim.laidByTextAt_later rfl rfl tie noOwnUnsafe
theorem tie2 : Tryd.prog.laidByTextLater [("loop.example/g00455/impl.mixPlaces", Rows.laid_loop_example_g00455_impl_mixPlaces)] [.data] true :=
  Program.laidByTextLater.sub seatTie1 ["loop.example/g00455/impl.mixPlaces"] (by kernel_rfl) (by kernel_rfl)
theorem fnExactBlock_row_tie : Rows.fnExactBlockRow.laidByTextAt .later Tryd.pinned [.data] true :=
  OpenClaim.laidByTextAt_later rfl rfl tie2 noOwnUnsafe
theorem fnExactCipher_row_tie : Rows.fnExactCipherRow.laidByTextAt .later Tryd.pinned [.data] true :=
  OpenClaim.laidByTextAt_later rfl rfl tie2 noOwnUnsafe
theorem tie3 : Tryd.prog.laidByTextLater [("loop.example/g00455/impl.roundWords", Rows.laid_loop_example_g00455_impl_roundWords), ("loop.example/g00455/impl.mixPlaces", Rows.laid_loop_example_g00455_impl_mixPlaces)] [.data, .data] true :=
  Program.laidByTextLater.sub seatTie1 ["loop.example/g00455/impl.roundWords", "loop.example/g00455/impl.mixPlaces"] (by kernel_rfl) (by kernel_rfl)
theorem fnExactSealBox_row_tie : Rows.fnExactSealBoxRow.laidByTextAt .later Tryd.pinned [.data, .data] true :=
  OpenClaim.laidByTextAt_later rfl rfl tie3 noOwnUnsafe
theorem fnExactMacUpto_row_tie : Rows.fnExactMacUptoRow.laidByTextAt .later Tryd.pinned [.data] true :=
  OpenClaim.laidByTextAt_later rfl rfl tie noOwnUnsafe
theorem fnExactStretchUpto_row_tie : Rows.fnExactStretchUptoRow.laidByTextAt .later Tryd.pinned [.data] true :=
  OpenClaim.laidByTextAt_later rfl rfl tie noOwnUnsafe
theorem fnExactBlockUpto_row_tie : Rows.fnExactBlockUptoRow.laidByTextAt .later Tryd.pinned [.data] true :=
  OpenClaim.laidByTextAt_later rfl rfl tie2 noOwnUnsafe
theorem fnExactCipherUpto_row_tie : Rows.fnExactCipherUptoRow.laidByTextAt .later Tryd.pinned [.data] true :=
  OpenClaim.laidByTextAt_later rfl rfl tie2 noOwnUnsafe
theorem fnExactSealBoxUpto_row_tie : Rows.fnExactSealBoxUptoRow.laidByTextAt .later Tryd.pinned [.data, .data] true :=
  OpenClaim.laidByTextAt_later rfl rfl tie3 noOwnUnsafe
end Go.Proofs.YtjnfeohcimcgmagDoor
