/-
  DERIVED. GIVEN WITH THE SEED: THE PROGRAM's TIES (one call each: nine closed facts by the kernel) AND EACH ROW's TIE, after the 31st guide's Derived/Test/Toyas{Tie, Card}.lean. No idea stands in it: it is a product of the set-up. Laid BY PROGRAM, IN A SANDBOX (cutbox-door.mjs). By AI agents, Wed Nov 11 2026. No macro, syntax, notation, axiom, sorry.
-/
import Derived.Test.YtgbhihenflooeaaDoorRows
import Derived.LaidByTextLater
import Derived.SevenTiedAt
import Derived.LaidSub
import Derived.LaidOnce
namespace Go.Proofs.YtgbhihenflooeaaDoor
open Go
set_option maxRecDepth 100000
theorem seatTie1 : Tryd.prog.laidByTextLater [("loop.example/g00684/impl.errRange", Rows.laid_loop_example_g00684_impl_errRange), ("loop.example/g00684/impl.errEnd", Rows.laid_loop_example_g00684_impl_errEnd), ("loop.example/g00684/impl.operations", Rows.laid_loop_example_g00684_impl_operations), ("loop.example/g00684/impl.fbKinds", Rows.laid_loop_example_g00684_impl_fbKinds), ("loop.example/g00684/impl.effects", Rows.laid_loop_example_g00684_impl_effects)] [.sentinel, .sentinel, .data, .data, .data] true :=
  Program.laidByTextLater_by_one 113 8 109 (by kernel_rfl) (by kernel_rfl) (by kernel_rfl) (by kernel_rfl) (by kernel_rfl) (by kernel_rfl) (fun _ _ => by kernel_rfl)
theorem noOwnUnsafe : Tryd.pinned.checked.prog.headLifts.contains "ownunsafe" = false := by kernel_rfl
theorem tie : Tryd.prog.laidByTextLater [("loop.example/g00684/impl.errRange", Rows.laid_loop_example_g00684_impl_errRange), ("loop.example/g00684/impl.errEnd", Rows.laid_loop_example_g00684_impl_errEnd), ("loop.example/g00684/impl.operations", Rows.laid_loop_example_g00684_impl_operations)] [.sentinel, .sentinel, .data] true :=
  Program.laidByTextLater.sub seatTie1 ["loop.example/g00684/impl.errRange", "loop.example/g00684/impl.errEnd", "loop.example/g00684/impl.operations"] (by kernel_rfl) (by kernel_rfl)
theorem fnCode_row_tie : Rows.fnCodeRow.laidByTextAt .later Tryd.pinned [.sentinel, .sentinel, .data] true :=
  OpenClaim.laidByTextAt_later rfl rfl tie noOwnUnsafe
theorem fnExactCodeText_row_tie : Rows.fnExactCodeTextRow.laidByTextAt .later Tryd.pinned [.sentinel, .sentinel, .data] true :=
  OpenClaim.laidByTextAt_later rfl rfl tie noOwnUnsafe
theorem tie2 : Tryd.prog.laidByTextLater [("loop.example/g00684/impl.operations", Rows.laid_loop_example_g00684_impl_operations), ("loop.example/g00684/impl.fbKinds", Rows.laid_loop_example_g00684_impl_fbKinds), ("loop.example/g00684/impl.effects", Rows.laid_loop_example_g00684_impl_effects)] [.data, .data, .data] true :=
  Program.laidByTextLater.sub seatTie1 ["loop.example/g00684/impl.operations", "loop.example/g00684/impl.fbKinds", "loop.example/g00684/impl.effects"] (by kernel_rfl) (by kernel_rfl)
theorem fnOps_row_tie : Rows.fnOpsRow.laidByTextAt .later Tryd.pinned [.data, .data, .data] true :=
  OpenClaim.laidByTextAt_later rfl rfl tie2 noOwnUnsafe
theorem fnExactApplyOp_row_tie : Rows.fnExactApplyOpRow.laidByTextAt .later Tryd.pinned [.data, .data, .data] true :=
  OpenClaim.laidByTextAt_later rfl rfl tie2 noOwnUnsafe
theorem fnCodeUpto_row_tie : Rows.fnCodeUptoRow.laidByTextAt .later Tryd.pinned [.sentinel, .sentinel, .data] true :=
  OpenClaim.laidByTextAt_later rfl rfl tie noOwnUnsafe
theorem fnOpsUpto_row_tie : Rows.fnOpsUptoRow.laidByTextAt .later Tryd.pinned [.data, .data, .data] true :=
  OpenClaim.laidByTextAt_later rfl rfl tie2 noOwnUnsafe
theorem fnExactCodeTextUpto_row_tie : Rows.fnExactCodeTextUptoRow.laidByTextAt .later Tryd.pinned [.sentinel, .sentinel, .data] true :=
  OpenClaim.laidByTextAt_later rfl rfl tie noOwnUnsafe
theorem fnExactApplyOpUpto_row_tie : Rows.fnExactApplyOpUptoRow.laidByTextAt .later Tryd.pinned [.data, .data, .data] true :=
  OpenClaim.laidByTextAt_later rfl rfl tie2 noOwnUnsafe
end Go.Proofs.YtgbhihenflooeaaDoor
