/-
  DERIVED. GIVEN WITH THE SEED: THE PROGRAM's TIES (one call each: nine closed facts by the kernel) AND EACH ROW's TIE, after the 31st guide's Derived/Test/Toyas{Tie, Card}.lean. No idea stands in it: it is a product of the set-up. Laid BY PROGRAM, IN A SANDBOX (cutbox-door.mjs). By AI agents, Wed Nov 11 2026. No macro, syntax, notation, axiom, sorry.
-/
import Derived.Test.YtppgknjpbfopjaaGreatDoorRows
import Derived.LaidByTextLater
import Derived.SevenTiedAt
import Derived.LaidSub
import Derived.LaidOnce
namespace Go.Proofs.YtppgknjpbfopjaaGreatDoor
open Go
set_option maxRecDepth 100000
theorem seatTie1 : Tryz.prog.laidByTextLater [("loop.example/g00684/impl.errRange", Rows.laid_loop_example_g00684_impl_errRange), ("loop.example/g00684/impl.errEnd", Rows.laid_loop_example_g00684_impl_errEnd), ("loop.example/g00684/impl.operations", Rows.laid_loop_example_g00684_impl_operations), ("loop.example/g00684/impl.fbKinds", Rows.laid_loop_example_g00684_impl_fbKinds), ("loop.example/g00684/impl.effects", Rows.laid_loop_example_g00684_impl_effects)] [.sentinel, .sentinel, .data, .data, .data] true :=
  Program.laidByTextLater_by_one 113 8 109 (by kernel_rfl) (by kernel_rfl) (by kernel_rfl) (by kernel_rfl) (by kernel_rfl) (by kernel_rfl) (fun _ _ => by kernel_rfl)
theorem noOwnUnsafe : Tryz.pinned.checked.prog.headLifts.contains "ownunsafe" = false := by kernel_rfl
theorem tie : Tryz.prog.laidByTextLater [("loop.example/g00684/impl.operations", Rows.laid_loop_example_g00684_impl_operations), ("loop.example/g00684/impl.fbKinds", Rows.laid_loop_example_g00684_impl_fbKinds), ("loop.example/g00684/impl.effects", Rows.laid_loop_example_g00684_impl_effects)] [.data, .data, .data] true :=
  Program.laidByTextLater.sub seatTie1 ["loop.example/g00684/impl.operations", "loop.example/g00684/impl.fbKinds", "loop.example/g00684/impl.effects"] (by kernel_rfl) (by kernel_rfl)
theorem fnExactBoundsOf_row_tie : Rows.fnExactBoundsOfRow.laidByTextAt .later Tryz.pinned [.data, .data, .data] true :=
  OpenClaim.laidByTextAt_later rfl rfl tie noOwnUnsafe
theorem fnExactAdmitProgram_row_tie : Rows.fnExactAdmitProgramRow.laidByTextAt .later Tryz.pinned [.data, .data, .data] true :=
  OpenClaim.laidByTextAt_later rfl rfl tie noOwnUnsafe
theorem fnExactLoadOf_row_tie : Rows.fnExactLoadOfRow.laidByTextAt .later Tryz.pinned [.data, .data, .data] true :=
  OpenClaim.laidByTextAt_later rfl rfl tie noOwnUnsafe
theorem tie2 : Tryz.prog.laidByTextLater [("loop.example/g00684/impl.errRange", Rows.laid_loop_example_g00684_impl_errRange), ("loop.example/g00684/impl.errEnd", Rows.laid_loop_example_g00684_impl_errEnd), ("loop.example/g00684/impl.operations", Rows.laid_loop_example_g00684_impl_operations), ("loop.example/g00684/impl.fbKinds", Rows.laid_loop_example_g00684_impl_fbKinds), ("loop.example/g00684/impl.effects", Rows.laid_loop_example_g00684_impl_effects)] [.sentinel, .sentinel, .data, .data, .data] true :=
  Program.laidByTextLater.sub seatTie1 ["loop.example/g00684/impl.errRange", "loop.example/g00684/impl.errEnd", "loop.example/g00684/impl.operations", "loop.example/g00684/impl.fbKinds", "loop.example/g00684/impl.effects"] (by kernel_rfl) (by kernel_rfl)
theorem fnImage_row_tie : Rows.fnImageRow.laidByTextAt .later Tryz.pinned [.sentinel, .sentinel, .data, .data, .data] true :=
  OpenClaim.laidByTextAt_later rfl rfl tie2 noOwnUnsafe
theorem fnExactBoundsOfUpto_row_tie : Rows.fnExactBoundsOfUptoRow.laidByTextAt .later Tryz.pinned [.data, .data, .data] true :=
  OpenClaim.laidByTextAt_later rfl rfl tie noOwnUnsafe
theorem fnExactAdmitProgramUpto_row_tie : Rows.fnExactAdmitProgramUptoRow.laidByTextAt .later Tryz.pinned [.data, .data, .data] true :=
  OpenClaim.laidByTextAt_later rfl rfl tie noOwnUnsafe
theorem fnExactLoadOfUpto_row_tie : Rows.fnExactLoadOfUptoRow.laidByTextAt .later Tryz.pinned [.data, .data, .data] true :=
  OpenClaim.laidByTextAt_later rfl rfl tie noOwnUnsafe
theorem fnImageUpto_row_tie : Rows.fnImageUptoRow.laidByTextAt .later Tryz.pinned [.sentinel, .sentinel, .data, .data, .data] true :=
  OpenClaim.laidByTextAt_later rfl rfl tie2 noOwnUnsafe
end Go.Proofs.YtppgknjpbfopjaaGreatDoor
