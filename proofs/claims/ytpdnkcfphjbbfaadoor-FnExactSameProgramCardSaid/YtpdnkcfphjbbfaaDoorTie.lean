/-
  DERIVED. GIVEN WITH THE SEED: THE PROGRAM's TIES (one call each: nine closed facts by the kernel) AND EACH ROW's TIE, after the 31st guide's Derived/Test/Toyas{Tie, Card}.lean. No idea stands in it: it is a product of the set-up. Laid BY PROGRAM, IN A SANDBOX (cutbox-door.mjs). By AI agents, Wed Nov 11 2026. No macro, syntax, notation, axiom, sorry.
-/
import Derived.Test.YtpdnkcfphjbbfaaDoorRows
import Derived.LaidByTextLater
import Derived.SevenTiedAt
import Derived.LaidSub
import Derived.LaidOnce
namespace Go.Proofs.YtpdnkcfphjbbfaaDoor
open Go
set_option maxRecDepth 100000
theorem seatTie1 : Tryd.prog.laidByTextLater [("loop.example/g00684/impl.operations", Rows.laid_loop_example_g00684_impl_operations), ("loop.example/g00684/impl.fbKinds", Rows.laid_loop_example_g00684_impl_fbKinds), ("loop.example/g00684/impl.effects", Rows.laid_loop_example_g00684_impl_effects)] [.data, .data, .data] true :=
  Program.laidByTextLater_by_one 75 8 109 (by kernel_rfl) (by kernel_rfl) (by kernel_rfl) (by kernel_rfl) (by kernel_rfl) (by kernel_rfl) (fun _ _ => by kernel_rfl)
theorem noOwnUnsafe : Tryd.pinned.checked.prog.headLifts.contains "ownunsafe" = false := by kernel_rfl
theorem tie : Tryd.prog.laidByTextLater [("loop.example/g00684/impl.operations", Rows.laid_loop_example_g00684_impl_operations), ("loop.example/g00684/impl.fbKinds", Rows.laid_loop_example_g00684_impl_fbKinds), ("loop.example/g00684/impl.effects", Rows.laid_loop_example_g00684_impl_effects)] [.data, .data, .data] true :=
  Program.laidByTextLater.sub seatTie1 ["loop.example/g00684/impl.operations", "loop.example/g00684/impl.fbKinds", "loop.example/g00684/impl.effects"] (by kernel_rfl) (by kernel_rfl)
theorem fnExactCheckProgram_row_tie : Rows.fnExactCheckProgramRow.laidByTextAt .later Tryd.pinned [.data, .data, .data] true :=
  OpenClaim.laidByTextAt_later rfl rfl tie noOwnUnsafe
theorem fnExactSameProgram_row_tie : Rows.fnExactSameProgramRow.laidByTextAt .later Tryd.pinned [.data, .data, .data] true :=
  OpenClaim.laidByTextAt_later rfl rfl tie noOwnUnsafe
theorem fnExactCheckProgramUpto_row_tie : Rows.fnExactCheckProgramUptoRow.laidByTextAt .later Tryd.pinned [.data, .data, .data] true :=
  OpenClaim.laidByTextAt_later rfl rfl tie noOwnUnsafe
theorem fnExactSameProgramUpto_row_tie : Rows.fnExactSameProgramUptoRow.laidByTextAt .later Tryd.pinned [.data, .data, .data] true :=
  OpenClaim.laidByTextAt_later rfl rfl tie noOwnUnsafe
end Go.Proofs.YtpdnkcfphjbbfaaDoor
