/-
  DERIVED. GIVEN WITH THE SEED: THE CARDS: each row of YtpdnkcfphjbbfaaDoorRows.lean that lists a variable, with what it lists TIED to the program's text (the seventh form; the later family's looks); each row that meets fmt, with fmt's text TOLD by the authors' own Lean function (tested against real Go, not proved from fmt's source: count such statements apart). THE CARD IS WHAT COUNTS. Prove the row's statement (the work); the ties are given (YtpdnkcfphjbbfaaDoorTie.lean); close each card by the builder's one call (the guide's Derived/Test/ToyasCard.lean, 'card_holds'). Laid BY PROGRAM, IN A SANDBOX (cutbox-door.mjs). By AI agents, Wed Nov 11 2026. No macro, syntax, notation, axiom, sorry.
-/
import Derived.Test.YtpdnkcfphjbbfaaDoorRows
import GoSem.ClaimSeven
namespace Go.Proofs.YtpdnkcfphjbbfaaDoor
namespace Rows

/-- THE TIED CARD OF 'laws.FnExactCheckProgram'. -/
def fnExactCheckProgramCard : Claim7 := { stood := { row := fnExactCheckProgramRow, standIns := [], harness := (true, "6c4c263719617d69cf68feac3db2c883a506097c6599fdfdeec674ca55a63ecf"), looks := true }, kinds := [], alts := [], laidByText := true, laidKinds := [.data, .data, .data], laidTests := true, laidLooks := .later }
def FnExactCheckProgramCardSaid : Prop := Claim7.holds Tryd.pinned (.plain (OpenSpec.ofChange fnExactCheckProgramSpec)) fnExactCheckProgramCard

/-- THE TIED CARD OF 'laws.FnExactSameProgram'. -/
def fnExactSameProgramCard : Claim7 := { stood := { row := fnExactSameProgramRow, standIns := [], harness := (true, "6c4c263719617d69cf68feac3db2c883a506097c6599fdfdeec674ca55a63ecf"), looks := true }, kinds := [], alts := [], laidByText := true, laidKinds := [.data, .data, .data], laidTests := true, laidLooks := .later }
def FnExactSameProgramCardSaid : Prop := Claim7.holds Tryd.pinned (.plain (OpenSpec.ofChange fnExactSameProgramSpec)) fnExactSameProgramCard

/-- THE SECOND FORM's CARD OF 'laws.FnExactCheckProgram'. -/
def fnExactCheckProgramUptoCard : Claim7 := { stood := { row := fnExactCheckProgramUptoRow, standIns := [], harness := (true, "6c4c263719617d69cf68feac3db2c883a506097c6599fdfdeec674ca55a63ecf"), looks := true }, kinds := [], alts := [], laidByText := true, laidKinds := [.data, .data, .data], laidTests := true, laidLooks := .later }
def FnExactCheckProgramUptoCardSaid : Prop := Claim7.holds Tryd.pinned (.plain (OpenSpec.upto fnExactCheckProgramSpec)) fnExactCheckProgramUptoCard

/-- THE SECOND FORM's CARD OF 'laws.FnExactSameProgram'. -/
def fnExactSameProgramUptoCard : Claim7 := { stood := { row := fnExactSameProgramUptoRow, standIns := [], harness := (true, "6c4c263719617d69cf68feac3db2c883a506097c6599fdfdeec674ca55a63ecf"), looks := true }, kinds := [], alts := [], laidByText := true, laidKinds := [.data, .data, .data], laidTests := true, laidLooks := .later }
def FnExactSameProgramUptoCardSaid : Prop := Claim7.holds Tryd.pinned (.plain (OpenSpec.upto fnExactSameProgramSpec)) fnExactSameProgramUptoCard
end Rows
end Go.Proofs.YtpdnkcfphjbbfaaDoor
