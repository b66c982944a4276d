/-
  DERIVED. GIVEN WITH THE SEED: THE CARDS: each row of YtppgknjpbfopjaaGreatDoorRows.lean that lists a variable, with what it lists TIED to the program's text (the seventh form; the later family's looks); each row that meets fmt, with fmt's text TOLD by the authors' own Lean function (tested against real Go, not proved from fmt's source: count such statements apart). THE CARD IS WHAT COUNTS. Prove the row's statement (the work); the ties are given (YtppgknjpbfopjaaGreatDoorTie.lean); close each card by the builder's one call (the guide's Derived/Test/ToyasCard.lean, 'card_holds'). Laid BY PROGRAM, IN A SANDBOX (cutbox-door.mjs). By AI agents, Wed Nov 11 2026. No macro, syntax, notation, axiom, sorry.
-/
import Derived.Test.YtppgknjpbfopjaaGreatDoorRows
import GoSem.ClaimSeven
namespace Go.Proofs.YtppgknjpbfopjaaGreatDoor
namespace Rows

/-- THE TIED CARD OF 'laws.FnExactBoundsOf'. -/
def fnExactBoundsOfCard : Claim7 := { stood := { row := fnExactBoundsOfRow, standIns := [], harness := (true, "19d442cdd6d6122ce0440cfbf0483d6c4a7fb39cb6b0ad00530b254bc08a686e"), looks := true }, kinds := [], alts := [], laidByText := true, laidKinds := [.data, .data, .data], laidTests := true, laidLooks := .later }
def FnExactBoundsOfCardSaid : Prop := Claim7.holds Tryz.pinned (.plain (OpenSpec.ofChange fnExactBoundsOfSpec)) fnExactBoundsOfCard

/-- THE TIED CARD OF 'laws.FnExactAdmitProgram'. -/
def fnExactAdmitProgramCard : Claim7 := { stood := { row := fnExactAdmitProgramRow, standIns := [], harness := (true, "19d442cdd6d6122ce0440cfbf0483d6c4a7fb39cb6b0ad00530b254bc08a686e"), looks := true }, kinds := [], alts := [], laidByText := true, laidKinds := [.data, .data, .data], laidTests := true, laidLooks := .later }
def FnExactAdmitProgramCardSaid : Prop := Claim7.holds Tryz.pinned (.plain (OpenSpec.ofChange fnExactAdmitProgramSpec)) fnExactAdmitProgramCard

/-- THE TIED CARD OF 'laws.FnExactLoadOf'. -/
def fnExactLoadOfCard : Claim7 := { stood := { row := fnExactLoadOfRow, standIns := [], harness := (true, "19d442cdd6d6122ce0440cfbf0483d6c4a7fb39cb6b0ad00530b254bc08a686e"), looks := true }, kinds := [], alts := [], laidByText := true, laidKinds := [.data, .data, .data], laidTests := true, laidLooks := .later }
def FnExactLoadOfCardSaid : Prop := Claim7.holds Tryz.pinned (.plain (OpenSpec.ofChange fnExactLoadOfSpec)) fnExactLoadOfCard

/-- THE TIED CARD OF 'laws.FnImage'. -/
def fnImageCard : Claim7 := { stood := { row := fnImageRow, standIns := [], harness := (true, "19d442cdd6d6122ce0440cfbf0483d6c4a7fb39cb6b0ad00530b254bc08a686e"), looks := true }, kinds := [], alts := [], laidByText := true, laidKinds := [.sentinel, .sentinel, .data, .data, .data], laidTests := true, laidLooks := .later }
def FnImageCardSaid : Prop := Claim7.holds Tryz.pinned (.plain (OpenSpec.ofChange fnImageSpec)) fnImageCard

/-- THE SECOND FORM's CARD OF 'laws.FnExactBoundsOf'. -/
def fnExactBoundsOfUptoCard : Claim7 := { stood := { row := fnExactBoundsOfUptoRow, standIns := [], harness := (true, "19d442cdd6d6122ce0440cfbf0483d6c4a7fb39cb6b0ad00530b254bc08a686e"), looks := true }, kinds := [], alts := [], laidByText := true, laidKinds := [.data, .data, .data], laidTests := true, laidLooks := .later }
def FnExactBoundsOfUptoCardSaid : Prop := Claim7.holds Tryz.pinned (.plain (OpenSpec.upto fnExactBoundsOfSpec)) fnExactBoundsOfUptoCard

/-- THE SECOND FORM's CARD OF 'laws.FnExactAdmitProgram'. -/
def fnExactAdmitProgramUptoCard : Claim7 := { stood := { row := fnExactAdmitProgramUptoRow, standIns := [], harness := (true, "19d442cdd6d6122ce0440cfbf0483d6c4a7fb39cb6b0ad00530b254bc08a686e"), looks := true }, kinds := [], alts := [], laidByText := true, laidKinds := [.data, .data, .data], laidTests := true, laidLooks := .later }
def FnExactAdmitProgramUptoCardSaid : Prop := Claim7.holds Tryz.pinned (.plain (OpenSpec.upto fnExactAdmitProgramSpec)) fnExactAdmitProgramUptoCard

/-- THE SECOND FORM's CARD OF 'laws.FnExactLoadOf'. -/
def fnExactLoadOfUptoCard : Claim7 := { stood := { row := fnExactLoadOfUptoRow, standIns := [], harness := (true, "19d442cdd6d6122ce0440cfbf0483d6c4a7fb39cb6b0ad00530b254bc08a686e"), looks := true }, kinds := [], alts := [], laidByText := true, laidKinds := [.data, .data, .data], laidTests := true, laidLooks := .later }
def FnExactLoadOfUptoCardSaid : Prop := Claim7.holds Tryz.pinned (.plain (OpenSpec.upto fnExactLoadOfSpec)) fnExactLoadOfUptoCard

/-- THE SECOND FORM's CARD OF 'laws.FnImage'. -/
def fnImageUptoCard : Claim7 := { stood := { row := fnImageUptoRow, standIns := [], harness := (true, "19d442cdd6d6122ce0440cfbf0483d6c4a7fb39cb6b0ad00530b254bc08a686e"), looks := true }, kinds := [], alts := [], laidByText := true, laidKinds := [.sentinel, .sentinel, .data, .data, .data], laidTests := true, laidLooks := .later }
def FnImageUptoCardSaid : Prop := Claim7.holds Tryz.pinned (.plain (OpenSpec.upto fnImageSpec)) fnImageUptoCard
end Rows
end Go.Proofs.YtppgknjpbfopjaaGreatDoor
