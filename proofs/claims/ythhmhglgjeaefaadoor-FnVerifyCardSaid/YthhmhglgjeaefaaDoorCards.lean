/-
  DERIVED. GIVEN WITH THE SEED: THE CARDS: each row of YthhmhglgjeaefaaDoorRows.lean that lists a variable, with what it lists TIED to the program's text (the seventh form; the later family's looks); each row that meets fmt, with fmt's text TOLD by the authors' own Lean function (tested against real Go, not proved from fmt's source: count such statements apart). THE CARD IS WHAT COUNTS. Prove the row's statement (the work); the ties are given (YthhmhglgjeaefaaDoorTie.lean); close each card by the builder's one call (the guide's Derived/Test/ToyasCard.lean, 'card_holds'). Laid BY PROGRAM, IN A SANDBOX (cutbox-door.mjs). By AI agents, Wed Nov 11 2026. No macro, syntax, notation, axiom, sorry.
-/
import Derived.Test.YthhmhglgjeaefaaDoorRows
import GoSem.ClaimSeven
namespace Go.Proofs.YthhmhglgjeaefaaDoor
namespace Rows

/-- THE TIED CARD OF 'laws.FnVerify'. -/
def fnVerifyCard : Claim7 := { stood := { row := fnVerifyRow, standIns := [], harness := (true, "45d1843589511abac018e0dcd5d1c6e115b61172b3f5614c8bb2bd8841c56216"), looks := true }, kinds := [], alts := [], laidByText := true, laidKinds := [.data, .data, .data], laidTests := true, laidLooks := .later }
def FnVerifyCardSaid : Prop := Claim7.holds Tryd.pinned (.plain (OpenSpec.ofChange fnVerifySpec)) fnVerifyCard

/-- THE TIED CARD OF 'laws.FnNests'. -/
def fnNestsCard : Claim7 := { stood := { row := fnNestsRow, standIns := [], harness := (true, "45d1843589511abac018e0dcd5d1c6e115b61172b3f5614c8bb2bd8841c56216"), looks := true }, kinds := [], alts := [], laidByText := true, laidKinds := [.data], laidTests := true, laidLooks := .later }
def FnNestsCardSaid : Prop := Claim7.holds Tryd.pinned (.plain (OpenSpec.ofChange fnNestsSpec)) fnNestsCard

/-- THE SECOND FORM's CARD OF 'laws.FnVerify'. -/
def fnVerifyUptoCard : Claim7 := { stood := { row := fnVerifyUptoRow, standIns := [], harness := (true, "45d1843589511abac018e0dcd5d1c6e115b61172b3f5614c8bb2bd8841c56216"), looks := true }, kinds := [], alts := [], laidByText := true, laidKinds := [.data, .data, .data], laidTests := true, laidLooks := .later }
def FnVerifyUptoCardSaid : Prop := Claim7.holds Tryd.pinned (.plain (OpenSpec.upto fnVerifySpec)) fnVerifyUptoCard

/-- THE SECOND FORM's CARD OF 'laws.FnNests'. -/
def fnNestsUptoCard : Claim7 := { stood := { row := fnNestsUptoRow, standIns := [], harness := (true, "45d1843589511abac018e0dcd5d1c6e115b61172b3f5614c8bb2bd8841c56216"), looks := true }, kinds := [], alts := [], laidByText := true, laidKinds := [.data], laidTests := true, laidLooks := .later }
def FnNestsUptoCardSaid : Prop := Claim7.holds Tryd.pinned (.plain (OpenSpec.upto fnNestsSpec)) fnNestsUptoCard
end Rows
end Go.Proofs.YthhmhglgjeaefaaDoor
