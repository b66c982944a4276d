/-
  DERIVED. GIVEN WITH THE SEED: THE CARDS: each row of YtnehaidkhpjpbaaDoorRows.lean that lists a variable, with what it lists TIED to the program's text (the seventh form; the later family's looks); each row that meets fmt, with fmt's text TOLD by the authors' own Lean function (tested against real Go, not proved from fmt's source: count such statements apart). THE CARD IS WHAT COUNTS. Prove the row's statement (the work); the ties are given (YtnehaidkhpjpbaaDoorTie.lean); close each card by the builder's one call (the guide's Derived/Test/ToyasCard.lean, 'card_holds'). Laid BY PROGRAM, IN A SANDBOX (cutbox-door.mjs). By AI agents, Wed Nov 11 2026. No macro, syntax, notation, axiom, sorry.
-/
import Derived.Test.YtnehaidkhpjpbaaDoorRows
import GoSem.ClaimSeven
namespace Go.Proofs.YtnehaidkhpjpbaaDoor
namespace Rows

/-- THE TIED CARD OF 'laws.FnExactVerifyCode'. -/
def fnExactVerifyCodeCard : Claim7 := { stood := { row := fnExactVerifyCodeRow, standIns := [], harness := (true, "01df67ab7b6323ab491c68db9a7c8b9500f99db4ff577ca0362e179b6ba1673b"), looks := true }, kinds := [], alts := [], laidByText := true, laidKinds := [.data, .data, .data], laidTests := true, laidLooks := .later }
def FnExactVerifyCodeCardSaid : Prop := Claim7.holds Tryd.pinned (.plain (OpenSpec.ofChange fnExactVerifyCodeSpec)) fnExactVerifyCodeCard

/-- THE TIED CARD OF 'laws.FnExactVerifyAll'. -/
def fnExactVerifyAllCard : Claim7 := { stood := { row := fnExactVerifyAllRow, standIns := [], harness := (true, "01df67ab7b6323ab491c68db9a7c8b9500f99db4ff577ca0362e179b6ba1673b"), looks := true }, kinds := [], alts := [], laidByText := true, laidKinds := [.data, .data, .data], laidTests := true, laidLooks := .later }
def FnExactVerifyAllCardSaid : Prop := Claim7.holds Tryd.pinned (.plain (OpenSpec.ofChange fnExactVerifyAllSpec)) fnExactVerifyAllCard

/-- THE TIED CARD OF 'laws.FnExactStackAt'. -/
def fnExactStackAtCard : Claim7 := { stood := { row := fnExactStackAtRow, standIns := [], harness := (true, "01df67ab7b6323ab491c68db9a7c8b9500f99db4ff577ca0362e179b6ba1673b"), looks := true }, kinds := [], alts := [], laidByText := true, laidKinds := [.data, .data, .data], laidTests := true, laidLooks := .later }
def FnExactStackAtCardSaid : Prop := Claim7.holds Tryd.pinned (.plain (OpenSpec.ofChange fnExactStackAtSpec)) fnExactStackAtCard

/-- THE TIED CARD OF 'laws.FnExactCallsOf'. -/
def fnExactCallsOfCard : Claim7 := { stood := { row := fnExactCallsOfRow, standIns := [], harness := (true, "01df67ab7b6323ab491c68db9a7c8b9500f99db4ff577ca0362e179b6ba1673b"), looks := true }, kinds := [], alts := [], laidByText := true, laidKinds := [.data], laidTests := true, laidLooks := .later }
def FnExactCallsOfCardSaid : Prop := Claim7.holds Tryd.pinned (.plain (OpenSpec.ofChange fnExactCallsOfSpec)) fnExactCallsOfCard

/-- THE TIED CARD OF 'laws.FnExactCostsOf'. -/
def fnExactCostsOfCard : Claim7 := { stood := { row := fnExactCostsOfRow, standIns := [], harness := (true, "01df67ab7b6323ab491c68db9a7c8b9500f99db4ff577ca0362e179b6ba1673b"), looks := true }, kinds := [], alts := [], laidByText := true, laidKinds := [.data, .data, .data], laidTests := true, laidLooks := .later }
def FnExactCostsOfCardSaid : Prop := Claim7.holds Tryd.pinned (.plain (OpenSpec.ofChange fnExactCostsOfSpec)) fnExactCostsOfCard

/-- THE TIED CARD OF 'laws.FnExactFlatOf'. -/
def fnExactFlatOfCard : Claim7 := { stood := { row := fnExactFlatOfRow, standIns := [], harness := (true, "01df67ab7b6323ab491c68db9a7c8b9500f99db4ff577ca0362e179b6ba1673b"), looks := true }, kinds := [], alts := [], laidByText := true, laidKinds := [.data, .data, .data], laidTests := true, laidLooks := .later }
def FnExactFlatOfCardSaid : Prop := Claim7.holds Tryd.pinned (.plain (OpenSpec.ofChange fnExactFlatOfSpec)) fnExactFlatOfCard

/-- THE TIED CARD OF 'laws.FnExactNewCore'. -/
def fnExactNewCoreCard : Claim7 := { stood := { row := fnExactNewCoreRow, standIns := [], harness := (true, "01df67ab7b6323ab491c68db9a7c8b9500f99db4ff577ca0362e179b6ba1673b"), looks := true }, kinds := [], alts := [], laidByText := true, laidKinds := [.data, .data, .data], laidTests := true, laidLooks := .later }
def FnExactNewCoreCardSaid : Prop := Claim7.holds Tryd.pinned (.plain (OpenSpec.ofChange fnExactNewCoreSpec)) fnExactNewCoreCard

/-- THE TIED CARD OF 'laws.FnExactCoreOK'. -/
def fnExactCoreOKCard : Claim7 := { stood := { row := fnExactCoreOKRow, standIns := [], harness := (true, "01df67ab7b6323ab491c68db9a7c8b9500f99db4ff577ca0362e179b6ba1673b"), looks := true }, kinds := [], alts := [], laidByText := true, laidKinds := [.data, .data, .data], laidTests := true, laidLooks := .later }
def FnExactCoreOKCardSaid : Prop := Claim7.holds Tryd.pinned (.plain (OpenSpec.ofChange fnExactCoreOKSpec)) fnExactCoreOKCard

/-- THE SECOND FORM's CARD OF 'laws.FnExactVerifyCode'. -/
def fnExactVerifyCodeUptoCard : Claim7 := { stood := { row := fnExactVerifyCodeUptoRow, standIns := [], harness := (true, "01df67ab7b6323ab491c68db9a7c8b9500f99db4ff577ca0362e179b6ba1673b"), looks := true }, kinds := [], alts := [], laidByText := true, laidKinds := [.data, .data, .data], laidTests := true, laidLooks := .later }
def FnExactVerifyCodeUptoCardSaid : Prop := Claim7.holds Tryd.pinned (.plain (OpenSpec.upto fnExactVerifyCodeSpec)) fnExactVerifyCodeUptoCard

/-- THE SECOND FORM's CARD OF 'laws.FnExactVerifyAll'. -/
def fnExactVerifyAllUptoCard : Claim7 := { stood := { row := fnExactVerifyAllUptoRow, standIns := [], harness := (true, "01df67ab7b6323ab491c68db9a7c8b9500f99db4ff577ca0362e179b6ba1673b"), looks := true }, kinds := [], alts := [], laidByText := true, laidKinds := [.data, .data, .data], laidTests := true, laidLooks := .later }
def FnExactVerifyAllUptoCardSaid : Prop := Claim7.holds Tryd.pinned (.plain (OpenSpec.upto fnExactVerifyAllSpec)) fnExactVerifyAllUptoCard

/-- THE SECOND FORM's CARD OF 'laws.FnExactStackAt'. -/
def fnExactStackAtUptoCard : Claim7 := { stood := { row := fnExactStackAtUptoRow, standIns := [], harness := (true, "01df67ab7b6323ab491c68db9a7c8b9500f99db4ff577ca0362e179b6ba1673b"), looks := true }, kinds := [], alts := [], laidByText := true, laidKinds := [.data, .data, .data], laidTests := true, laidLooks := .later }
def FnExactStackAtUptoCardSaid : Prop := Claim7.holds Tryd.pinned (.plain (OpenSpec.upto fnExactStackAtSpec)) fnExactStackAtUptoCard

/-- THE SECOND FORM's CARD OF 'laws.FnExactCallsOf'. -/
def fnExactCallsOfUptoCard : Claim7 := { stood := { row := fnExactCallsOfUptoRow, standIns := [], harness := (true, "01df67ab7b6323ab491c68db9a7c8b9500f99db4ff577ca0362e179b6ba1673b"), looks := true }, kinds := [], alts := [], laidByText := true, laidKinds := [.data], laidTests := true, laidLooks := .later }
def FnExactCallsOfUptoCardSaid : Prop := Claim7.holds Tryd.pinned (.plain (OpenSpec.upto fnExactCallsOfSpec)) fnExactCallsOfUptoCard

/-- THE SECOND FORM's CARD OF 'laws.FnExactCostsOf'. -/
def fnExactCostsOfUptoCard : Claim7 := { stood := { row := fnExactCostsOfUptoRow, standIns := [], harness := (true, "01df67ab7b6323ab491c68db9a7c8b9500f99db4ff577ca0362e179b6ba1673b"), looks := true }, kinds := [], alts := [], laidByText := true, laidKinds := [.data, .data, .data], laidTests := true, laidLooks := .later }
def FnExactCostsOfUptoCardSaid : Prop := Claim7.holds Tryd.pinned (.plain (OpenSpec.upto fnExactCostsOfSpec)) fnExactCostsOfUptoCard

/-- THE SECOND FORM's CARD OF 'laws.FnExactFlatOf'. -/
def fnExactFlatOfUptoCard : Claim7 := { stood := { row := fnExactFlatOfUptoRow, standIns := [], harness := (true, "01df67ab7b6323ab491c68db9a7c8b9500f99db4ff577ca0362e179b6ba1673b"), looks := true }, kinds := [], alts := [], laidByText := true, laidKinds := [.data, .data, .data], laidTests := true, laidLooks := .later }
def FnExactFlatOfUptoCardSaid : Prop := Claim7.holds Tryd.pinned (.plain (OpenSpec.upto fnExactFlatOfSpec)) fnExactFlatOfUptoCard

/-- THE SECOND FORM's CARD OF 'laws.FnExactNewCore'. -/
def fnExactNewCoreUptoCard : Claim7 := { stood := { row := fnExactNewCoreUptoRow, standIns := [], harness := (true, "01df67ab7b6323ab491c68db9a7c8b9500f99db4ff577ca0362e179b6ba1673b"), looks := true }, kinds := [], alts := [], laidByText := true, laidKinds := [.data, .data, .data], laidTests := true, laidLooks := .later }
def FnExactNewCoreUptoCardSaid : Prop := Claim7.holds Tryd.pinned (.plain (OpenSpec.upto fnExactNewCoreSpec)) fnExactNewCoreUptoCard

/-- THE SECOND FORM's CARD OF 'laws.FnExactCoreOK'. -/
def fnExactCoreOKUptoCard : Claim7 := { stood := { row := fnExactCoreOKUptoRow, standIns := [], harness := (true, "01df67ab7b6323ab491c68db9a7c8b9500f99db4ff577ca0362e179b6ba1673b"), looks := true }, kinds := [], alts := [], laidByText := true, laidKinds := [.data, .data, .data], laidTests := true, laidLooks := .later }
def FnExactCoreOKUptoCardSaid : Prop := Claim7.holds Tryd.pinned (.plain (OpenSpec.upto fnExactCoreOKSpec)) fnExactCoreOKUptoCard
end Rows
end Go.Proofs.YtnehaidkhpjpbaaDoor
