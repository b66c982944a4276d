/-
  DERIVED. GIVEN WITH THE SEED: THE CARDS: each row of YtgiegppakoiaiaaDoorRows.lean that lists a variable, with what it lists TIED to the program's text (the seventh form; the later family's looks); each row that meets fmt, with fmt's text TOLD by the authors' own Lean function (tested against real Go, not proved from fmt's source: count such statements apart). THE CARD IS WHAT COUNTS. Prove the row's statement (the work); the ties are given (YtgiegppakoiaiaaDoorTie.lean); close each card by the builder's one call (the guide's Derived/Test/ToyasCard.lean, 'card_holds'). Laid BY PROGRAM, IN A SANDBOX (cutbox-door.mjs). By AI agents, Wed Nov 11 2026. No macro, syntax, notation, axiom, sorry.
-/
import Derived.Test.YtgiegppakoiaiaaDoorRows
import GoSem.ClaimSeven
namespace Go.Proofs.YtgiegppakoiaiaaDoor
namespace Rows

/-- THE TIED CARD OF 'laws.FnOps'. -/
def fnOpsCard : Claim7 := { stood := { row := fnOpsRow, standIns := [], harness := (true, "8ed1b84f0a144df0c60bfbc5bf7c90cee319a2ebcb39dd74bfe26380be723eeb"), looks := true }, kinds := [], alts := [], laidByText := true, laidKinds := [.data, .data, .data], laidTests := true, laidLooks := .later }
def FnOpsCardSaid : Prop := Claim7.holds Tryd.pinned (.plain (OpenSpec.ofChange fnOpsSpec)) fnOpsCard

/-- THE TIED CARD OF 'laws.FnExactCostsOf'. -/
def fnExactCostsOfCard : Claim7 := { stood := { row := fnExactCostsOfRow, standIns := [], harness := (true, "8ed1b84f0a144df0c60bfbc5bf7c90cee319a2ebcb39dd74bfe26380be723eeb"), looks := true }, kinds := [], alts := [], laidByText := true, laidKinds := [.data, .data, .data], laidTests := true, laidLooks := .later }
def FnExactCostsOfCardSaid : Prop := Claim7.holds Tryd.pinned (.plain (OpenSpec.ofChange fnExactCostsOfSpec)) fnExactCostsOfCard

/-- THE TIED CARD OF 'laws.FnExactDataOK'. -/
def fnExactDataOKCard : Claim7 := { stood := { row := fnExactDataOKRow, standIns := [], harness := (true, "8ed1b84f0a144df0c60bfbc5bf7c90cee319a2ebcb39dd74bfe26380be723eeb"), looks := true }, kinds := [], alts := [], laidByText := true, laidKinds := [.data], laidTests := true, laidLooks := .later }
def FnExactDataOKCardSaid : Prop := Claim7.holds Tryd.pinned (.plain (OpenSpec.ofChange fnExactDataOKSpec)) fnExactDataOKCard

/-- THE TIED CARD OF 'laws.FnExactKindsOf'. -/
def fnExactKindsOfCard : Claim7 := { stood := { row := fnExactKindsOfRow, standIns := [], harness := (true, "8ed1b84f0a144df0c60bfbc5bf7c90cee319a2ebcb39dd74bfe26380be723eeb"), looks := true }, kinds := [], alts := [], laidByText := true, laidKinds := [.data], laidTests := true, laidLooks := .later }
def FnExactKindsOfCardSaid : Prop := Claim7.holds Tryd.pinned (.plain (OpenSpec.ofChange fnExactKindsOfSpec)) fnExactKindsOfCard

/-- THE TIED CARD OF 'laws.FnExactApplyOp'. -/
def fnExactApplyOpCard : Claim7 := { stood := { row := fnExactApplyOpRow, standIns := [], harness := (true, "8ed1b84f0a144df0c60bfbc5bf7c90cee319a2ebcb39dd74bfe26380be723eeb"), looks := true }, kinds := [], alts := [], laidByText := true, laidKinds := [.data, .data, .data], laidTests := true, laidLooks := .later }
def FnExactApplyOpCardSaid : Prop := Claim7.holds Tryd.pinned (.plain (OpenSpec.ofChange fnExactApplyOpSpec)) fnExactApplyOpCard

/-- THE TIED CARD OF 'laws.FnExactSameData'. -/
def fnExactSameDataCard : Claim7 := { stood := { row := fnExactSameDataRow, standIns := [], harness := (true, "8ed1b84f0a144df0c60bfbc5bf7c90cee319a2ebcb39dd74bfe26380be723eeb"), looks := true }, kinds := [], alts := [], laidByText := true, laidKinds := [.data], laidTests := true, laidLooks := .later }
def FnExactSameDataCardSaid : Prop := Claim7.holds Tryd.pinned (.plain (OpenSpec.ofChange fnExactSameDataSpec)) fnExactSameDataCard

/-- THE SECOND FORM's CARD OF 'laws.FnOps'. -/
def fnOpsUptoCard : Claim7 := { stood := { row := fnOpsUptoRow, standIns := [], harness := (true, "8ed1b84f0a144df0c60bfbc5bf7c90cee319a2ebcb39dd74bfe26380be723eeb"), looks := true }, kinds := [], alts := [], laidByText := true, laidKinds := [.data, .data, .data], laidTests := true, laidLooks := .later }
def FnOpsUptoCardSaid : Prop := Claim7.holds Tryd.pinned (.plain (OpenSpec.upto fnOpsSpec)) fnOpsUptoCard

/-- THE SECOND FORM's CARD OF 'laws.FnExactCostsOf'. -/
def fnExactCostsOfUptoCard : Claim7 := { stood := { row := fnExactCostsOfUptoRow, standIns := [], harness := (true, "8ed1b84f0a144df0c60bfbc5bf7c90cee319a2ebcb39dd74bfe26380be723eeb"), looks := true }, kinds := [], alts := [], laidByText := true, laidKinds := [.data, .data, .data], laidTests := true, laidLooks := .later }
def FnExactCostsOfUptoCardSaid : Prop := Claim7.holds Tryd.pinned (.plain (OpenSpec.upto fnExactCostsOfSpec)) fnExactCostsOfUptoCard

/-- THE SECOND FORM's CARD OF 'laws.FnExactDataOK'. -/
def fnExactDataOKUptoCard : Claim7 := { stood := { row := fnExactDataOKUptoRow, standIns := [], harness := (true, "8ed1b84f0a144df0c60bfbc5bf7c90cee319a2ebcb39dd74bfe26380be723eeb"), looks := true }, kinds := [], alts := [], laidByText := true, laidKinds := [.data], laidTests := true, laidLooks := .later }
def FnExactDataOKUptoCardSaid : Prop := Claim7.holds Tryd.pinned (.plain (OpenSpec.upto fnExactDataOKSpec)) fnExactDataOKUptoCard

/-- THE SECOND FORM's CARD OF 'laws.FnExactKindsOf'. -/
def fnExactKindsOfUptoCard : Claim7 := { stood := { row := fnExactKindsOfUptoRow, standIns := [], harness := (true, "8ed1b84f0a144df0c60bfbc5bf7c90cee319a2ebcb39dd74bfe26380be723eeb"), looks := true }, kinds := [], alts := [], laidByText := true, laidKinds := [.data], laidTests := true, laidLooks := .later }
def FnExactKindsOfUptoCardSaid : Prop := Claim7.holds Tryd.pinned (.plain (OpenSpec.upto fnExactKindsOfSpec)) fnExactKindsOfUptoCard

/-- THE SECOND FORM's CARD OF 'laws.FnExactApplyOp'. -/
def fnExactApplyOpUptoCard : Claim7 := { stood := { row := fnExactApplyOpUptoRow, standIns := [], harness := (true, "8ed1b84f0a144df0c60bfbc5bf7c90cee319a2ebcb39dd74bfe26380be723eeb"), looks := true }, kinds := [], alts := [], laidByText := true, laidKinds := [.data, .data, .data], laidTests := true, laidLooks := .later }
def FnExactApplyOpUptoCardSaid : Prop := Claim7.holds Tryd.pinned (.plain (OpenSpec.upto fnExactApplyOpSpec)) fnExactApplyOpUptoCard

/-- THE SECOND FORM's CARD OF 'laws.FnExactSameData'. -/
def fnExactSameDataUptoCard : Claim7 := { stood := { row := fnExactSameDataUptoRow, standIns := [], harness := (true, "8ed1b84f0a144df0c60bfbc5bf7c90cee319a2ebcb39dd74bfe26380be723eeb"), looks := true }, kinds := [], alts := [], laidByText := true, laidKinds := [.data], laidTests := true, laidLooks := .later }
def FnExactSameDataUptoCardSaid : Prop := Claim7.holds Tryd.pinned (.plain (OpenSpec.upto fnExactSameDataSpec)) fnExactSameDataUptoCard
end Rows
end Go.Proofs.YtgiegppakoiaiaaDoor
