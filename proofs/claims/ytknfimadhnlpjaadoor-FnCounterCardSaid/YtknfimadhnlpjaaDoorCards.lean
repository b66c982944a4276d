/-
  DERIVED. GIVEN WITH THE SEED: THE CARDS: each row of YtknfimadhnlpjaaDoorRows.lean that lists a variable, with what it lists TIED to the program's text (the seventh form; the later family's looks); each row that meets fmt, with fmt's text TOLD by the authors' own Lean function (tested against real Go, not proved from fmt's source: count such statements apart). THE CARD IS WHAT COUNTS. Prove the row's statement (the work); the ties are given (YtknfimadhnlpjaaDoorTie.lean); close each card by the builder's one call (the guide's Derived/Test/ToyasCard.lean, 'card_holds'). Laid BY PROGRAM, IN A SANDBOX (cutbox-door.mjs). By AI agents, Wed Nov 11 2026. No macro, syntax, notation, axiom, sorry.
-/
import Derived.Test.YtknfimadhnlpjaaDoorRows
import GoSem.ClaimSeven
namespace Go.Proofs.YtknfimadhnlpjaaDoor
namespace Rows

/-- THE TIED CARD OF 'laws.FnTimer'. -/
def fnTimerCard : Claim7 := { stood := { row := fnTimerRow, standIns := [], harness := (true, "0e9d28761effb1b751031238ed9791fd71af74691db5aa480446532cc9fc4168"), looks := false }, kinds := [], alts := [], laidByText := true, laidKinds := [.data], laidTests := true, laidLooks := .later }
def FnTimerCardSaid : Prop := Claim7.holds Tryd.pinned (.plain (OpenSpec.ofChange fnTimerSpec)) fnTimerCard

/-- THE TIED CARD OF 'laws.FnCounter'. -/
def fnCounterCard : Claim7 := { stood := { row := fnCounterRow, standIns := [], harness := (true, "0e9d28761effb1b751031238ed9791fd71af74691db5aa480446532cc9fc4168"), looks := false }, kinds := [], alts := [], laidByText := true, laidKinds := [.data], laidTests := true, laidLooks := .later }
def FnCounterCardSaid : Prop := Claim7.holds Tryd.pinned (.plain (OpenSpec.ofChange fnCounterSpec)) fnCounterCard

/-- THE TIED CARD OF 'laws.FnBlocks'. -/
def fnBlocksCard : Claim7 := { stood := { row := fnBlocksRow, standIns := [], harness := (true, "0e9d28761effb1b751031238ed9791fd71af74691db5aa480446532cc9fc4168"), looks := false }, kinds := [], alts := [], laidByText := true, laidKinds := [.data, .data, .data, .data], laidTests := true, laidLooks := .later }
def FnBlocksCardSaid : Prop := Claim7.holds Tryd.pinned (.plain (OpenSpec.ofChange fnBlocksSpec)) fnBlocksCard

/-- THE TIED CARD OF 'laws.FnExactFbOK'. -/
def fnExactFbOKCard : Claim7 := { stood := { row := fnExactFbOKRow, standIns := [], harness := (true, "0e9d28761effb1b751031238ed9791fd71af74691db5aa480446532cc9fc4168"), looks := false }, kinds := [], alts := [], laidByText := true, laidKinds := [.data], laidTests := true, laidLooks := .later }
def FnExactFbOKCardSaid : Prop := Claim7.holds Tryd.pinned (.plain (OpenSpec.ofChange fnExactFbOKSpec)) fnExactFbOKCard

/-- THE TIED CARD OF 'laws.FnExactTakesOf'. -/
def fnExactTakesOfCard : Claim7 := { stood := { row := fnExactTakesOfRow, standIns := [], harness := (true, "0e9d28761effb1b751031238ed9791fd71af74691db5aa480446532cc9fc4168"), looks := false }, kinds := [], alts := [], laidByText := true, laidKinds := [.data], laidTests := true, laidLooks := .later }
def FnExactTakesOfCardSaid : Prop := Claim7.holds Tryd.pinned (.plain (OpenSpec.ofChange fnExactTakesOfSpec)) fnExactTakesOfCard

/-- THE TIED CARD OF 'laws.FnExactStepBlock'. -/
def fnExactStepBlockCard : Claim7 := { stood := { row := fnExactStepBlockRow, standIns := [], harness := (true, "0e9d28761effb1b751031238ed9791fd71af74691db5aa480446532cc9fc4168"), looks := false }, kinds := [], alts := [], laidByText := true, laidKinds := [.data], laidTests := true, laidLooks := .later }
def FnExactStepBlockCardSaid : Prop := Claim7.holds Tryd.pinned (.plain (OpenSpec.ofChange fnExactStepBlockSpec)) fnExactStepBlockCard

/-- THE TIED CARD OF 'laws.FnExactValueOf'. -/
def fnExactValueOfCard : Claim7 := { stood := { row := fnExactValueOfRow, standIns := [], harness := (true, "0e9d28761effb1b751031238ed9791fd71af74691db5aa480446532cc9fc4168"), looks := false }, kinds := [], alts := [], laidByText := true, laidKinds := [.data], laidTests := true, laidLooks := .later }
def FnExactValueOfCardSaid : Prop := Claim7.holds Tryd.pinned (.plain (OpenSpec.ofChange fnExactValueOfSpec)) fnExactValueOfCard

/-- THE TIED CARD OF 'laws.FnExactFbText'. -/
def fnExactFbTextCard : Claim7 := { stood := { row := fnExactFbTextRow, standIns := [], harness := (true, "0e9d28761effb1b751031238ed9791fd71af74691db5aa480446532cc9fc4168"), looks := false }, kinds := [], alts := [], laidByText := true, laidKinds := [.data, .data, .data, .data], laidTests := true, laidLooks := .later }
def FnExactFbTextCardSaid : Prop := Claim7.holds Tryd.pinned (.plain (OpenSpec.ofChange fnExactFbTextSpec)) fnExactFbTextCard

/-- THE SECOND FORM's CARD OF 'laws.FnTimer'. -/
def fnTimerUptoCard : Claim7 := { stood := { row := fnTimerUptoRow, standIns := [], harness := (true, "0e9d28761effb1b751031238ed9791fd71af74691db5aa480446532cc9fc4168"), looks := false }, kinds := [], alts := [], laidByText := true, laidKinds := [.data], laidTests := true, laidLooks := .later }
def FnTimerUptoCardSaid : Prop := Claim7.holds Tryd.pinned (.plain (OpenSpec.upto fnTimerSpec)) fnTimerUptoCard

/-- THE SECOND FORM's CARD OF 'laws.FnCounter'. -/
def fnCounterUptoCard : Claim7 := { stood := { row := fnCounterUptoRow, standIns := [], harness := (true, "0e9d28761effb1b751031238ed9791fd71af74691db5aa480446532cc9fc4168"), looks := false }, kinds := [], alts := [], laidByText := true, laidKinds := [.data], laidTests := true, laidLooks := .later }
def FnCounterUptoCardSaid : Prop := Claim7.holds Tryd.pinned (.plain (OpenSpec.upto fnCounterSpec)) fnCounterUptoCard

/-- THE SECOND FORM's CARD OF 'laws.FnBlocks'. -/
def fnBlocksUptoCard : Claim7 := { stood := { row := fnBlocksUptoRow, standIns := [], harness := (true, "0e9d28761effb1b751031238ed9791fd71af74691db5aa480446532cc9fc4168"), looks := false }, kinds := [], alts := [], laidByText := true, laidKinds := [.data, .data, .data, .data], laidTests := true, laidLooks := .later }
def FnBlocksUptoCardSaid : Prop := Claim7.holds Tryd.pinned (.plain (OpenSpec.upto fnBlocksSpec)) fnBlocksUptoCard

/-- THE SECOND FORM's CARD OF 'laws.FnExactFbOK'. -/
def fnExactFbOKUptoCard : Claim7 := { stood := { row := fnExactFbOKUptoRow, standIns := [], harness := (true, "0e9d28761effb1b751031238ed9791fd71af74691db5aa480446532cc9fc4168"), looks := false }, kinds := [], alts := [], laidByText := true, laidKinds := [.data], laidTests := true, laidLooks := .later }
def FnExactFbOKUptoCardSaid : Prop := Claim7.holds Tryd.pinned (.plain (OpenSpec.upto fnExactFbOKSpec)) fnExactFbOKUptoCard

/-- THE SECOND FORM's CARD OF 'laws.FnExactTakesOf'. -/
def fnExactTakesOfUptoCard : Claim7 := { stood := { row := fnExactTakesOfUptoRow, standIns := [], harness := (true, "0e9d28761effb1b751031238ed9791fd71af74691db5aa480446532cc9fc4168"), looks := false }, kinds := [], alts := [], laidByText := true, laidKinds := [.data], laidTests := true, laidLooks := .later }
def FnExactTakesOfUptoCardSaid : Prop := Claim7.holds Tryd.pinned (.plain (OpenSpec.upto fnExactTakesOfSpec)) fnExactTakesOfUptoCard

/-- THE SECOND FORM's CARD OF 'laws.FnExactStepBlock'. -/
def fnExactStepBlockUptoCard : Claim7 := { stood := { row := fnExactStepBlockUptoRow, standIns := [], harness := (true, "0e9d28761effb1b751031238ed9791fd71af74691db5aa480446532cc9fc4168"), looks := false }, kinds := [], alts := [], laidByText := true, laidKinds := [.data], laidTests := true, laidLooks := .later }
def FnExactStepBlockUptoCardSaid : Prop := Claim7.holds Tryd.pinned (.plain (OpenSpec.upto fnExactStepBlockSpec)) fnExactStepBlockUptoCard

/-- THE SECOND FORM's CARD OF 'laws.FnExactValueOf'. -/
def fnExactValueOfUptoCard : Claim7 := { stood := { row := fnExactValueOfUptoRow, standIns := [], harness := (true, "0e9d28761effb1b751031238ed9791fd71af74691db5aa480446532cc9fc4168"), looks := false }, kinds := [], alts := [], laidByText := true, laidKinds := [.data], laidTests := true, laidLooks := .later }
def FnExactValueOfUptoCardSaid : Prop := Claim7.holds Tryd.pinned (.plain (OpenSpec.upto fnExactValueOfSpec)) fnExactValueOfUptoCard

/-- THE SECOND FORM's CARD OF 'laws.FnExactFbText'. -/
def fnExactFbTextUptoCard : Claim7 := { stood := { row := fnExactFbTextUptoRow, standIns := [], harness := (true, "0e9d28761effb1b751031238ed9791fd71af74691db5aa480446532cc9fc4168"), looks := false }, kinds := [], alts := [], laidByText := true, laidKinds := [.data, .data, .data, .data], laidTests := true, laidLooks := .later }
def FnExactFbTextUptoCardSaid : Prop := Claim7.holds Tryd.pinned (.plain (OpenSpec.upto fnExactFbTextSpec)) fnExactFbTextUptoCard
end Rows
end Go.Proofs.YtknfimadhnlpjaaDoor
