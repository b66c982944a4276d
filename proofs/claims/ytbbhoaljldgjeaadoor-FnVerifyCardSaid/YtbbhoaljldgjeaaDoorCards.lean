/-
  DERIVED. GIVEN WITH THE SEED: THE CARDS: each row of YtbbhoaljldgjeaaDoorRows.lean that lists a variable, with what it lists TIED to the program's text (the seventh form; the later family's looks); each row that meets fmt, with fmt's text TOLD by the authors' own Lean function (tested against real Go, not proved from fmt's source: count such statements apart). THE CARD IS WHAT COUNTS. Prove the row's statement (the work); the ties are given (YtbbhoaljldgjeaaDoorTie.lean); close each card by the builder's one call (the guide's Derived/Test/ToyasCard.lean, 'card_holds'). Laid BY PROGRAM, IN A SANDBOX (cutbox-door.mjs). By AI agents, Wed Nov 11 2026. No macro, syntax, notation, axiom, sorry.
-/
import Derived.Test.YtbbhoaljldgjeaaDoorRows
import GoSem.ClaimSeven
namespace Go.Proofs.YtbbhoaljldgjeaaDoor
namespace Rows

/-- THE TIED CARD OF 'laws.FnVerify'. -/
def fnVerifyCard : Claim7 := { stood := { row := fnVerifyRow, standIns := [], harness := (true, "2e73c294d4f4cf1515994ff6149be66adbec7208e6c36ded8c3dbac1a478583a"), looks := true }, kinds := [], alts := [], laidByText := true, laidKinds := [.data, .data, .data], laidTests := true, laidLooks := .later }
def FnVerifyCardSaid : Prop := Claim7.holds Tryd.pinned (.plain (OpenSpec.ofChange fnVerifySpec)) fnVerifyCard

/-- THE TIED CARD OF 'laws.FnNests'. -/
def fnNestsCard : Claim7 := { stood := { row := fnNestsRow, standIns := [], harness := (true, "2e73c294d4f4cf1515994ff6149be66adbec7208e6c36ded8c3dbac1a478583a"), looks := true }, kinds := [], alts := [], laidByText := true, laidKinds := [.data], laidTests := true, laidLooks := .later }
def FnNestsCardSaid : Prop := Claim7.holds Tryd.pinned (.plain (OpenSpec.ofChange fnNestsSpec)) fnNestsCard

/-- THE TIED CARD OF 'laws.FnExactVerifyCode'. -/
def fnExactVerifyCodeCard : Claim7 := { stood := { row := fnExactVerifyCodeRow, standIns := [], harness := (true, "2e73c294d4f4cf1515994ff6149be66adbec7208e6c36ded8c3dbac1a478583a"), looks := true }, kinds := [], alts := [], laidByText := true, laidKinds := [.data, .data, .data], laidTests := true, laidLooks := .later }
def FnExactVerifyCodeCardSaid : Prop := Claim7.holds Tryd.pinned (.plain (OpenSpec.ofChange fnExactVerifyCodeSpec)) fnExactVerifyCodeCard

/-- THE TIED CARD OF 'laws.FnExactVerifyAll'. -/
def fnExactVerifyAllCard : Claim7 := { stood := { row := fnExactVerifyAllRow, standIns := [], harness := (true, "2e73c294d4f4cf1515994ff6149be66adbec7208e6c36ded8c3dbac1a478583a"), looks := true }, kinds := [], alts := [], laidByText := true, laidKinds := [.data, .data, .data], laidTests := true, laidLooks := .later }
def FnExactVerifyAllCardSaid : Prop := Claim7.holds Tryd.pinned (.plain (OpenSpec.ofChange fnExactVerifyAllSpec)) fnExactVerifyAllCard

/-- THE TIED CARD OF 'laws.FnExactStackAt'. -/
def fnExactStackAtCard : Claim7 := { stood := { row := fnExactStackAtRow, standIns := [], harness := (true, "2e73c294d4f4cf1515994ff6149be66adbec7208e6c36ded8c3dbac1a478583a"), looks := true }, kinds := [], alts := [], laidByText := true, laidKinds := [.data, .data, .data], laidTests := true, laidLooks := .later }
def FnExactStackAtCardSaid : Prop := Claim7.holds Tryd.pinned (.plain (OpenSpec.ofChange fnExactStackAtSpec)) fnExactStackAtCard

/-- THE TIED CARD OF 'laws.FnExactCallsOf'. -/
def fnExactCallsOfCard : Claim7 := { stood := { row := fnExactCallsOfRow, standIns := [], harness := (true, "2e73c294d4f4cf1515994ff6149be66adbec7208e6c36ded8c3dbac1a478583a"), looks := true }, kinds := [], alts := [], laidByText := true, laidKinds := [.data], laidTests := true, laidLooks := .later }
def FnExactCallsOfCardSaid : Prop := Claim7.holds Tryd.pinned (.plain (OpenSpec.ofChange fnExactCallsOfSpec)) fnExactCallsOfCard

/-- THE SECOND FORM's CARD OF 'laws.FnVerify'. -/
def fnVerifyUptoCard : Claim7 := { stood := { row := fnVerifyUptoRow, standIns := [], harness := (true, "2e73c294d4f4cf1515994ff6149be66adbec7208e6c36ded8c3dbac1a478583a"), looks := true }, kinds := [], alts := [], laidByText := true, laidKinds := [.data, .data, .data], laidTests := true, laidLooks := .later }
def FnVerifyUptoCardSaid : Prop := Claim7.holds Tryd.pinned (.plain (OpenSpec.upto fnVerifySpec)) fnVerifyUptoCard

/-- THE SECOND FORM's CARD OF 'laws.FnNests'. -/
def fnNestsUptoCard : Claim7 := { stood := { row := fnNestsUptoRow, standIns := [], harness := (true, "2e73c294d4f4cf1515994ff6149be66adbec7208e6c36ded8c3dbac1a478583a"), looks := true }, kinds := [], alts := [], laidByText := true, laidKinds := [.data], laidTests := true, laidLooks := .later }
def FnNestsUptoCardSaid : Prop := Claim7.holds Tryd.pinned (.plain (OpenSpec.upto fnNestsSpec)) fnNestsUptoCard

/-- THE SECOND FORM's CARD OF 'laws.FnExactVerifyCode'. -/
def fnExactVerifyCodeUptoCard : Claim7 := { stood := { row := fnExactVerifyCodeUptoRow, standIns := [], harness := (true, "2e73c294d4f4cf1515994ff6149be66adbec7208e6c36ded8c3dbac1a478583a"), looks := true }, kinds := [], alts := [], laidByText := true, laidKinds := [.data, .data, .data], laidTests := true, laidLooks := .later }
def FnExactVerifyCodeUptoCardSaid : Prop := Claim7.holds Tryd.pinned (.plain (OpenSpec.upto fnExactVerifyCodeSpec)) fnExactVerifyCodeUptoCard

/-- THE SECOND FORM's CARD OF 'laws.FnExactVerifyAll'. -/
def fnExactVerifyAllUptoCard : Claim7 := { stood := { row := fnExactVerifyAllUptoRow, standIns := [], harness := (true, "2e73c294d4f4cf1515994ff6149be66adbec7208e6c36ded8c3dbac1a478583a"), looks := true }, kinds := [], alts := [], laidByText := true, laidKinds := [.data, .data, .data], laidTests := true, laidLooks := .later }
def FnExactVerifyAllUptoCardSaid : Prop := Claim7.holds Tryd.pinned (.plain (OpenSpec.upto fnExactVerifyAllSpec)) fnExactVerifyAllUptoCard

/-- THE SECOND FORM's CARD OF 'laws.FnExactStackAt'. -/
def fnExactStackAtUptoCard : Claim7 := { stood := { row := fnExactStackAtUptoRow, standIns := [], harness := (true, "2e73c294d4f4cf1515994ff6149be66adbec7208e6c36ded8c3dbac1a478583a"), looks := true }, kinds := [], alts := [], laidByText := true, laidKinds := [.data, .data, .data], laidTests := true, laidLooks := .later }
def FnExactStackAtUptoCardSaid : Prop := Claim7.holds Tryd.pinned (.plain (OpenSpec.upto fnExactStackAtSpec)) fnExactStackAtUptoCard

/-- THE SECOND FORM's CARD OF 'laws.FnExactCallsOf'. -/
def fnExactCallsOfUptoCard : Claim7 := { stood := { row := fnExactCallsOfUptoRow, standIns := [], harness := (true, "2e73c294d4f4cf1515994ff6149be66adbec7208e6c36ded8c3dbac1a478583a"), looks := true }, kinds := [], alts := [], laidByText := true, laidKinds := [.data], laidTests := true, laidLooks := .later }
def FnExactCallsOfUptoCardSaid : Prop := Claim7.holds Tryd.pinned (.plain (OpenSpec.upto fnExactCallsOfSpec)) fnExactCallsOfUptoCard
end Rows
end Go.Proofs.YtbbhoaljldgjeaaDoor
