/-
  DERIVED. GIVEN WITH THE SEED: THE CARDS: each row of YtgbnoaclklbjbaaDoorRows.lean that lists a variable, with what it lists TIED to the program's text (the seventh form; the later family's looks); each row that meets fmt, with fmt's text TOLD by the authors' own Lean function (tested against real Go, not proved from fmt's source: count such statements apart). THE CARD IS WHAT COUNTS. Prove the row's statement (the work); the ties are given (YtgbnoaclklbjbaaDoorTie.lean); close each card by the builder's one call (the guide's Derived/Test/ToyasCard.lean, 'card_holds'). Laid BY PROGRAM, IN A SANDBOX (cutbox-door.mjs). By AI agents, Wed Nov 11 2026. No macro, syntax, notation, axiom, sorry.
-/
import Derived.Test.YtgbnoaclklbjbaaDoorRows
import GoSem.ClaimSeven
namespace Go.Proofs.YtgbnoaclklbjbaaDoor
namespace Rows

/-- THE TIED CARD OF 'laws.FnExactSourceText'. -/
def fnExactSourceTextCard : Claim7 := { stood := { row := fnExactSourceTextRow, standIns := [], harness := (true, "d6ace6c1c13fd573f9669b5f4d8329bafe53e8603efd36a603b236fac7836e50"), looks := false }, kinds := [], alts := [], laidByText := true, laidKinds := [.data, .data, .data], laidTests := true, laidLooks := .later }
def FnExactSourceTextCardSaid : Prop := Claim7.holds Tryd.pinned (.plain (OpenSpec.ofChange fnExactSourceTextSpec)) fnExactSourceTextCard

/-- THE TIED CARD OF 'laws.FnDrop'. -/
def fnDropCard : Claim7 := { stood := { row := fnDropRow, standIns := [], harness := (true, "d6ace6c1c13fd573f9669b5f4d8329bafe53e8603efd36a603b236fac7836e50"), looks := false }, kinds := [], alts := [], laidByText := true, laidKinds := [.data, .data, .data], laidTests := true, laidLooks := .later }
def FnDropCardSaid : Prop := Claim7.holds Tryd.pinned (.plain (OpenSpec.ofChange fnDropSpec)) fnDropCard

/-- THE SECOND FORM's CARD OF 'laws.FnExactSourceText'. -/
def fnExactSourceTextUptoCard : Claim7 := { stood := { row := fnExactSourceTextUptoRow, standIns := [], harness := (true, "d6ace6c1c13fd573f9669b5f4d8329bafe53e8603efd36a603b236fac7836e50"), looks := false }, kinds := [], alts := [], laidByText := true, laidKinds := [.data, .data, .data], laidTests := true, laidLooks := .later }
def FnExactSourceTextUptoCardSaid : Prop := Claim7.holds Tryd.pinned (.plain (OpenSpec.upto fnExactSourceTextSpec)) fnExactSourceTextUptoCard

/-- THE SECOND FORM's CARD OF 'laws.FnDrop'. -/
def fnDropUptoCard : Claim7 := { stood := { row := fnDropUptoRow, standIns := [], harness := (true, "d6ace6c1c13fd573f9669b5f4d8329bafe53e8603efd36a603b236fac7836e50"), looks := false }, kinds := [], alts := [], laidByText := true, laidKinds := [.data, .data, .data], laidTests := true, laidLooks := .later }
def FnDropUptoCardSaid : Prop := Claim7.holds Tryd.pinned (.plain (OpenSpec.upto fnDropSpec)) fnDropUptoCard
end Rows
end Go.Proofs.YtgbnoaclklbjbaaDoor
