/-
  DERIVED. GIVEN WITH THE SEED: THE CARDS: each row of YtmpppfibeoghaaaGreatDoorRows.lean that lists a variable, with what it lists TIED to the program's text (the seventh form; the later family's looks); each row that meets fmt, with fmt's text TOLD by the authors' own Lean function (tested against real Go, not proved from fmt's source: count such statements apart). THE CARD IS WHAT COUNTS. Prove the row's statement (the work); the ties are given (YtmpppfibeoghaaaGreatDoorTie.lean); close each card by the builder's one call (the guide's Derived/Test/ToyasCard.lean, 'card_holds'). Laid BY PROGRAM, IN A SANDBOX (cutbox-door.mjs). By AI agents, Wed Nov 11 2026. No macro, syntax, notation, axiom, sorry.
-/
import Derived.Test.YtmpppfibeoghaaaGreatDoorRows
import GoSem.ClaimSeven
namespace Go.Proofs.YtmpppfibeoghaaaGreatDoor
namespace Rows

/-- THE TIED CARD OF 'laws.FnImage'. -/
def fnImageCard : Claim7 := { stood := { row := fnImageRow, standIns := [], harness := (true, "5df01fbe28f797a6364eed885bea2f47fb13b79fb755a9c62b0195b2f32dcf41"), looks := true }, kinds := [], alts := [], laidByText := true, laidKinds := [.sentinel, .sentinel, .data, .data, .data], laidTests := true, laidLooks := .later }
def FnImageCardSaid : Prop := Claim7.holds Tryz.pinned (.plain (OpenSpec.ofChange fnImageSpec)) fnImageCard

/-- THE TIED CARD OF 'laws.FnExactImageText'. -/
def fnExactImageTextCard : Claim7 := { stood := { row := fnExactImageTextRow, standIns := [], harness := (true, "5df01fbe28f797a6364eed885bea2f47fb13b79fb755a9c62b0195b2f32dcf41"), looks := true }, kinds := [], alts := [], laidByText := true, laidKinds := [.sentinel, .sentinel, .data, .data, .data], laidTests := true, laidLooks := .later }
def FnExactImageTextCardSaid : Prop := Claim7.holds Tryz.pinned (.plain (OpenSpec.ofChange fnExactImageTextSpec)) fnExactImageTextCard

/-- THE TIED CARD OF 'laws.FnExactReadImage'. -/
def fnExactReadImageCard : Claim7 := { stood := { row := fnExactReadImageRow, standIns := [], harness := (true, "5df01fbe28f797a6364eed885bea2f47fb13b79fb755a9c62b0195b2f32dcf41"), looks := true }, kinds := [], alts := [], laidByText := true, laidKinds := [.sentinel, .sentinel, .data, .data, .data], laidTests := true, laidLooks := .later }
def FnExactReadImageCardSaid : Prop := Claim7.holds Tryz.pinned (.plain (OpenSpec.ofChange fnExactReadImageSpec)) fnExactReadImageCard

/-- THE SECOND FORM's CARD OF 'laws.FnImage'. -/
def fnImageUptoCard : Claim7 := { stood := { row := fnImageUptoRow, standIns := [], harness := (true, "5df01fbe28f797a6364eed885bea2f47fb13b79fb755a9c62b0195b2f32dcf41"), looks := true }, kinds := [], alts := [], laidByText := true, laidKinds := [.sentinel, .sentinel, .data, .data, .data], laidTests := true, laidLooks := .later }
def FnImageUptoCardSaid : Prop := Claim7.holds Tryz.pinned (.plain (OpenSpec.upto fnImageSpec)) fnImageUptoCard

/-- THE SECOND FORM's CARD OF 'laws.FnExactImageText'. -/
def fnExactImageTextUptoCard : Claim7 := { stood := { row := fnExactImageTextUptoRow, standIns := [], harness := (true, "5df01fbe28f797a6364eed885bea2f47fb13b79fb755a9c62b0195b2f32dcf41"), looks := true }, kinds := [], alts := [], laidByText := true, laidKinds := [.sentinel, .sentinel, .data, .data, .data], laidTests := true, laidLooks := .later }
def FnExactImageTextUptoCardSaid : Prop := Claim7.holds Tryz.pinned (.plain (OpenSpec.upto fnExactImageTextSpec)) fnExactImageTextUptoCard

/-- THE SECOND FORM's CARD OF 'laws.FnExactReadImage'. -/
def fnExactReadImageUptoCard : Claim7 := { stood := { row := fnExactReadImageUptoRow, standIns := [], harness := (true, "5df01fbe28f797a6364eed885bea2f47fb13b79fb755a9c62b0195b2f32dcf41"), looks := true }, kinds := [], alts := [], laidByText := true, laidKinds := [.sentinel, .sentinel, .data, .data, .data], laidTests := true, laidLooks := .later }
def FnExactReadImageUptoCardSaid : Prop := Claim7.holds Tryz.pinned (.plain (OpenSpec.upto fnExactReadImageSpec)) fnExactReadImageUptoCard
end Rows
end Go.Proofs.YtmpppfibeoghaaaGreatDoor
