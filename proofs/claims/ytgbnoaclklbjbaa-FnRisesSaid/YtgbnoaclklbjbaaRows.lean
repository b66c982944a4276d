/-
  No cell of these rows narrows 'for every input' (looked for: loops, veiled, ifaces, maps, wideKeys, modest, calm, conditions, laid).
  DERIVED. THE GIVEN ROWS OF THIS SEAT. 9 by the template 'for every input the law returns true; each argument reads behind the call as it read before'; 0 by the template 'total and deterministic' (their statements: YtgbnoaclklbjbaaTotals.lean).
  GIVEN WITH THE SEED: the statements are not yours to turn. If you find one false, say at which input.
  Laid BY PROGRAM, IN A SANDBOX (cutbox-rows.mjs): the forced cells as the released guide's own fill.sh prints them over the translation d957e286673d7695… (all of the seat's roots in one cut). By AI agents, Wed Nov 11 2026. No macro, syntax, notation, axiom, sorry.
-/
import Derived.Test.YtgbnoaclklbjbaaChecked
import GoSem.Claim
import GoSem.ClaimJoined
import GoSem.ClaimMapViews
import Derived.JoinedTies
import Derived.KernelRfl
namespace Go.Proofs.Ytgbnoaclklbjbaa
/- THE CELL 'sum', in the pinned program and in every row, IS THE sha256 OF THE DUMP (.gsa) THAT YtgbnoaclklbjbaaProg.lean LOADS. Nothing in Lean hashes anything: it is a label: what it is worth is what the hold of that sum in a sandbox is worth. -/
noncomputable def Try.pinned : Pinned := { name := "ytgbnoaclklbjbaa", sum := "d957e286673d7695294395fbb90fb8cc8e53679c99a581730c00aaa0945c528e", checked := Try.checked }
namespace Rows
def none {H : Type} : Left H := { results := [], args := [] }

/-- 'laws.FnExactNewSource': WHATEVER THE INPUT: true; the input reads as it did. -/
def fnExactNewSourceSpec : ChangeSpec := { name := "fnExactNewSource", fn := fun _ => fun
  | [] => { results := [.lit (.bool true)], args := [] }
  | _ => none }
def fnExactNewSourceRow : OpenClaim := { program := "ytgbnoaclklbjbaa", sum := "d957e286673d7695294395fbb90fb8cc8e53679c99a581730c00aaa0945c528e", func := "loop.example/g00684/laws.FnExactNewSource", spec := "fnExactNewSource", apart := false }
def FnExactNewSourceSaid : Prop := fnExactNewSourceRow.holds Try.pinned (OpenSpec.ofChange fnExactNewSourceSpec)

/-- ITS FALSE NEIGHBOUR: 'it returns false'. Refute it at one input. -/
def fnExactNewSourceWrong : ChangeSpec := { name := "fnExactNewSource", fn := fun _ => fun
  | [] => { results := [.lit (.bool false)], args := [] }
  | _ => none }
def FnExactNewSourceWrongFalsely : Prop := fnExactNewSourceRow.holds Try.pinned (OpenSpec.ofChange fnExactNewSourceWrong)

/-- 'laws.FnExactSourceOK': WHATEVER THE INPUT: true; the input reads as it did. -/
def fnExactSourceOKSpec : ChangeSpec := { name := "fnExactSourceOK", fn := fun _ => fun
  | [d1, d2] => { results := [.lit (.bool true)], args := [d1, d2] }
  | _ => none }
def fnExactSourceOKRow : OpenClaim := { program := "ytgbnoaclklbjbaa", sum := "d957e286673d7695294395fbb90fb8cc8e53679c99a581730c00aaa0945c528e", func := "loop.example/g00684/laws.FnExactSourceOK", spec := "fnExactSourceOK", unfollowed := true, recurses := true, apart := false }
def FnExactSourceOKSaid : Prop := fnExactSourceOKRow.holds Try.pinned (OpenSpec.ofChange fnExactSourceOKSpec)

/-- ITS FALSE NEIGHBOUR: 'it returns false'. Refute it at one input. -/
def fnExactSourceOKWrong : ChangeSpec := { name := "fnExactSourceOK", fn := fun _ => fun
  | [d1, d2] => { results := [.lit (.bool false)], args := [d1, d2] }
  | _ => none }
def FnExactSourceOKWrongFalsely : Prop := fnExactSourceOKRow.holds Try.pinned (OpenSpec.ofChange fnExactSourceOKWrong)

/-- 'laws.FnExactOfferEvent': WHATEVER THE INPUT: true; the input reads as it did. -/
def fnExactOfferEventSpec : ChangeSpec := { name := "fnExactOfferEvent", fn := fun _ => fun
  | [d1, d2, d3] => { results := [.lit (.bool true)], args := [d1, d2, d3] }
  | _ => none }
def fnExactOfferEventRow : OpenClaim := { program := "ytgbnoaclklbjbaa", sum := "d957e286673d7695294395fbb90fb8cc8e53679c99a581730c00aaa0945c528e", func := "loop.example/g00684/laws.FnExactOfferEvent", spec := "fnExactOfferEvent", unfollowed := true, recurses := true, apart := false }
def FnExactOfferEventSaid : Prop := fnExactOfferEventRow.holds Try.pinned (OpenSpec.ofChange fnExactOfferEventSpec)

/-- ITS FALSE NEIGHBOUR: 'it returns false'. Refute it at one input. -/
def fnExactOfferEventWrong : ChangeSpec := { name := "fnExactOfferEvent", fn := fun _ => fun
  | [d1, d2, d3] => { results := [.lit (.bool false)], args := [d1, d2, d3] }
  | _ => none }
def FnExactOfferEventWrongFalsely : Prop := fnExactOfferEventRow.holds Try.pinned (OpenSpec.ofChange fnExactOfferEventWrong)

/-- 'laws.FnExactTakeEvent': WHATEVER THE INPUT: true; the input reads as it did. -/
def fnExactTakeEventSpec : ChangeSpec := { name := "fnExactTakeEvent", fn := fun _ => fun
  | [d1, d2] => { results := [.lit (.bool true)], args := [d1, d2] }
  | _ => none }
def fnExactTakeEventRow : OpenClaim := { program := "ytgbnoaclklbjbaa", sum := "d957e286673d7695294395fbb90fb8cc8e53679c99a581730c00aaa0945c528e", func := "loop.example/g00684/laws.FnExactTakeEvent", spec := "fnExactTakeEvent", unfollowed := true, recurses := true, apart := false }
def FnExactTakeEventSaid : Prop := fnExactTakeEventRow.holds Try.pinned (OpenSpec.ofChange fnExactTakeEventSpec)

/-- ITS FALSE NEIGHBOUR: 'it returns false'. Refute it at one input. -/
def fnExactTakeEventWrong : ChangeSpec := { name := "fnExactTakeEvent", fn := fun _ => fun
  | [d1, d2] => { results := [.lit (.bool false)], args := [d1, d2] }
  | _ => none }
def FnExactTakeEventWrongFalsely : Prop := fnExactTakeEventRow.holds Try.pinned (OpenSpec.ofChange fnExactTakeEventWrong)

/-- 'laws.FnExactDropEvents': WHATEVER THE INPUT: true; the input reads as it did. -/
def fnExactDropEventsSpec : ChangeSpec := { name := "fnExactDropEvents", fn := fun _ => fun
  | [d1, d2, d3] => { results := [.lit (.bool true)], args := [d1, d2, d3] }
  | _ => none }
def fnExactDropEventsRow : OpenClaim := { program := "ytgbnoaclklbjbaa", sum := "d957e286673d7695294395fbb90fb8cc8e53679c99a581730c00aaa0945c528e", func := "loop.example/g00684/laws.FnExactDropEvents", spec := "fnExactDropEvents", unfollowed := true, recurses := true, apart := false }
def FnExactDropEventsSaid : Prop := fnExactDropEventsRow.holds Try.pinned (OpenSpec.ofChange fnExactDropEventsSpec)

/-- ITS FALSE NEIGHBOUR: 'it returns false'. Refute it at one input. -/
def fnExactDropEventsWrong : ChangeSpec := { name := "fnExactDropEvents", fn := fun _ => fun
  | [d1, d2, d3] => { results := [.lit (.bool false)], args := [d1, d2, d3] }
  | _ => none }
def FnExactDropEventsWrongFalsely : Prop := fnExactDropEventsRow.holds Try.pinned (OpenSpec.ofChange fnExactDropEventsWrong)

/-- 'laws.FnExactRisesOf': WHATEVER THE INPUT: true; the input reads as it did. -/
def fnExactRisesOfSpec : ChangeSpec := { name := "fnExactRisesOf", fn := fun _ => fun
  | [d1, d2] => { results := [.lit (.bool true)], args := [d1, d2] }
  | _ => none }
def fnExactRisesOfRow : OpenClaim := { program := "ytgbnoaclklbjbaa", sum := "d957e286673d7695294395fbb90fb8cc8e53679c99a581730c00aaa0945c528e", func := "loop.example/g00684/laws.FnExactRisesOf", spec := "fnExactRisesOf", apart := false }
def FnExactRisesOfSaid : Prop := fnExactRisesOfRow.holds Try.pinned (OpenSpec.ofChange fnExactRisesOfSpec)

/-- ITS FALSE NEIGHBOUR: 'it returns false'. Refute it at one input. -/
def fnExactRisesOfWrong : ChangeSpec := { name := "fnExactRisesOf", fn := fun _ => fun
  | [d1, d2] => { results := [.lit (.bool false)], args := [d1, d2] }
  | _ => none }
def FnExactRisesOfWrongFalsely : Prop := fnExactRisesOfRow.holds Try.pinned (OpenSpec.ofChange fnExactRisesOfWrong)

/-- 'laws.FnExactBalanceOf': WHATEVER THE INPUT: true; the input reads as it did. -/
def fnExactBalanceOfSpec : ChangeSpec := { name := "fnExactBalanceOf", fn := fun _ => fun
  | [d1, d2] => { results := [.lit (.bool true)], args := [d1, d2] }
  | _ => none }
def fnExactBalanceOfRow : OpenClaim := { program := "ytgbnoaclklbjbaa", sum := "d957e286673d7695294395fbb90fb8cc8e53679c99a581730c00aaa0945c528e", func := "loop.example/g00684/laws.FnExactBalanceOf", spec := "fnExactBalanceOf", unfollowed := true, recurses := true, apart := false }
def FnExactBalanceOfSaid : Prop := fnExactBalanceOfRow.holds Try.pinned (OpenSpec.ofChange fnExactBalanceOfSpec)

/-- ITS FALSE NEIGHBOUR: 'it returns false'. Refute it at one input. -/
def fnExactBalanceOfWrong : ChangeSpec := { name := "fnExactBalanceOf", fn := fun _ => fun
  | [d1, d2] => { results := [.lit (.bool false)], args := [d1, d2] }
  | _ => none }
def FnExactBalanceOfWrongFalsely : Prop := fnExactBalanceOfRow.holds Try.pinned (OpenSpec.ofChange fnExactBalanceOfWrong)

/-- 'laws.FnEvents': WHATEVER THE INPUT: true; the input reads as it did. -/
def fnEventsSpec : ChangeSpec := { name := "fnEvents", fn := fun _ => fun
  | [d1, d2] => { results := [.lit (.bool true)], args := [d1, d2] }
  | _ => none }
def fnEventsRow : OpenClaim := { program := "ytgbnoaclklbjbaa", sum := "d957e286673d7695294395fbb90fb8cc8e53679c99a581730c00aaa0945c528e", func := "loop.example/g00684/laws.FnEvents", spec := "fnEvents", unfollowed := true, recurses := true, apart := false }
def FnEventsSaid : Prop := fnEventsRow.holds Try.pinned (OpenSpec.ofChange fnEventsSpec)

/-- ITS FALSE NEIGHBOUR: 'it returns false'. Refute it at one input. -/
def fnEventsWrong : ChangeSpec := { name := "fnEvents", fn := fun _ => fun
  | [d1, d2] => { results := [.lit (.bool false)], args := [d1, d2] }
  | _ => none }
def FnEventsWrongFalsely : Prop := fnEventsRow.holds Try.pinned (OpenSpec.ofChange fnEventsWrong)

/-- 'laws.FnRises': WHATEVER THE INPUT: true; the input reads as it did. -/
def fnRisesSpec : ChangeSpec := { name := "fnRises", fn := fun _ => fun
  | [d1, d2] => { results := [.lit (.bool true)], args := [d1, d2] }
  | _ => none }
def fnRisesRow : OpenClaim := { program := "ytgbnoaclklbjbaa", sum := "d957e286673d7695294395fbb90fb8cc8e53679c99a581730c00aaa0945c528e", func := "loop.example/g00684/laws.FnRises", spec := "fnRises", apart := false }
def FnRisesSaid : Prop := fnRisesRow.holds Try.pinned (OpenSpec.ofChange fnRisesSpec)

/-- ITS FALSE NEIGHBOUR: 'it returns false'. Refute it at one input. -/
def fnRisesWrong : ChangeSpec := { name := "fnRises", fn := fun _ => fun
  | [d1, d2] => { results := [.lit (.bool false)], args := [d1, d2] }
  | _ => none }
def FnRisesWrongFalsely : Prop := fnRisesRow.holds Try.pinned (OpenSpec.ofChange fnRisesWrong)

/- THE SECOND FORM. 'bulk': how many values and letters a reading holds, each counted each time it is reached (what is shared counts as often as it is met; a slice's spare places count too). A statement '..UptoSaid' is the law's where the arguments, and the package variables that the reading takes, are together of bulk at most 1048576: NARROWER than '..Said'. Prove '..Said' where nothing that the law and all that it calls make is longer than what came in: it says more and counts as full. Else prove '..UptoSaid'. A law counts once. -/
mutual
def uptoBulk {H : Type} : DataW H → Nat
  | .lit (.string bytes) => bytes.length + 1
  | .lit _ => 1
  | .nil => 1
  | .ptr d => uptoBulk d + 1
  | .slice elems spare => uptoBulkAll elems + uptoBulkAll spare + 1
  | .agg parts => uptoBulkAll parts + 1
  | .iface _ d => uptoBulk d + 1
  | .map entries => uptoBulkEntries entries + 1
  | .held _ => 1
def uptoBulkAll {H : Type} : List (DataW H) → Nat
  | [] => 0
  | d :: r => uptoBulk d + uptoBulkAll r
def uptoBulkEntries {H : Type} : List (Lit × DataW H) → Nat
  | [] => 0
  | x :: r => uptoBulkEntry x + uptoBulkEntries r
def uptoBulkEntry {H : Type} : Lit × DataW H → Nat
  | (.string bytes, d) => bytes.length + uptoBulk d + 1
  | (_, d) => uptoBulk d + 1
 end
def uptoSmall : (H : Type) → List (DataW H) → Bool := fun _ ds => decide (uptoBulkAll ds ≤ 1048576)
def OpenSpec.upto (s : _root_.Go.ChangeSpec) : _root_.Go.OpenSpec := { _root_.Go.OpenSpec.ofChange s with cond := some uptoSmall }

/-- 'laws.FnExactNewSource', WHERE WHAT IT READS IS OF BULK AT MOST 1048576: true; the input reads as it did. -/
def fnExactNewSourceUptoRow : OpenClaim := { program := "ytgbnoaclklbjbaa", sum := "d957e286673d7695294395fbb90fb8cc8e53679c99a581730c00aaa0945c528e", func := "loop.example/g00684/laws.FnExactNewSource", spec := "fnExactNewSource", apart := false, narrowed := true }
def FnExactNewSourceUptoSaid : Prop := fnExactNewSourceUptoRow.holds Try.pinned (OpenSpec.upto fnExactNewSourceSpec)

/-- 'laws.FnExactSourceOK', WHERE WHAT IT READS IS OF BULK AT MOST 1048576: true; the input reads as it did. -/
def fnExactSourceOKUptoRow : OpenClaim := { program := "ytgbnoaclklbjbaa", sum := "d957e286673d7695294395fbb90fb8cc8e53679c99a581730c00aaa0945c528e", func := "loop.example/g00684/laws.FnExactSourceOK", spec := "fnExactSourceOK", unfollowed := true, recurses := true, apart := false, narrowed := true }
def FnExactSourceOKUptoSaid : Prop := fnExactSourceOKUptoRow.holds Try.pinned (OpenSpec.upto fnExactSourceOKSpec)

/-- 'laws.FnExactOfferEvent', WHERE WHAT IT READS IS OF BULK AT MOST 1048576: true; the input reads as it did. -/
def fnExactOfferEventUptoRow : OpenClaim := { program := "ytgbnoaclklbjbaa", sum := "d957e286673d7695294395fbb90fb8cc8e53679c99a581730c00aaa0945c528e", func := "loop.example/g00684/laws.FnExactOfferEvent", spec := "fnExactOfferEvent", unfollowed := true, recurses := true, apart := false, narrowed := true }
def FnExactOfferEventUptoSaid : Prop := fnExactOfferEventUptoRow.holds Try.pinned (OpenSpec.upto fnExactOfferEventSpec)

/-- 'laws.FnExactTakeEvent', WHERE WHAT IT READS IS OF BULK AT MOST 1048576: true; the input reads as it did. -/
def fnExactTakeEventUptoRow : OpenClaim := { program := "ytgbnoaclklbjbaa", sum := "d957e286673d7695294395fbb90fb8cc8e53679c99a581730c00aaa0945c528e", func := "loop.example/g00684/laws.FnExactTakeEvent", spec := "fnExactTakeEvent", unfollowed := true, recurses := true, apart := false, narrowed := true }
def FnExactTakeEventUptoSaid : Prop := fnExactTakeEventUptoRow.holds Try.pinned (OpenSpec.upto fnExactTakeEventSpec)

/-- 'laws.FnExactDropEvents', WHERE WHAT IT READS IS OF BULK AT MOST 1048576: true; the input reads as it did. -/
def fnExactDropEventsUptoRow : OpenClaim := { program := "ytgbnoaclklbjbaa", sum := "d957e286673d7695294395fbb90fb8cc8e53679c99a581730c00aaa0945c528e", func := "loop.example/g00684/laws.FnExactDropEvents", spec := "fnExactDropEvents", unfollowed := true, recurses := true, apart := false, narrowed := true }
def FnExactDropEventsUptoSaid : Prop := fnExactDropEventsUptoRow.holds Try.pinned (OpenSpec.upto fnExactDropEventsSpec)

/-- 'laws.FnExactRisesOf', WHERE WHAT IT READS IS OF BULK AT MOST 1048576: true; the input reads as it did. -/
def fnExactRisesOfUptoRow : OpenClaim := { program := "ytgbnoaclklbjbaa", sum := "d957e286673d7695294395fbb90fb8cc8e53679c99a581730c00aaa0945c528e", func := "loop.example/g00684/laws.FnExactRisesOf", spec := "fnExactRisesOf", apart := false, narrowed := true }
def FnExactRisesOfUptoSaid : Prop := fnExactRisesOfUptoRow.holds Try.pinned (OpenSpec.upto fnExactRisesOfSpec)

/-- 'laws.FnExactBalanceOf', WHERE WHAT IT READS IS OF BULK AT MOST 1048576: true; the input reads as it did. -/
def fnExactBalanceOfUptoRow : OpenClaim := { program := "ytgbnoaclklbjbaa", sum := "d957e286673d7695294395fbb90fb8cc8e53679c99a581730c00aaa0945c528e", func := "loop.example/g00684/laws.FnExactBalanceOf", spec := "fnExactBalanceOf", unfollowed := true, recurses := true, apart := false, narrowed := true }
def FnExactBalanceOfUptoSaid : Prop := fnExactBalanceOfUptoRow.holds Try.pinned (OpenSpec.upto fnExactBalanceOfSpec)

/-- 'laws.FnEvents', WHERE WHAT IT READS IS OF BULK AT MOST 1048576: true; the input reads as it did. -/
def fnEventsUptoRow : OpenClaim := { program := "ytgbnoaclklbjbaa", sum := "d957e286673d7695294395fbb90fb8cc8e53679c99a581730c00aaa0945c528e", func := "loop.example/g00684/laws.FnEvents", spec := "fnEvents", unfollowed := true, recurses := true, apart := false, narrowed := true }
def FnEventsUptoSaid : Prop := fnEventsUptoRow.holds Try.pinned (OpenSpec.upto fnEventsSpec)

/-- 'laws.FnRises', WHERE WHAT IT READS IS OF BULK AT MOST 1048576: true; the input reads as it did. -/
def fnRisesUptoRow : OpenClaim := { program := "ytgbnoaclklbjbaa", sum := "d957e286673d7695294395fbb90fb8cc8e53679c99a581730c00aaa0945c528e", func := "loop.example/g00684/laws.FnRises", spec := "fnRises", apart := false, narrowed := true }
def FnRisesUptoSaid : Prop := fnRisesUptoRow.holds Try.pinned (OpenSpec.upto fnRisesSpec)

end Rows
end Go.Proofs.Ytgbnoaclklbjbaa
