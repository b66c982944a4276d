/-
  No cell of these rows narrows 'for every input' (looked for: loops, veiled, ifaces, maps, wideKeys, modest, calm, conditions, laid).
  DERIVED. THE GIVEN ROWS OF THIS SEAT. 3 by the template 'for every input the law returns true; each argument reads behind the call as it read before'; 0 by the template 'total and deterministic' (their statements: YtppgknjpbfopjaaTotals.lean).
  GIVEN WITH THE SEED: the statements are not yours to turn. If you find one false, say at which input.
  Laid BY PROGRAM, IN A SANDBOX (cutbox-rows.mjs): the forced cells as the released guide's own fill.sh prints them over the translation 836813ada0442242… (all of the seat's roots in one cut). By AI agents, Wed Nov 11 2026. No macro, syntax, notation, axiom, sorry.
-/
import Derived.Test.YtppgknjpbfopjaaChecked
import GoSem.Claim
import GoSem.ClaimJoined
import GoSem.ClaimMapViews
import Derived.JoinedTies
import Derived.KernelRfl
namespace Go.Proofs.Ytppgknjpbfopjaa
/- THE CELL 'sum', in the pinned program and in every row, IS THE sha256 OF THE DUMP (.gsa) THAT YtppgknjpbfopjaaProg.lean LOADS. Nothing in Lean hashes anything: it is a label: what it is worth is what the hold of that sum in a sandbox is worth. -/
noncomputable def Try.pinned : Pinned := { name := "ytppgknjpbfopjaa", sum := "836813ada0442242b3e4c6ced0a2317c5a2d00348b4ee7a35f793c7447b1bc53", checked := Try.checked }
namespace Rows
def none {H : Type} : Left H := { results := [], args := [] }

/-- 'laws.FnExactJobCost': WHATEVER THE INPUT: true; the input reads as it did. -/
def fnExactJobCostSpec : ChangeSpec := { name := "fnExactJobCost", fn := fun _ => fun
  | [d] => { results := [.lit (.bool true)], args := [d] }
  | _ => none }
def fnExactJobCostRow : OpenClaim := { program := "ytppgknjpbfopjaa", sum := "836813ada0442242b3e4c6ced0a2317c5a2d00348b4ee7a35f793c7447b1bc53", func := "loop.example/g00684/laws.FnExactJobCost", spec := "fnExactJobCost", apart := false }
def FnExactJobCostSaid : Prop := fnExactJobCostRow.holds Try.pinned (OpenSpec.ofChange fnExactJobCostSpec)

/-- ITS FALSE NEIGHBOUR: 'it returns false'. Refute it at one input. -/
def fnExactJobCostWrong : ChangeSpec := { name := "fnExactJobCost", fn := fun _ => fun
  | [d] => { results := [.lit (.bool false)], args := [d] }
  | _ => none }
def FnExactJobCostWrongFalsely : Prop := fnExactJobCostRow.holds Try.pinned (OpenSpec.ofChange fnExactJobCostWrong)

/-- 'laws.FnExactBusyPeriod': WHATEVER THE INPUT: true; the input reads as it did. -/
def fnExactBusyPeriodSpec : ChangeSpec := { name := "fnExactBusyPeriod", fn := fun _ => fun
  | [d1, d2, d3] => { results := [.lit (.bool true)], args := [d1, d2, d3] }
  | _ => none }
def fnExactBusyPeriodRow : OpenClaim := { program := "ytppgknjpbfopjaa", sum := "836813ada0442242b3e4c6ced0a2317c5a2d00348b4ee7a35f793c7447b1bc53", func := "loop.example/g00684/laws.FnExactBusyPeriod", spec := "fnExactBusyPeriod", unfollowed := true, recurses := true, apart := false }
def FnExactBusyPeriodSaid : Prop := fnExactBusyPeriodRow.holds Try.pinned (OpenSpec.ofChange fnExactBusyPeriodSpec)

/-- ITS FALSE NEIGHBOUR: 'it returns false'. Refute it at one input. -/
def fnExactBusyPeriodWrong : ChangeSpec := { name := "fnExactBusyPeriod", fn := fun _ => fun
  | [d1, d2, d3] => { results := [.lit (.bool false)], args := [d1, d2, d3] }
  | _ => none }
def FnExactBusyPeriodWrongFalsely : Prop := fnExactBusyPeriodRow.holds Try.pinned (OpenSpec.ofChange fnExactBusyPeriodWrong)

/-- 'laws.FnBusy': WHATEVER THE INPUT: true; the input reads as it did. -/
def fnBusySpec : ChangeSpec := { name := "fnBusy", fn := fun _ => fun
  | [d1, d2] => { results := [.lit (.bool true)], args := [d1, d2] }
  | _ => none }
def fnBusyRow : OpenClaim := { program := "ytppgknjpbfopjaa", sum := "836813ada0442242b3e4c6ced0a2317c5a2d00348b4ee7a35f793c7447b1bc53", func := "loop.example/g00684/laws.FnBusy", spec := "fnBusy", unfollowed := true, recurses := true, apart := false }
def FnBusySaid : Prop := fnBusyRow.holds Try.pinned (OpenSpec.ofChange fnBusySpec)

/-- ITS FALSE NEIGHBOUR: 'it returns false'. Refute it at one input. -/
def fnBusyWrong : ChangeSpec := { name := "fnBusy", fn := fun _ => fun
  | [d1, d2] => { results := [.lit (.bool false)], args := [d1, d2] }
  | _ => none }
def FnBusyWrongFalsely : Prop := fnBusyRow.holds Try.pinned (OpenSpec.ofChange fnBusyWrong)

/- THE SECOND FORM. 'bulk': how many values and letters a reading holds, each counted each time it is reached (what is shared counts as often as it is met; a slice's spare places count too). A statement '..UptoSaid' is the law's where the arguments, and the package variables that the reading takes, are together of bulk at most 1048576: NARROWER than '..Said'. Prove '..Said' where nothing that the law and all that it calls make is longer than what came in: it says more and counts as full. Else prove '..UptoSaid'. A law counts once. -/
mutual
def uptoBulk {H : Type} : DataW H → Nat
  | .lit (.string bytes) => bytes.length + 1
  | .lit _ => 1
  | .nil => 1
  | .ptr d => uptoBulk d + 1
  | .slice elems spare => uptoBulkAll elems + uptoBulkAll spare + 1
  | .agg parts => uptoBulkAll parts + 1
  | .iface _ d => uptoBulk d + 1
  | .map entries => uptoBulkEntries entries + 1
  | .held _ => 1
def uptoBulkAll {H : Type} : List (DataW H) → Nat
  | [] => 0
  | d :: r => uptoBulk d + uptoBulkAll r
def uptoBulkEntries {H : Type} : List (Lit × DataW H) → Nat
  | [] => 0
  | x :: r => uptoBulkEntry x + uptoBulkEntries r
def uptoBulkEntry {H : Type} : Lit × DataW H → Nat
  | (.string bytes, d) => bytes.length + uptoBulk d + 1
  | (_, d) => uptoBulk d + 1
 end
def uptoSmall : (H : Type) → List (DataW H) → Bool := fun _ ds => decide (uptoBulkAll ds ≤ 1048576)
def OpenSpec.upto (s : _root_.Go.ChangeSpec) : _root_.Go.OpenSpec := { _root_.Go.OpenSpec.ofChange s with cond := some uptoSmall }

/-- 'laws.FnExactJobCost', WHERE WHAT IT READS IS OF BULK AT MOST 1048576: true; the input reads as it did. -/
def fnExactJobCostUptoRow : OpenClaim := { program := "ytppgknjpbfopjaa", sum := "836813ada0442242b3e4c6ced0a2317c5a2d00348b4ee7a35f793c7447b1bc53", func := "loop.example/g00684/laws.FnExactJobCost", spec := "fnExactJobCost", apart := false, narrowed := true }
def FnExactJobCostUptoSaid : Prop := fnExactJobCostUptoRow.holds Try.pinned (OpenSpec.upto fnExactJobCostSpec)

/-- 'laws.FnExactBusyPeriod', WHERE WHAT IT READS IS OF BULK AT MOST 1048576: true; the input reads as it did. -/
def fnExactBusyPeriodUptoRow : OpenClaim := { program := "ytppgknjpbfopjaa", sum := "836813ada0442242b3e4c6ced0a2317c5a2d00348b4ee7a35f793c7447b1bc53", func := "loop.example/g00684/laws.FnExactBusyPeriod", spec := "fnExactBusyPeriod", unfollowed := true, recurses := true, apart := false, narrowed := true }
def FnExactBusyPeriodUptoSaid : Prop := fnExactBusyPeriodUptoRow.holds Try.pinned (OpenSpec.upto fnExactBusyPeriodSpec)

/-- 'laws.FnBusy', WHERE WHAT IT READS IS OF BULK AT MOST 1048576: true; the input reads as it did. -/
def fnBusyUptoRow : OpenClaim := { program := "ytppgknjpbfopjaa", sum := "836813ada0442242b3e4c6ced0a2317c5a2d00348b4ee7a35f793c7447b1bc53", func := "loop.example/g00684/laws.FnBusy", spec := "fnBusy", unfollowed := true, recurses := true, apart := false, narrowed := true }
def FnBusyUptoSaid : Prop := fnBusyUptoRow.holds Try.pinned (OpenSpec.upto fnBusySpec)

end Rows
end Go.Proofs.Ytppgknjpbfopjaa
