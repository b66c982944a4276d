/-
  No cell of these rows narrows 'for every input' (looked for: loops, veiled, ifaces, maps, wideKeys, modest, calm, conditions, laid).
  DERIVED. THE GIVEN ROWS OF THIS SEAT. 7 by the template 'for every input the law returns true; each argument reads behind the call as it read before'; 0 by the template 'total and deterministic' (their statements: YthlbcjjfnmnpiaaTotals.lean).
  GIVEN WITH THE SEED: the statements are not yours to turn. If you find one false, say at which input.
  Laid BY PROGRAM, IN A SANDBOX (cutbox-rows.mjs): the forced cells as the released guide's own fill.sh prints them over the translation 930d985718e3b144… (all of the seat's roots in one cut). By AI agents, Wed Nov 11 2026. No macro, syntax, notation, axiom, sorry.
-/
import Derived.Test.YthlbcjjfnmnpiaaChecked
import GoSem.Claim
import GoSem.ClaimJoined
import GoSem.ClaimMapViews
import Derived.JoinedTies
import Derived.KernelRfl
namespace Go.Proofs.Ythlbcjjfnmnpiaa
/- THE CELL 'sum', in the pinned program and in every row, IS THE sha256 OF THE DUMP (.gsa) THAT YthlbcjjfnmnpiaaProg.lean LOADS. Nothing in Lean hashes anything: it is a label: what it is worth is what the hold of that sum in a sandbox is worth. -/
noncomputable def Try.pinned : Pinned := { name := "ythlbcjjfnmnpiaa", sum := "930d985718e3b144fe17b007c122596a56e2fe033cec23c4df89650a4cdc0dd6", checked := Try.checked }
namespace Rows
def none {H : Type} : Left H := { results := [], args := [] }

/-- 'laws.FnSummaries': WHATEVER THE INPUT: true; the input reads as it did. -/
def fnSummariesSpec : ChangeSpec := { name := "fnSummaries", fn := fun _ => fun
  | [d1, d2] => { results := [.lit (.bool true)], args := [d1, d2] }
  | _ => none }
def fnSummariesRow : OpenClaim := { program := "ythlbcjjfnmnpiaa", sum := "930d985718e3b144fe17b007c122596a56e2fe033cec23c4df89650a4cdc0dd6", func := "loop.example/g00684/laws.FnSummaries", spec := "fnSummaries", apart := false }
def FnSummariesSaid : Prop := fnSummariesRow.holds Try.pinned (OpenSpec.ofChange fnSummariesSpec)

/-- ITS FALSE NEIGHBOUR: 'it returns false'. Refute it at one input. -/
def fnSummariesWrong : ChangeSpec := { name := "fnSummaries", fn := fun _ => fun
  | [d1, d2] => { results := [.lit (.bool false)], args := [d1, d2] }
  | _ => none }
def FnSummariesWrongFalsely : Prop := fnSummariesRow.holds Try.pinned (OpenSpec.ofChange fnSummariesWrong)

/-- 'laws.FnExactSummaryOK': WHATEVER THE INPUT: true; the input reads as it did. -/
def fnExactSummaryOKSpec : ChangeSpec := { name := "fnExactSummaryOK", fn := fun _ => fun
  | [d] => { results := [.lit (.bool true)], args := [d] }
  | _ => none }
def fnExactSummaryOKRow : OpenClaim := { program := "ythlbcjjfnmnpiaa", sum := "930d985718e3b144fe17b007c122596a56e2fe033cec23c4df89650a4cdc0dd6", func := "loop.example/g00684/laws.FnExactSummaryOK", spec := "fnExactSummaryOK", apart := false }
def FnExactSummaryOKSaid : Prop := fnExactSummaryOKRow.holds Try.pinned (OpenSpec.ofChange fnExactSummaryOKSpec)

/-- ITS FALSE NEIGHBOUR: 'it returns false'. Refute it at one input. -/
def fnExactSummaryOKWrong : ChangeSpec := { name := "fnExactSummaryOK", fn := fun _ => fun
  | [d] => { results := [.lit (.bool false)], args := [d] }
  | _ => none }
def FnExactSummaryOKWrongFalsely : Prop := fnExactSummaryOKRow.holds Try.pinned (OpenSpec.ofChange fnExactSummaryOKWrong)

/-- 'laws.FnExactOneCost': WHATEVER THE INPUT: true; the input reads as it did. -/
def fnExactOneCostSpec : ChangeSpec := { name := "fnExactOneCost", fn := fun _ => fun
  | [d1, d2] => { results := [.lit (.bool true)], args := [d1, d2] }
  | _ => none }
def fnExactOneCostRow : OpenClaim := { program := "ythlbcjjfnmnpiaa", sum := "930d985718e3b144fe17b007c122596a56e2fe033cec23c4df89650a4cdc0dd6", func := "loop.example/g00684/laws.FnExactOneCost", spec := "fnExactOneCost", apart := false }
def FnExactOneCostSaid : Prop := fnExactOneCostRow.holds Try.pinned (OpenSpec.ofChange fnExactOneCostSpec)

/-- ITS FALSE NEIGHBOUR: 'it returns false'. Refute it at one input. -/
def fnExactOneCostWrong : ChangeSpec := { name := "fnExactOneCost", fn := fun _ => fun
  | [d1, d2] => { results := [.lit (.bool false)], args := [d1, d2] }
  | _ => none }
def FnExactOneCostWrongFalsely : Prop := fnExactOneCostRow.holds Try.pinned (OpenSpec.ofChange fnExactOneCostWrong)

/-- 'laws.FnExactBehind': WHATEVER THE INPUT: true; the input reads as it did. -/
def fnExactBehindSpec : ChangeSpec := { name := "fnExactBehind", fn := fun _ => fun
  | [d1, d2] => { results := [.lit (.bool true)], args := [d1, d2] }
  | _ => none }
def fnExactBehindRow : OpenClaim := { program := "ythlbcjjfnmnpiaa", sum := "930d985718e3b144fe17b007c122596a56e2fe033cec23c4df89650a4cdc0dd6", func := "loop.example/g00684/laws.FnExactBehind", spec := "fnExactBehind", apart := false }
def FnExactBehindSaid : Prop := fnExactBehindRow.holds Try.pinned (OpenSpec.ofChange fnExactBehindSpec)

/-- ITS FALSE NEIGHBOUR: 'it returns false'. Refute it at one input. -/
def fnExactBehindWrong : ChangeSpec := { name := "fnExactBehind", fn := fun _ => fun
  | [d1, d2] => { results := [.lit (.bool false)], args := [d1, d2] }
  | _ => none }
def FnExactBehindWrongFalsely : Prop := fnExactBehindRow.holds Try.pinned (OpenSpec.ofChange fnExactBehindWrong)

/-- 'laws.FnExactEither': WHATEVER THE INPUT: true; the input reads as it did. -/
def fnExactEitherSpec : ChangeSpec := { name := "fnExactEither", fn := fun _ => fun
  | [d1, d2] => { results := [.lit (.bool true)], args := [d1, d2] }
  | _ => none }
def fnExactEitherRow : OpenClaim := { program := "ythlbcjjfnmnpiaa", sum := "930d985718e3b144fe17b007c122596a56e2fe033cec23c4df89650a4cdc0dd6", func := "loop.example/g00684/laws.FnExactEither", spec := "fnExactEither", apart := false }
def FnExactEitherSaid : Prop := fnExactEitherRow.holds Try.pinned (OpenSpec.ofChange fnExactEitherSpec)

/-- ITS FALSE NEIGHBOUR: 'it returns false'. Refute it at one input. -/
def fnExactEitherWrong : ChangeSpec := { name := "fnExactEither", fn := fun _ => fun
  | [d1, d2] => { results := [.lit (.bool false)], args := [d1, d2] }
  | _ => none }
def FnExactEitherWrongFalsely : Prop := fnExactEitherRow.holds Try.pinned (OpenSpec.ofChange fnExactEitherWrong)

/-- 'laws.FnExactTimes': WHATEVER THE INPUT: true; the input reads as it did. -/
def fnExactTimesSpec : ChangeSpec := { name := "fnExactTimes", fn := fun _ => fun
  | [d1, d2] => { results := [.lit (.bool true)], args := [d1, d2] }
  | _ => none }
def fnExactTimesRow : OpenClaim := { program := "ythlbcjjfnmnpiaa", sum := "930d985718e3b144fe17b007c122596a56e2fe033cec23c4df89650a4cdc0dd6", func := "loop.example/g00684/laws.FnExactTimes", spec := "fnExactTimes", apart := false }
def FnExactTimesSaid : Prop := fnExactTimesRow.holds Try.pinned (OpenSpec.ofChange fnExactTimesSpec)

/-- ITS FALSE NEIGHBOUR: 'it returns false'. Refute it at one input. -/
def fnExactTimesWrong : ChangeSpec := { name := "fnExactTimes", fn := fun _ => fun
  | [d1, d2] => { results := [.lit (.bool false)], args := [d1, d2] }
  | _ => none }
def FnExactTimesWrongFalsely : Prop := fnExactTimesRow.holds Try.pinned (OpenSpec.ofChange fnExactTimesWrong)

/-- 'laws.FnExactLongestOf': WHATEVER THE INPUT: true; the input reads as it did. -/
def fnExactLongestOfSpec : ChangeSpec := { name := "fnExactLongestOf", fn := fun _ => fun
  | [d] => { results := [.lit (.bool true)], args := [d] }
  | _ => none }
def fnExactLongestOfRow : OpenClaim := { program := "ythlbcjjfnmnpiaa", sum := "930d985718e3b144fe17b007c122596a56e2fe033cec23c4df89650a4cdc0dd6", func := "loop.example/g00684/laws.FnExactLongestOf", spec := "fnExactLongestOf", apart := false }
def FnExactLongestOfSaid : Prop := fnExactLongestOfRow.holds Try.pinned (OpenSpec.ofChange fnExactLongestOfSpec)

/-- ITS FALSE NEIGHBOUR: 'it returns false'. Refute it at one input. -/
def fnExactLongestOfWrong : ChangeSpec := { name := "fnExactLongestOf", fn := fun _ => fun
  | [d] => { results := [.lit (.bool false)], args := [d] }
  | _ => none }
def FnExactLongestOfWrongFalsely : Prop := fnExactLongestOfRow.holds Try.pinned (OpenSpec.ofChange fnExactLongestOfWrong)

/- THE SECOND FORM. 'bulk': how many values and letters a reading holds, each counted each time it is reached (what is shared counts as often as it is met; a slice's spare places count too). A statement '..UptoSaid' is the law's where the arguments, and the package variables that the reading takes, are together of bulk at most 1048576: NARROWER than '..Said'. Prove '..Said' where nothing that the law and all that it calls make is longer than what came in: it says more and counts as full. Else prove '..UptoSaid'. A law counts once. -/
mutual
def uptoBulk {H : Type} : DataW H → Nat
  | .lit (.string bytes) => bytes.length + 1
  | .lit _ => 1
  | .nil => 1
  | .ptr d => uptoBulk d + 1
  | .slice elems spare => uptoBulkAll elems + uptoBulkAll spare + 1
  | .agg parts => uptoBulkAll parts + 1
  | .iface _ d => uptoBulk d + 1
  | .map entries => uptoBulkEntries entries + 1
  | .held _ => 1
def uptoBulkAll {H : Type} : List (DataW H) → Nat
  | [] => 0
  | d :: r => uptoBulk d + uptoBulkAll r
def uptoBulkEntries {H : Type} : List (Lit × DataW H) → Nat
  | [] => 0
  | x :: r => uptoBulkEntry x + uptoBulkEntries r
def uptoBulkEntry {H : Type} : Lit × DataW H → Nat
  | (.string bytes, d) => bytes.length + uptoBulk d + 1
  | (_, d) => uptoBulk d + 1
 end
def uptoSmall : (H : Type) → List (DataW H) → Bool := fun _ ds => decide (uptoBulkAll ds ≤ 1048576)
def OpenSpec.upto (s : _root_.Go.ChangeSpec) : _root_.Go.OpenSpec := { _root_.Go.OpenSpec.ofChange s with cond := some uptoSmall }

/-- 'laws.FnSummaries', WHERE WHAT IT READS IS OF BULK AT MOST 1048576: true; the input reads as it did. -/
def fnSummariesUptoRow : OpenClaim := { program := "ythlbcjjfnmnpiaa", sum := "930d985718e3b144fe17b007c122596a56e2fe033cec23c4df89650a4cdc0dd6", func := "loop.example/g00684/laws.FnSummaries", spec := "fnSummaries", apart := false, narrowed := true }
def FnSummariesUptoSaid : Prop := fnSummariesUptoRow.holds Try.pinned (OpenSpec.upto fnSummariesSpec)

/-- 'laws.FnExactSummaryOK', WHERE WHAT IT READS IS OF BULK AT MOST 1048576: true; the input reads as it did. -/
def fnExactSummaryOKUptoRow : OpenClaim := { program := "ythlbcjjfnmnpiaa", sum := "930d985718e3b144fe17b007c122596a56e2fe033cec23c4df89650a4cdc0dd6", func := "loop.example/g00684/laws.FnExactSummaryOK", spec := "fnExactSummaryOK", apart := false, narrowed := true }
def FnExactSummaryOKUptoSaid : Prop := fnExactSummaryOKUptoRow.holds Try.pinned (OpenSpec.upto fnExactSummaryOKSpec)

/-- 'laws.FnExactOneCost', WHERE WHAT IT READS IS OF BULK AT MOST 1048576: true; the input reads as it did. -/
def fnExactOneCostUptoRow : OpenClaim := { program := "ythlbcjjfnmnpiaa", sum := "930d985718e3b144fe17b007c122596a56e2fe033cec23c4df89650a4cdc0dd6", func := "loop.example/g00684/laws.FnExactOneCost", spec := "fnExactOneCost", apart := false, narrowed := true }
def FnExactOneCostUptoSaid : Prop := fnExactOneCostUptoRow.holds Try.pinned (OpenSpec.upto fnExactOneCostSpec)

/-- 'laws.FnExactBehind', WHERE WHAT IT READS IS OF BULK AT MOST 1048576: true; the input reads as it did. -/
def fnExactBehindUptoRow : OpenClaim := { program := "ythlbcjjfnmnpiaa", sum := "930d985718e3b144fe17b007c122596a56e2fe033cec23c4df89650a4cdc0dd6", func := "loop.example/g00684/laws.FnExactBehind", spec := "fnExactBehind", apart := false, narrowed := true }
def FnExactBehindUptoSaid : Prop := fnExactBehindUptoRow.holds Try.pinned (OpenSpec.upto fnExactBehindSpec)

/-- 'laws.FnExactEither', WHERE WHAT IT READS IS OF BULK AT MOST 1048576: true; the input reads as it did. -/
def fnExactEitherUptoRow : OpenClaim := { program := "ythlbcjjfnmnpiaa", sum := "930d985718e3b144fe17b007c122596a56e2fe033cec23c4df89650a4cdc0dd6", func := "loop.example/g00684/laws.FnExactEither", spec := "fnExactEither", apart := false, narrowed := true }
def FnExactEitherUptoSaid : Prop := fnExactEitherUptoRow.holds Try.pinned (OpenSpec.upto fnExactEitherSpec)

/-- 'laws.FnExactTimes', WHERE WHAT IT READS IS OF BULK AT MOST 1048576: true; the input reads as it did. -/
def fnExactTimesUptoRow : OpenClaim := { program := "ythlbcjjfnmnpiaa", sum := "930d985718e3b144fe17b007c122596a56e2fe033cec23c4df89650a4cdc0dd6", func := "loop.example/g00684/laws.FnExactTimes", spec := "fnExactTimes", apart := false, narrowed := true }
def FnExactTimesUptoSaid : Prop := fnExactTimesUptoRow.holds Try.pinned (OpenSpec.upto fnExactTimesSpec)

/-- 'laws.FnExactLongestOf', WHERE WHAT IT READS IS OF BULK AT MOST 1048576: true; the input reads as it did. -/
def fnExactLongestOfUptoRow : OpenClaim := { program := "ythlbcjjfnmnpiaa", sum := "930d985718e3b144fe17b007c122596a56e2fe033cec23c4df89650a4cdc0dd6", func := "loop.example/g00684/laws.FnExactLongestOf", spec := "fnExactLongestOf", apart := false, narrowed := true }
def FnExactLongestOfUptoSaid : Prop := fnExactLongestOfUptoRow.holds Try.pinned (OpenSpec.upto fnExactLongestOfSpec)

end Rows
end Go.Proofs.Ythlbcjjfnmnpiaa
