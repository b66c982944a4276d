/-
  NARROWER THAN 'FOR EVERY INPUT', by the rows' own cells (each row's printed sentence says how): FnCode: ifaces, laid · FnOps: laid · FnExactCodeText: ifaces, laid · FnExactApplyOp: laid.
  DERIVED. THE GIVEN ROWS OF THIS SEAT. 4 by the template 'for every input the law returns true; each argument reads behind the call as it read before'; 0 by the template 'total and deterministic' (their statements: YtgbhihenflooeaaDoorTotals.lean).
  GIVEN WITH THE SEED: the statements are not yours to turn. If you find one false, say at which input.
  Laid BY PROGRAM, IN A SANDBOX (cutbox-rows.mjs): the forced cells as the released guide's own fill.sh prints them over the translation 7f966629647a0657… (all of the seat's roots in one cut). By AI agents, Wed Nov 11 2026. No macro, syntax, notation, axiom, sorry.
-/
import Derived.Test.YtgbhihenflooeaaDoorChecked
import GoSem.Claim
import GoSem.ClaimJoined
import GoSem.ClaimMapViews
import Derived.JoinedTies
import Derived.KernelRfl
namespace Go.Proofs.YtgbhihenflooeaaDoor
/- THE CELL 'sum', in the pinned program and in every row, IS THE sha256 OF THE DUMP (.gsa) THAT YtgbhihenflooeaaDoorProg.lean LOADS. Nothing in Lean hashes anything: it is a label: what it is worth is what the hold of that sum in a sandbox is worth. -/
noncomputable def Tryd.pinned : Pinned := { name := "ytgbhihenflooeaadoor", sum := "7f966629647a0657325d59e9d0a604967d173dd9a2bae4dc60d5cd7bedc36a27", checked := Tryd.checked }
namespace Rows
def none {H : Type} : Left H := { results := [], args := [] }

/- WHAT THE LISTED PACKAGE-LEVEL VARIABLES READ AS WHEN THE CALL BEGINS. Each datum BY PROGRAM (the guide's laid-datum.mjs) off the statement by which the dump's own 'gosem.cut.vars' lays the variable. In a bare row this is a premise. The card (YtgbhihenflooeaaDoorCards.lean) ties it to the program's text. -/
def laid_loop_example_g00684_impl_errRange {H : Type} : DataW H := .iface "*errors.errorString" (.ptr (.agg [.lit (.string [110, 117, 109, 98, 101, 114, 32, 111, 117, 116, 32, 111, 102, 32, 114, 97, 110, 103, 101])]))
def laid_loop_example_g00684_impl_errEnd {H : Type} : DataW H := .iface "*errors.errorString" (.ptr (.agg [.lit (.string [116, 114, 117, 110, 99, 97, 116, 101, 100])]))
def laid_loop_example_g00684_impl_operations {H : Type} : DataW H := .agg [.agg [.lit (.string []), .lit (.int .i64 0), .lit (.int .i64 0), .lit (.int .i64 0)], .agg [.lit (.string [112, 117, 115, 104]), .lit (.int .i64 1), .lit (.int .i64 (-2147483648)), .lit (.int .i64 2147483647)], .agg [.lit (.string [102, 108, 97, 103]), .lit (.int .i64 1), .lit (.int .i64 0), .lit (.int .i64 1)], .agg [.lit (.string [108, 111, 97, 100]), .lit (.int .i64 1), .lit (.int .i64 0), .lit (.int .i64 15)], .agg [.lit (.string [115, 116, 111, 114, 101]), .lit (.int .i64 1), .lit (.int .i64 0), .lit (.int .i64 15)], .agg [.lit (.string [105, 110]), .lit (.int .i64 1), .lit (.int .i64 0), .lit (.int .i64 7)], .agg [.lit (.string [111, 117, 116]), .lit (.int .i64 1), .lit (.int .i64 0), .lit (.int .i64 7)], .agg [.lit (.string [112, 101, 101, 107]), .lit (.int .i64 2), .lit (.int .i64 0), .lit (.int .i64 7)], .agg [.lit (.string [112, 111, 107, 101]), .lit (.int .i64 2), .lit (.int .i64 0), .lit (.int .i64 7)], .agg [.lit (.string [97, 100, 100]), .lit (.int .i64 1), .lit (.int .i64 0), .lit (.int .i64 0)], .agg [.lit (.string [115, 117, 98]), .lit (.int .i64 1), .lit (.int .i64 0), .lit (.int .i64 0)], .agg [.lit (.string [109, 117, 108]), .lit (.int .i64 2), .lit (.int .i64 0), .lit (.int .i64 0)], .agg [.lit (.string [100, 105, 118]), .lit (.int .i64 4), .lit (.int .i64 0), .lit (.int .i64 0)], .agg [.lit (.string [108, 101, 115, 115]), .lit (.int .i64 1), .lit (.int .i64 0), .lit (.int .i64 0)], .agg [.lit (.string [115, 97, 109, 101]), .lit (.int .i64 1), .lit (.int .i64 0), .lit (.int .i64 0)], .agg [.lit (.string [97, 110, 100]), .lit (.int .i64 1), .lit (.int .i64 0), .lit (.int .i64 0)], .agg [.lit (.string [111, 114]), .lit (.int .i64 1), .lit (.int .i64 0), .lit (.int .i64 0)], .agg [.lit (.string [110, 111, 116]), .lit (.int .i64 1), .lit (.int .i64 0), .lit (.int .i64 0)], .agg [.lit (.string [115, 101, 108]), .lit (.int .i64 2), .lit (.int .i64 0), .lit (.int .i64 0)], .agg [.lit (.string [98, 108, 111, 99, 107]), .lit (.int .i64 3), .lit (.int .i64 0), .lit (.int .i64 7)], .agg [.lit (.string [118, 97, 108, 117, 101]), .lit (.int .i64 1), .lit (.int .i64 0), .lit (.int .i64 7)], .agg [.lit (.string [105, 102]), .lit (.int .i64 1), .lit (.int .i64 0), .lit (.int .i64 0)], .agg [.lit (.string [101, 108, 115, 101]), .lit (.int .i64 1), .lit (.int .i64 0), .lit (.int .i64 0)], .agg [.lit (.string [101, 110, 100]), .lit (.int .i64 1), .lit (.int .i64 0), .lit (.int .i64 0)], .agg [.lit (.string [114, 101, 112, 101, 97, 116]), .lit (.int .i64 1), .lit (.int .i64 1), .lit (.int .i64 20)], .agg [.lit (.string [99, 117, 116]), .lit (.int .i64 1), .lit (.int .i64 0), .lit (.int .i64 0)], .agg [.lit (.string [99, 97, 108, 108]), .lit (.int .i64 2), .lit (.int .i64 0), .lit (.int .i64 5)]]
def laid_loop_example_g00684_impl_fbKinds {H : Type} : DataW H := .agg [.agg [.lit (.string []), .lit (.string []), .lit (.int .i64 0), .lit (.int .i64 0)], .agg [.lit (.string [116, 105, 109, 101, 114]), .lit (.string [98, 105]), .lit (.int .i64 2147483647), .lit (.int .i64 2147483647)], .agg [.lit (.string [99, 111, 117, 110, 116, 101, 114]), .lit (.string [98, 98, 105]), .lit (.int .i64 0), .lit (.int .i64 2147483647)], .agg [.lit (.string [101, 100, 103, 101]), .lit (.string [98]), .lit (.int .i64 0), .lit (.int .i64 0)], .agg [.lit (.string [108, 97, 116, 99, 104]), .lit (.string [98, 98]), .lit (.int .i64 0), .lit (.int .i64 0)]]
def laid_loop_example_g00684_impl_effects {H : Type} : DataW H := .agg [.agg [.lit (.string []), .lit (.string [])], .agg [.lit (.string []), .lit (.string [105])], .agg [.lit (.string []), .lit (.string [98])], .agg [.lit (.string []), .lit (.string [105])], .agg [.lit (.string [105]), .lit (.string [])], .agg [.lit (.string []), .lit (.string [98])], .agg [.lit (.string [98]), .lit (.string [])], .agg [.lit (.string []), .lit (.string [98])], .agg [.lit (.string [98]), .lit (.string [])], .agg [.lit (.string [105, 105]), .lit (.string [105])], .agg [.lit (.string [105, 105]), .lit (.string [105])], .agg [.lit (.string [105, 105]), .lit (.string [105])], .agg [.lit (.string [105, 105]), .lit (.string [105])], .agg [.lit (.string [105, 105]), .lit (.string [98])], .agg [.lit (.string [105, 105]), .lit (.string [98])], .agg [.lit (.string [98, 98]), .lit (.string [98])], .agg [.lit (.string [98, 98]), .lit (.string [98])], .agg [.lit (.string [98]), .lit (.string [98])], .agg [.lit (.string [98, 105, 105]), .lit (.string [105])], .agg [.lit (.string []), .lit (.string [98])], .agg [.lit (.string []), .lit (.string [105])], .agg [.lit (.string [98]), .lit (.string [])], .agg [.lit (.string []), .lit (.string [])], .agg [.lit (.string []), .lit (.string [])], .agg [.lit (.string []), .lit (.string [])], .agg [.lit (.string []), .lit (.string [])], .agg [.lit (.string []), .lit (.string [])]]

/-- 'laws.FnCode': WHATEVER THE INPUT: true; the input reads as it did. -/
def fnCodeSpec : ChangeSpec := { name := "fnCode", vars := ["loop.example/g00684/impl.operations", "loop.example/g00684/impl.errRange", "loop.example/g00684/impl.errEnd"], fn := fun _ => fun
  | [d1, d2, g1, g2, g3] => { results := [.lit (.bool true)], args := [d1, d2], vars := [g1, g2, g3] }
  | _ => none }
def fnCodeRow : OpenClaim := { program := "ytgbhihenflooeaadoor", sum := "7f966629647a0657325d59e9d0a604967d173dd9a2bae4dc60d5cd7bedc36a27", func := "loop.example/g00684/laws.FnCode", spec := "fnCode", inPlace := ["internal/reflectlite.TypeOf"], unfollowed := true, recurses := true, named := ["loop.example/g00684/impl.operations", "loop.example/g00684/impl.errRange", "loop.example/g00684/impl.errEnd"], ifaces := true, apart := false, laid := [("loop.example/g00684/impl.errRange", laid_loop_example_g00684_impl_errRange), ("loop.example/g00684/impl.errEnd", laid_loop_example_g00684_impl_errEnd), ("loop.example/g00684/impl.operations", laid_loop_example_g00684_impl_operations)] }
def FnCodeSaid : Prop := fnCodeRow.holds Tryd.pinned (OpenSpec.ofChange fnCodeSpec)

/-- ITS FALSE NEIGHBOUR: 'it returns false'. Refute it at one input. -/
def fnCodeWrong : ChangeSpec := { name := "fnCode", vars := ["loop.example/g00684/impl.operations", "loop.example/g00684/impl.errRange", "loop.example/g00684/impl.errEnd"], fn := fun _ => fun
  | [d1, d2, g1, g2, g3] => { results := [.lit (.bool false)], args := [d1, d2], vars := [g1, g2, g3] }
  | _ => none }
def FnCodeWrongFalsely : Prop := fnCodeRow.holds Tryd.pinned (OpenSpec.ofChange fnCodeWrong)

/-- 'laws.FnOps': WHATEVER THE INPUT: true; the input reads as it did. -/
def fnOpsSpec : ChangeSpec := { name := "fnOps", vars := ["loop.example/g00684/impl.fbKinds", "loop.example/g00684/impl.operations", "loop.example/g00684/impl.effects"], fn := fun _ => fun
  | [d1, d2, g1, g2, g3] => { results := [.lit (.bool true)], args := [d1, d2], vars := [g1, g2, g3] }
  | _ => none }
def fnOpsRow : OpenClaim := { program := "ytgbhihenflooeaadoor", sum := "7f966629647a0657325d59e9d0a604967d173dd9a2bae4dc60d5cd7bedc36a27", func := "loop.example/g00684/laws.FnOps", spec := "fnOps", unfollowed := true, recurses := true, named := ["loop.example/g00684/impl.fbKinds", "loop.example/g00684/impl.operations", "loop.example/g00684/impl.effects"], apart := false, laid := [("loop.example/g00684/impl.operations", laid_loop_example_g00684_impl_operations), ("loop.example/g00684/impl.fbKinds", laid_loop_example_g00684_impl_fbKinds), ("loop.example/g00684/impl.effects", laid_loop_example_g00684_impl_effects)] }
def FnOpsSaid : Prop := fnOpsRow.holds Tryd.pinned (OpenSpec.ofChange fnOpsSpec)

/-- ITS FALSE NEIGHBOUR: 'it returns false'. Refute it at one input. -/
def fnOpsWrong : ChangeSpec := { name := "fnOps", vars := ["loop.example/g00684/impl.fbKinds", "loop.example/g00684/impl.operations", "loop.example/g00684/impl.effects"], fn := fun _ => fun
  | [d1, d2, g1, g2, g3] => { results := [.lit (.bool false)], args := [d1, d2], vars := [g1, g2, g3] }
  | _ => none }
def FnOpsWrongFalsely : Prop := fnOpsRow.holds Tryd.pinned (OpenSpec.ofChange fnOpsWrong)

/-- 'laws.FnExactCodeText': WHATEVER THE INPUT: true; the input reads as it did. -/
def fnExactCodeTextSpec : ChangeSpec := { name := "fnExactCodeText", vars := ["loop.example/g00684/impl.operations", "loop.example/g00684/impl.errRange", "loop.example/g00684/impl.errEnd"], fn := fun _ => fun
  | [d, g1, g2, g3] => { results := [.lit (.bool true)], args := [d], vars := [g1, g2, g3] }
  | _ => none }
def fnExactCodeTextRow : OpenClaim := { program := "ytgbhihenflooeaadoor", sum := "7f966629647a0657325d59e9d0a604967d173dd9a2bae4dc60d5cd7bedc36a27", func := "loop.example/g00684/laws.FnExactCodeText", spec := "fnExactCodeText", inPlace := ["internal/reflectlite.TypeOf"], unfollowed := true, recurses := true, named := ["loop.example/g00684/impl.operations", "loop.example/g00684/impl.errRange", "loop.example/g00684/impl.errEnd"], ifaces := true, apart := false, laid := [("loop.example/g00684/impl.errRange", laid_loop_example_g00684_impl_errRange), ("loop.example/g00684/impl.errEnd", laid_loop_example_g00684_impl_errEnd), ("loop.example/g00684/impl.operations", laid_loop_example_g00684_impl_operations)] }
def FnExactCodeTextSaid : Prop := fnExactCodeTextRow.holds Tryd.pinned (OpenSpec.ofChange fnExactCodeTextSpec)

/-- ITS FALSE NEIGHBOUR: 'it returns false'. Refute it at one input. -/
def fnExactCodeTextWrong : ChangeSpec := { name := "fnExactCodeText", vars := ["loop.example/g00684/impl.operations", "loop.example/g00684/impl.errRange", "loop.example/g00684/impl.errEnd"], fn := fun _ => fun
  | [d, g1, g2, g3] => { results := [.lit (.bool false)], args := [d], vars := [g1, g2, g3] }
  | _ => none }
def FnExactCodeTextWrongFalsely : Prop := fnExactCodeTextRow.holds Tryd.pinned (OpenSpec.ofChange fnExactCodeTextWrong)

/-- 'laws.FnExactApplyOp': WHATEVER THE INPUT: true; the input reads as it did. -/
def fnExactApplyOpSpec : ChangeSpec := { name := "fnExactApplyOp", vars := ["loop.example/g00684/impl.fbKinds", "loop.example/g00684/impl.operations", "loop.example/g00684/impl.effects"], fn := fun _ => fun
  | [d1, d2, d3, d4, g1, g2, g3] => { results := [.lit (.bool true)], args := [d1, d2, d3, d4], vars := [g1, g2, g3] }
  | _ => none }
def fnExactApplyOpRow : OpenClaim := { program := "ytgbhihenflooeaadoor", sum := "7f966629647a0657325d59e9d0a604967d173dd9a2bae4dc60d5cd7bedc36a27", func := "loop.example/g00684/laws.FnExactApplyOp", spec := "fnExactApplyOp", unfollowed := true, recurses := true, named := ["loop.example/g00684/impl.fbKinds", "loop.example/g00684/impl.operations", "loop.example/g00684/impl.effects"], apart := false, laid := [("loop.example/g00684/impl.operations", laid_loop_example_g00684_impl_operations), ("loop.example/g00684/impl.fbKinds", laid_loop_example_g00684_impl_fbKinds), ("loop.example/g00684/impl.effects", laid_loop_example_g00684_impl_effects)] }
def FnExactApplyOpSaid : Prop := fnExactApplyOpRow.holds Tryd.pinned (OpenSpec.ofChange fnExactApplyOpSpec)

/-- ITS FALSE NEIGHBOUR: 'it returns false'. Refute it at one input. -/
def fnExactApplyOpWrong : ChangeSpec := { name := "fnExactApplyOp", vars := ["loop.example/g00684/impl.fbKinds", "loop.example/g00684/impl.operations", "loop.example/g00684/impl.effects"], fn := fun _ => fun
  | [d1, d2, d3, d4, g1, g2, g3] => { results := [.lit (.bool false)], args := [d1, d2, d3, d4], vars := [g1, g2, g3] }
  | _ => none }
def FnExactApplyOpWrongFalsely : Prop := fnExactApplyOpRow.holds Tryd.pinned (OpenSpec.ofChange fnExactApplyOpWrong)

/- THE SECOND FORM. 'bulk': how many values and letters a reading holds, each counted each time it is reached (what is shared counts as often as it is met; a slice's spare places count too). A statement '..UptoSaid' is the law's where the arguments, and the package variables that the reading takes, are together of bulk at most 1048576: NARROWER than '..Said'. Prove '..Said' where nothing that the law and all that it calls make is longer than what came in: it says more and counts as full. Else prove '..UptoSaid'. A law counts once. -/
mutual
def uptoBulk {H : Type} : DataW H → Nat
  | .lit (.string bytes) => bytes.length + 1
  | .lit _ => 1
  | .nil => 1
  | .ptr d => uptoBulk d + 1
  | .slice elems spare => uptoBulkAll elems + uptoBulkAll spare + 1
  | .agg parts => uptoBulkAll parts + 1
  | .iface _ d => uptoBulk d + 1
  | .map entries => uptoBulkEntries entries + 1
  | .held _ => 1
def uptoBulkAll {H : Type} : List (DataW H) → Nat
  | [] => 0
  | d :: r => uptoBulk d + uptoBulkAll r
def uptoBulkEntries {H : Type} : List (Lit × DataW H) → Nat
  | [] => 0
  | x :: r => uptoBulkEntry x + uptoBulkEntries r
def uptoBulkEntry {H : Type} : Lit × DataW H → Nat
  | (.string bytes, d) => bytes.length + uptoBulk d + 1
  | (_, d) => uptoBulk d + 1
 end
def uptoSmall : (H : Type) → List (DataW H) → Bool := fun _ ds => decide (uptoBulkAll ds ≤ 1048576)
def OpenSpec.upto (s : _root_.Go.ChangeSpec) : _root_.Go.OpenSpec := { _root_.Go.OpenSpec.ofChange s with cond := some uptoSmall }

/-- 'laws.FnCode', WHERE WHAT IT READS IS OF BULK AT MOST 1048576: true; the input reads as it did. -/
def fnCodeUptoRow : OpenClaim := { program := "ytgbhihenflooeaadoor", sum := "7f966629647a0657325d59e9d0a604967d173dd9a2bae4dc60d5cd7bedc36a27", func := "loop.example/g00684/laws.FnCode", spec := "fnCode", inPlace := ["internal/reflectlite.TypeOf"], unfollowed := true, recurses := true, named := ["loop.example/g00684/impl.operations", "loop.example/g00684/impl.errRange", "loop.example/g00684/impl.errEnd"], ifaces := true, apart := false, laid := [("loop.example/g00684/impl.errRange", laid_loop_example_g00684_impl_errRange), ("loop.example/g00684/impl.errEnd", laid_loop_example_g00684_impl_errEnd), ("loop.example/g00684/impl.operations", laid_loop_example_g00684_impl_operations)], narrowed := true }
def FnCodeUptoSaid : Prop := fnCodeUptoRow.holds Tryd.pinned (OpenSpec.upto fnCodeSpec)

/-- 'laws.FnOps', WHERE WHAT IT READS IS OF BULK AT MOST 1048576: true; the input reads as it did. -/
def fnOpsUptoRow : OpenClaim := { program := "ytgbhihenflooeaadoor", sum := "7f966629647a0657325d59e9d0a604967d173dd9a2bae4dc60d5cd7bedc36a27", func := "loop.example/g00684/laws.FnOps", spec := "fnOps", unfollowed := true, recurses := true, named := ["loop.example/g00684/impl.fbKinds", "loop.example/g00684/impl.operations", "loop.example/g00684/impl.effects"], apart := false, laid := [("loop.example/g00684/impl.operations", laid_loop_example_g00684_impl_operations), ("loop.example/g00684/impl.fbKinds", laid_loop_example_g00684_impl_fbKinds), ("loop.example/g00684/impl.effects", laid_loop_example_g00684_impl_effects)], narrowed := true }
def FnOpsUptoSaid : Prop := fnOpsUptoRow.holds Tryd.pinned (OpenSpec.upto fnOpsSpec)

/-- 'laws.FnExactCodeText', WHERE WHAT IT READS IS OF BULK AT MOST 1048576: true; the input reads as it did. -/
def fnExactCodeTextUptoRow : OpenClaim := { program := "ytgbhihenflooeaadoor", sum := "7f966629647a0657325d59e9d0a604967d173dd9a2bae4dc60d5cd7bedc36a27", func := "loop.example/g00684/laws.FnExactCodeText", spec := "fnExactCodeText", inPlace := ["internal/reflectlite.TypeOf"], unfollowed := true, recurses := true, named := ["loop.example/g00684/impl.operations", "loop.example/g00684/impl.errRange", "loop.example/g00684/impl.errEnd"], ifaces := true, apart := false, laid := [("loop.example/g00684/impl.errRange", laid_loop_example_g00684_impl_errRange), ("loop.example/g00684/impl.errEnd", laid_loop_example_g00684_impl_errEnd), ("loop.example/g00684/impl.operations", laid_loop_example_g00684_impl_operations)], narrowed := true }
def FnExactCodeTextUptoSaid : Prop := fnExactCodeTextUptoRow.holds Tryd.pinned (OpenSpec.upto fnExactCodeTextSpec)

/-- 'laws.FnExactApplyOp', WHERE WHAT IT READS IS OF BULK AT MOST 1048576: true; the input reads as it did. -/
def fnExactApplyOpUptoRow : OpenClaim := { program := "ytgbhihenflooeaadoor", sum := "7f966629647a0657325d59e9d0a604967d173dd9a2bae4dc60d5cd7bedc36a27", func := "loop.example/g00684/laws.FnExactApplyOp", spec := "fnExactApplyOp", unfollowed := true, recurses := true, named := ["loop.example/g00684/impl.fbKinds", "loop.example/g00684/impl.operations", "loop.example/g00684/impl.effects"], apart := false, laid := [("loop.example/g00684/impl.operations", laid_loop_example_g00684_impl_operations), ("loop.example/g00684/impl.fbKinds", laid_loop_example_g00684_impl_fbKinds), ("loop.example/g00684/impl.effects", laid_loop_example_g00684_impl_effects)], narrowed := true }
def FnExactApplyOpUptoSaid : Prop := fnExactApplyOpUptoRow.holds Tryd.pinned (OpenSpec.upto fnExactApplyOpSpec)

end Rows
end Go.Proofs.YtgbhihenflooeaaDoor
