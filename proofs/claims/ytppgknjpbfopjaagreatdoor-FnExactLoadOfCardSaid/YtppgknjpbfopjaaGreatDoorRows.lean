/-
  NARROWER THAN 'FOR EVERY INPUT', by the rows' own cells (each row's printed sentence says how): FnExactBoundsOf: laid · FnExactAdmitProgram: laid · FnExactLoadOf: laid · FnImage: ifaces, laid.
  DERIVED. THE GIVEN ROWS OF THIS SEAT. 4 by the template 'for every input the law returns true; each argument reads behind the call as it read before'; 0 by the template 'total and deterministic' (their statements: YtppgknjpbfopjaaGreatDoorTotals.lean).
  GIVEN WITH THE SEED: the statements are not yours to turn. If you find one false, say at which input.
  Laid BY PROGRAM, IN A SANDBOX (cutbox-rows.mjs): the forced cells as the released guide's own fill.sh prints them over the translation 76ab19bec646f740… (all of the seat's roots in one cut). By AI agents, Wed Nov 11 2026. No macro, syntax, notation, axiom, sorry.
-/
import Derived.Test.YtppgknjpbfopjaaGreatDoorChecked
import GoSem.Claim
import GoSem.ClaimJoined
import GoSem.ClaimMapViews
import Derived.JoinedTies
import Derived.KernelRfl
namespace Go.Proofs.YtppgknjpbfopjaaGreatDoor
/- THE CELL 'sum', in the pinned program and in every row, IS THE sha256 OF THE DUMP (.gsa) THAT YtppgknjpbfopjaaGreatDoorProg.lean LOADS. Nothing in Lean hashes anything: it is a label: what it is worth is what the hold of that sum in a sandbox is worth. -/
noncomputable def Tryz.pinned : Pinned := { name := "ytppgknjpbfopjaagreatdoor", sum := "76ab19bec646f74036917efc5150ac7e7fec7af83933bfb7412de32a52cb91f5", checked := Tryz.checked }
namespace Rows
def none {H : Type} : Left H := { results := [], args := [] }

/- WHAT THE LISTED PACKAGE-LEVEL VARIABLES READ AS WHEN THE CALL BEGINS. Each datum BY PROGRAM (the guide's laid-datum.mjs) off the statement by which the dump's own 'gosem.cut.vars' lays the variable. In a bare row this is a premise. The card (YtppgknjpbfopjaaGreatDoorCards.lean) ties it to the program's text. -/
def laid_loop_example_g00684_impl_operations {H : Type} : DataW H := .agg [.agg [.lit (.string []), .lit (.int .i64 0), .lit (.int .i64 0), .lit (.int .i64 0)], .agg [.lit (.string [112, 117, 115, 104]), .lit (.int .i64 1), .lit (.int .i64 (-2147483648)), .lit (.int .i64 2147483647)], .agg [.lit (.string [102, 108, 97, 103]), .lit (.int .i64 1), .lit (.int .i64 0), .lit (.int .i64 1)], .agg [.lit (.string [108, 111, 97, 100]), .lit (.int .i64 1), .lit (.int .i64 0), .lit (.int .i64 15)], .agg [.lit (.string [115, 116, 111, 114, 101]), .lit (.int .i64 1), .lit (.int .i64 0), .lit (.int .i64 15)], .agg [.lit (.string [105, 110]), .lit (.int .i64 1), .lit (.int .i64 0), .lit (.int .i64 7)], .agg [.lit (.string [111, 117, 116]), .lit (.int .i64 1), .lit (.int .i64 0), .lit (.int .i64 7)], .agg [.lit (.string [112, 101, 101, 107]), .lit (.int .i64 2), .lit (.int .i64 0), .lit (.int .i64 7)], .agg [.lit (.string [112, 111, 107, 101]), .lit (.int .i64 2), .lit (.int .i64 0), .lit (.int .i64 7)], .agg [.lit (.string [97, 100, 100]), .lit (.int .i64 1), .lit (.int .i64 0), .lit (.int .i64 0)], .agg [.lit (.string [115, 117, 98]), .lit (.int .i64 1), .lit (.int .i64 0), .lit (.int .i64 0)], .agg [.lit (.string [109, 117, 108]), .lit (.int .i64 2), .lit (.int .i64 0), .lit (.int .i64 0)], .agg [.lit (.string [100, 105, 118]), .lit (.int .i64 4), .lit (.int .i64 0), .lit (.int .i64 0)], .agg [.lit (.string [108, 101, 115, 115]), .lit (.int .i64 1), .lit (.int .i64 0), .lit (.int .i64 0)], .agg [.lit (.string [115, 97, 109, 101]), .lit (.int .i64 1), .lit (.int .i64 0), .lit (.int .i64 0)], .agg [.lit (.string [97, 110, 100]), .lit (.int .i64 1), .lit (.int .i64 0), .lit (.int .i64 0)], .agg [.lit (.string [111, 114]), .lit (.int .i64 1), .lit (.int .i64 0), .lit (.int .i64 0)], .agg [.lit (.string [110, 111, 116]), .lit (.int .i64 1), .lit (.int .i64 0), .lit (.int .i64 0)], .agg [.lit (.string [115, 101, 108]), .lit (.int .i64 2), .lit (.int .i64 0), .lit (.int .i64 0)], .agg [.lit (.string [98, 108, 111, 99, 107]), .lit (.int .i64 3), .lit (.int .i64 0), .lit (.int .i64 7)], .agg [.lit (.string [118, 97, 108, 117, 101]), .lit (.int .i64 1), .lit (.int .i64 0), .lit (.int .i64 7)], .agg [.lit (.string [105, 102]), .lit (.int .i64 1), .lit (.int .i64 0), .lit (.int .i64 0)], .agg [.lit (.string [101, 108, 115, 101]), .lit (.int .i64 1), .lit (.int .i64 0), .lit (.int .i64 0)], .agg [.lit (.string [101, 110, 100]), .lit (.int .i64 1), .lit (.int .i64 0), .lit (.int .i64 0)], .agg [.lit (.string [114, 101, 112, 101, 97, 116]), .lit (.int .i64 1), .lit (.int .i64 1), .lit (.int .i64 20)], .agg [.lit (.string [99, 117, 116]), .lit (.int .i64 1), .lit (.int .i64 0), .lit (.int .i64 0)], .agg [.lit (.string [99, 97, 108, 108]), .lit (.int .i64 2), .lit (.int .i64 0), .lit (.int .i64 5)]]
def laid_loop_example_g00684_impl_fbKinds {H : Type} : DataW H := .agg [.agg [.lit (.string []), .lit (.string []), .lit (.int .i64 0), .lit (.int .i64 0)], .agg [.lit (.string [116, 105, 109, 101, 114]), .lit (.string [98, 105]), .lit (.int .i64 2147483647), .lit (.int .i64 2147483647)], .agg [.lit (.string [99, 111, 117, 110, 116, 101, 114]), .lit (.string [98, 98, 105]), .lit (.int .i64 0), .lit (.int .i64 2147483647)], .agg [.lit (.string [101, 100, 103, 101]), .lit (.string [98]), .lit (.int .i64 0), .lit (.int .i64 0)], .agg [.lit (.string [108, 97, 116, 99, 104]), .lit (.string [98, 98]), .lit (.int .i64 0), .lit (.int .i64 0)]]
def laid_loop_example_g00684_impl_effects {H : Type} : DataW H := .agg [.agg [.lit (.string []), .lit (.string [])], .agg [.lit (.string []), .lit (.string [105])], .agg [.lit (.string []), .lit (.string [98])], .agg [.lit (.string []), .lit (.string [105])], .agg [.lit (.string [105]), .lit (.string [])], .agg [.lit (.string []), .lit (.string [98])], .agg [.lit (.string [98]), .lit (.string [])], .agg [.lit (.string []), .lit (.string [98])], .agg [.lit (.string [98]), .lit (.string [])], .agg [.lit (.string [105, 105]), .lit (.string [105])], .agg [.lit (.string [105, 105]), .lit (.string [105])], .agg [.lit (.string [105, 105]), .lit (.string [105])], .agg [.lit (.string [105, 105]), .lit (.string [105])], .agg [.lit (.string [105, 105]), .lit (.string [98])], .agg [.lit (.string [105, 105]), .lit (.string [98])], .agg [.lit (.string [98, 98]), .lit (.string [98])], .agg [.lit (.string [98, 98]), .lit (.string [98])], .agg [.lit (.string [98]), .lit (.string [98])], .agg [.lit (.string [98, 105, 105]), .lit (.string [105])], .agg [.lit (.string []), .lit (.string [98])], .agg [.lit (.string []), .lit (.string [105])], .agg [.lit (.string [98]), .lit (.string [])], .agg [.lit (.string []), .lit (.string [])], .agg [.lit (.string []), .lit (.string [])], .agg [.lit (.string []), .lit (.string [])], .agg [.lit (.string []), .lit (.string [])], .agg [.lit (.string []), .lit (.string [])]]
def laid_loop_example_g00684_impl_errRange {H : Type} : DataW H := .iface "*errors.errorString" (.ptr (.agg [.lit (.string [110, 117, 109, 98, 101, 114, 32, 111, 117, 116, 32, 111, 102, 32, 114, 97, 110, 103, 101])]))
def laid_loop_example_g00684_impl_errEnd {H : Type} : DataW H := .iface "*errors.errorString" (.ptr (.agg [.lit (.string [116, 114, 117, 110, 99, 97, 116, 101, 100])]))

/-- 'laws.FnExactBoundsOf': WHATEVER THE INPUT: true; the input reads as it did. -/
def fnExactBoundsOfSpec : ChangeSpec := { name := "fnExactBoundsOf", vars := ["loop.example/g00684/impl.operations", "loop.example/g00684/impl.effects", "loop.example/g00684/impl.fbKinds"], fn := fun _ => fun
  | [d, g1, g2, g3] => { results := [.lit (.bool true)], args := [d], vars := [g1, g2, g3] }
  | _ => none }
def fnExactBoundsOfRow : OpenClaim := { program := "ytppgknjpbfopjaagreatdoor", sum := "76ab19bec646f74036917efc5150ac7e7fec7af83933bfb7412de32a52cb91f5", func := "loop.example/g00684/laws.FnExactBoundsOf", spec := "fnExactBoundsOf", unfollowed := true, recurses := true, named := ["loop.example/g00684/impl.operations", "loop.example/g00684/impl.effects", "loop.example/g00684/impl.fbKinds"], apart := false, laid := [("loop.example/g00684/impl.operations", laid_loop_example_g00684_impl_operations), ("loop.example/g00684/impl.fbKinds", laid_loop_example_g00684_impl_fbKinds), ("loop.example/g00684/impl.effects", laid_loop_example_g00684_impl_effects)] }
def FnExactBoundsOfSaid : Prop := fnExactBoundsOfRow.holds Tryz.pinned (OpenSpec.ofChange fnExactBoundsOfSpec)

/-- ITS FALSE NEIGHBOUR: 'it returns false'. Refute it at one input. -/
def fnExactBoundsOfWrong : ChangeSpec := { name := "fnExactBoundsOf", vars := ["loop.example/g00684/impl.operations", "loop.example/g00684/impl.effects", "loop.example/g00684/impl.fbKinds"], fn := fun _ => fun
  | [d, g1, g2, g3] => { results := [.lit (.bool false)], args := [d], vars := [g1, g2, g3] }
  | _ => none }
def FnExactBoundsOfWrongFalsely : Prop := fnExactBoundsOfRow.holds Tryz.pinned (OpenSpec.ofChange fnExactBoundsOfWrong)

/-- 'laws.FnExactAdmitProgram': WHATEVER THE INPUT: true; the input reads as it did. -/
def fnExactAdmitProgramSpec : ChangeSpec := { name := "fnExactAdmitProgram", vars := ["loop.example/g00684/impl.operations", "loop.example/g00684/impl.effects", "loop.example/g00684/impl.fbKinds"], fn := fun _ => fun
  | [d, g1, g2, g3] => { results := [.lit (.bool true)], args := [d], vars := [g1, g2, g3] }
  | _ => none }
def fnExactAdmitProgramRow : OpenClaim := { program := "ytppgknjpbfopjaagreatdoor", sum := "76ab19bec646f74036917efc5150ac7e7fec7af83933bfb7412de32a52cb91f5", func := "loop.example/g00684/laws.FnExactAdmitProgram", spec := "fnExactAdmitProgram", unfollowed := true, recurses := true, named := ["loop.example/g00684/impl.operations", "loop.example/g00684/impl.effects", "loop.example/g00684/impl.fbKinds"], apart := false, laid := [("loop.example/g00684/impl.operations", laid_loop_example_g00684_impl_operations), ("loop.example/g00684/impl.fbKinds", laid_loop_example_g00684_impl_fbKinds), ("loop.example/g00684/impl.effects", laid_loop_example_g00684_impl_effects)] }
def FnExactAdmitProgramSaid : Prop := fnExactAdmitProgramRow.holds Tryz.pinned (OpenSpec.ofChange fnExactAdmitProgramSpec)

/-- ITS FALSE NEIGHBOUR: 'it returns false'. Refute it at one input. -/
def fnExactAdmitProgramWrong : ChangeSpec := { name := "fnExactAdmitProgram", vars := ["loop.example/g00684/impl.operations", "loop.example/g00684/impl.effects", "loop.example/g00684/impl.fbKinds"], fn := fun _ => fun
  | [d, g1, g2, g3] => { results := [.lit (.bool false)], args := [d], vars := [g1, g2, g3] }
  | _ => none }
def FnExactAdmitProgramWrongFalsely : Prop := fnExactAdmitProgramRow.holds Tryz.pinned (OpenSpec.ofChange fnExactAdmitProgramWrong)

/-- 'laws.FnExactLoadOf': WHATEVER THE INPUT: true; the input reads as it did. -/
def fnExactLoadOfSpec : ChangeSpec := { name := "fnExactLoadOf", vars := ["loop.example/g00684/impl.operations", "loop.example/g00684/impl.effects", "loop.example/g00684/impl.fbKinds"], fn := fun _ => fun
  | [d, g1, g2, g3] => { results := [.lit (.bool true)], args := [d], vars := [g1, g2, g3] }
  | _ => none }
def fnExactLoadOfRow : OpenClaim := { program := "ytppgknjpbfopjaagreatdoor", sum := "76ab19bec646f74036917efc5150ac7e7fec7af83933bfb7412de32a52cb91f5", func := "loop.example/g00684/laws.FnExactLoadOf", spec := "fnExactLoadOf", unfollowed := true, recurses := true, named := ["loop.example/g00684/impl.operations", "loop.example/g00684/impl.effects", "loop.example/g00684/impl.fbKinds"], apart := false, laid := [("loop.example/g00684/impl.operations", laid_loop_example_g00684_impl_operations), ("loop.example/g00684/impl.fbKinds", laid_loop_example_g00684_impl_fbKinds), ("loop.example/g00684/impl.effects", laid_loop_example_g00684_impl_effects)] }
def FnExactLoadOfSaid : Prop := fnExactLoadOfRow.holds Tryz.pinned (OpenSpec.ofChange fnExactLoadOfSpec)

/-- ITS FALSE NEIGHBOUR: 'it returns false'. Refute it at one input. -/
def fnExactLoadOfWrong : ChangeSpec := { name := "fnExactLoadOf", vars := ["loop.example/g00684/impl.operations", "loop.example/g00684/impl.effects", "loop.example/g00684/impl.fbKinds"], fn := fun _ => fun
  | [d, g1, g2, g3] => { results := [.lit (.bool false)], args := [d], vars := [g1, g2, g3] }
  | _ => none }
def FnExactLoadOfWrongFalsely : Prop := fnExactLoadOfRow.holds Tryz.pinned (OpenSpec.ofChange fnExactLoadOfWrong)

/-- 'laws.FnImage': WHATEVER THE INPUT: true; the input reads as it did. -/
def fnImageSpec : ChangeSpec := { name := "fnImage", vars := ["loop.example/g00684/impl.operations", "loop.example/g00684/impl.effects", "loop.example/g00684/impl.fbKinds", "loop.example/g00684/impl.errRange", "loop.example/g00684/impl.errEnd"], fn := fun _ => fun
  | [d1, d2, g1, g2, g3, g4, g5] => { results := [.lit (.bool true)], args := [d1, d2], vars := [g1, g2, g3, g4, g5] }
  | _ => none }
def fnImageRow : OpenClaim := { program := "ytppgknjpbfopjaagreatdoor", sum := "76ab19bec646f74036917efc5150ac7e7fec7af83933bfb7412de32a52cb91f5", func := "loop.example/g00684/laws.FnImage", spec := "fnImage", inPlace := ["internal/reflectlite.TypeOf"], unfollowed := true, recurses := true, named := ["loop.example/g00684/impl.operations", "loop.example/g00684/impl.effects", "loop.example/g00684/impl.fbKinds", "loop.example/g00684/impl.errRange", "loop.example/g00684/impl.errEnd"], ifaces := true, apart := false, laid := [("loop.example/g00684/impl.errRange", laid_loop_example_g00684_impl_errRange), ("loop.example/g00684/impl.errEnd", laid_loop_example_g00684_impl_errEnd), ("loop.example/g00684/impl.operations", laid_loop_example_g00684_impl_operations), ("loop.example/g00684/impl.fbKinds", laid_loop_example_g00684_impl_fbKinds), ("loop.example/g00684/impl.effects", laid_loop_example_g00684_impl_effects)] }
def FnImageSaid : Prop := fnImageRow.holds Tryz.pinned (OpenSpec.ofChange fnImageSpec)

/-- ITS FALSE NEIGHBOUR: 'it returns false'. Refute it at one input. -/
def fnImageWrong : ChangeSpec := { name := "fnImage", vars := ["loop.example/g00684/impl.operations", "loop.example/g00684/impl.effects", "loop.example/g00684/impl.fbKinds", "loop.example/g00684/impl.errRange", "loop.example/g00684/impl.errEnd"], fn := fun _ => fun
  | [d1, d2, g1, g2, g3, g4, g5] => { results := [.lit (.bool false)], args := [d1, d2], vars := [g1, g2, g3, g4, g5] }
  | _ => none }
def FnImageWrongFalsely : Prop := fnImageRow.holds Tryz.pinned (OpenSpec.ofChange fnImageWrong)

/- THE SECOND FORM. 'bulk': how many values and letters a reading holds, each counted each time it is reached (what is shared counts as often as it is met; a slice's spare places count too). A statement '..UptoSaid' is the law's where the arguments, and the package variables that the reading takes, are together of bulk at most 1048576: NARROWER than '..Said'. Prove '..Said' where nothing that the law and all that it calls make is longer than what came in: it says more and counts as full. Else prove '..UptoSaid'. A law counts once. -/
mutual
def uptoBulk {H : Type} : DataW H → Nat
  | .lit (.string bytes) => bytes.length + 1
  | .lit _ => 1
  | .nil => 1
  | .ptr d => uptoBulk d + 1
  | .slice elems spare => uptoBulkAll elems + uptoBulkAll spare + 1
  | .agg parts => uptoBulkAll parts + 1
  | .iface _ d => uptoBulk d + 1
  | .map entries => uptoBulkEntries entries + 1
  | .held _ => 1
def uptoBulkAll {H : Type} : List (DataW H) → Nat
  | [] => 0
  | d :: r => uptoBulk d + uptoBulkAll r
def uptoBulkEntries {H : Type} : List (Lit × DataW H) → Nat
  | [] => 0
  | x :: r => uptoBulkEntry x + uptoBulkEntries r
def uptoBulkEntry {H : Type} : Lit × DataW H → Nat
  | (.string bytes, d) => bytes.length + uptoBulk d + 1
  | (_, d) => uptoBulk d + 1
 end
def uptoSmall : (H : Type) → List (DataW H) → Bool := fun _ ds => decide (uptoBulkAll ds ≤ 1048576)
def OpenSpec.upto (s : _root_.Go.ChangeSpec) : _root_.Go.OpenSpec := { _root_.Go.OpenSpec.ofChange s with cond := some uptoSmall }

/-- 'laws.FnExactBoundsOf', WHERE WHAT IT READS IS OF BULK AT MOST 1048576: true; the input reads as it did. -/
def fnExactBoundsOfUptoRow : OpenClaim := { program := "ytppgknjpbfopjaagreatdoor", sum := "76ab19bec646f74036917efc5150ac7e7fec7af83933bfb7412de32a52cb91f5", func := "loop.example/g00684/laws.FnExactBoundsOf", spec := "fnExactBoundsOf", unfollowed := true, recurses := true, named := ["loop.example/g00684/impl.operations", "loop.example/g00684/impl.effects", "loop.example/g00684/impl.fbKinds"], apart := false, laid := [("loop.example/g00684/impl.operations", laid_loop_example_g00684_impl_operations), ("loop.example/g00684/impl.fbKinds", laid_loop_example_g00684_impl_fbKinds), ("loop.example/g00684/impl.effects", laid_loop_example_g00684_impl_effects)], narrowed := true }
def FnExactBoundsOfUptoSaid : Prop := fnExactBoundsOfUptoRow.holds Tryz.pinned (OpenSpec.upto fnExactBoundsOfSpec)

/-- 'laws.FnExactAdmitProgram', WHERE WHAT IT READS IS OF BULK AT MOST 1048576: true; the input reads as it did. -/
def fnExactAdmitProgramUptoRow : OpenClaim := { program := "ytppgknjpbfopjaagreatdoor", sum := "76ab19bec646f74036917efc5150ac7e7fec7af83933bfb7412de32a52cb91f5", func := "loop.example/g00684/laws.FnExactAdmitProgram", spec := "fnExactAdmitProgram", unfollowed := true, recurses := true, named := ["loop.example/g00684/impl.operations", "loop.example/g00684/impl.effects", "loop.example/g00684/impl.fbKinds"], apart := false, laid := [("loop.example/g00684/impl.operations", laid_loop_example_g00684_impl_operations), ("loop.example/g00684/impl.fbKinds", laid_loop_example_g00684_impl_fbKinds), ("loop.example/g00684/impl.effects", laid_loop_example_g00684_impl_effects)], narrowed := true }
def FnExactAdmitProgramUptoSaid : Prop := fnExactAdmitProgramUptoRow.holds Tryz.pinned (OpenSpec.upto fnExactAdmitProgramSpec)

/-- 'laws.FnExactLoadOf', WHERE WHAT IT READS IS OF BULK AT MOST 1048576: true; the input reads as it did. -/
def fnExactLoadOfUptoRow : OpenClaim := { program := "ytppgknjpbfopjaagreatdoor", sum := "76ab19bec646f74036917efc5150ac7e7fec7af83933bfb7412de32a52cb91f5", func := "loop.example/g00684/laws.FnExactLoadOf", spec := "fnExactLoadOf", unfollowed := true, recurses := true, named := ["loop.example/g00684/impl.operations", "loop.example/g00684/impl.effects", "loop.example/g00684/impl.fbKinds"], apart := false, laid := [("loop.example/g00684/impl.operations", laid_loop_example_g00684_impl_operations), ("loop.example/g00684/impl.fbKinds", laid_loop_example_g00684_impl_fbKinds), ("loop.example/g00684/impl.effects", laid_loop_example_g00684_impl_effects)], narrowed := true }
def FnExactLoadOfUptoSaid : Prop := fnExactLoadOfUptoRow.holds Tryz.pinned (OpenSpec.upto fnExactLoadOfSpec)

/-- 'laws.FnImage', WHERE WHAT IT READS IS OF BULK AT MOST 1048576: true; the input reads as it did. -/
def fnImageUptoRow : OpenClaim := { program := "ytppgknjpbfopjaagreatdoor", sum := "76ab19bec646f74036917efc5150ac7e7fec7af83933bfb7412de32a52cb91f5", func := "loop.example/g00684/laws.FnImage", spec := "fnImage", inPlace := ["internal/reflectlite.TypeOf"], unfollowed := true, recurses := true, named := ["loop.example/g00684/impl.operations", "loop.example/g00684/impl.effects", "loop.example/g00684/impl.fbKinds", "loop.example/g00684/impl.errRange", "loop.example/g00684/impl.errEnd"], ifaces := true, apart := false, laid := [("loop.example/g00684/impl.errRange", laid_loop_example_g00684_impl_errRange), ("loop.example/g00684/impl.errEnd", laid_loop_example_g00684_impl_errEnd), ("loop.example/g00684/impl.operations", laid_loop_example_g00684_impl_operations), ("loop.example/g00684/impl.fbKinds", laid_loop_example_g00684_impl_fbKinds), ("loop.example/g00684/impl.effects", laid_loop_example_g00684_impl_effects)], narrowed := true }
def FnImageUptoSaid : Prop := fnImageUptoRow.holds Tryz.pinned (OpenSpec.upto fnImageSpec)

end Rows
end Go.Proofs.YtppgknjpbfopjaaGreatDoor
