/-
  NARROWER THAN 'FOR EVERY INPUT', by the rows' own cells (each row's printed sentence says how): FnExactVerifyCode: laid · FnExactVerifyAll: laid · FnExactStackAt: laid · FnExactCallsOf: laid · FnExactCostsOf: laid · FnExactFlatOf: laid · FnExactNewCore: laid · FnExactCoreOK: laid.
  DERIVED. THE GIVEN ROWS OF THIS SEAT. 8 by the template 'for every input the law returns true; each argument reads behind the call as it read before'; 0 by the template 'total and deterministic' (their statements: YtnehaidkhpjpbaaDoorTotals.lean).
  GIVEN WITH THE SEED: the statements are not yours to turn. If you find one false, say at which input.
  Laid BY PROGRAM, IN A SANDBOX (cutbox-rows.mjs): the forced cells as the released guide's own fill.sh prints them over the translation bc1ebd68dfcad2ff… (all of the seat's roots in one cut). By AI agents, Wed Nov 11 2026. No macro, syntax, notation, axiom, sorry.
-/
import Derived.Test.YtnehaidkhpjpbaaDoorChecked
import GoSem.Claim
import GoSem.ClaimJoined
import GoSem.ClaimMapViews
import Derived.JoinedTies
import Derived.KernelRfl
namespace Go.Proofs.YtnehaidkhpjpbaaDoor
/- THE CELL 'sum', in the pinned program and in every row, IS THE sha256 OF THE DUMP (.gsa) THAT YtnehaidkhpjpbaaDoorProg.lean LOADS. Nothing in Lean hashes anything: it is a label: what it is worth is what the hold of that sum in a sandbox is worth. -/
noncomputable def Tryd.pinned : Pinned := { name := "ytnehaidkhpjpbaadoor", sum := "bc1ebd68dfcad2ff36a37b9685ee0bee5268cf486287ffb6dbe09240f09026c7", checked := Tryd.checked }
namespace Rows
def none {H : Type} : Left H := { results := [], args := [] }

/- WHAT THE LISTED PACKAGE-LEVEL VARIABLES READ AS WHEN THE CALL BEGINS. Each datum BY PROGRAM (the guide's laid-datum.mjs) off the statement by which the dump's own 'gosem.cut.vars' lays the variable. In a bare row this is a premise. The card (YtnehaidkhpjpbaaDoorCards.lean) ties it to the program's text. -/
def laid_loop_example_g00684_impl_operations {H : Type} : DataW H := .agg [.agg [.lit (.string []), .lit (.int .i64 0), .lit (.int .i64 0), .lit (.int .i64 0)], .agg [.lit (.string [112, 117, 115, 104]), .lit (.int .i64 1), .lit (.int .i64 (-2147483648)), .lit (.int .i64 2147483647)], .agg [.lit (.string [102, 108, 97, 103]), .lit (.int .i64 1), .lit (.int .i64 0), .lit (.int .i64 1)], .agg [.lit (.string [108, 111, 97, 100]), .lit (.int .i64 1), .lit (.int .i64 0), .lit (.int .i64 15)], .agg [.lit (.string [115, 116, 111, 114, 101]), .lit (.int .i64 1), .lit (.int .i64 0), .lit (.int .i64 15)], .agg [.lit (.string [105, 110]), .lit (.int .i64 1), .lit (.int .i64 0), .lit (.int .i64 7)], .agg [.lit (.string [111, 117, 116]), .lit (.int .i64 1), .lit (.int .i64 0), .lit (.int .i64 7)], .agg [.lit (.string [112, 101, 101, 107]), .lit (.int .i64 2), .lit (.int .i64 0), .lit (.int .i64 7)], .agg [.lit (.string [112, 111, 107, 101]), .lit (.int .i64 2), .lit (.int .i64 0), .lit (.int .i64 7)], .agg [.lit (.string [97, 100, 100]), .lit (.int .i64 1), .lit (.int .i64 0), .lit (.int .i64 0)], .agg [.lit (.string [115, 117, 98]), .lit (.int .i64 1), .lit (.int .i64 0), .lit (.int .i64 0)], .agg [.lit (.string [109, 117, 108]), .lit (.int .i64 2), .lit (.int .i64 0), .lit (.int .i64 0)], .agg [.lit (.string [100, 105, 118]), .lit (.int .i64 4), .lit (.int .i64 0), .lit (.int .i64 0)], .agg [.lit (.string [108, 101, 115, 115]), .lit (.int .i64 1), .lit (.int .i64 0), .lit (.int .i64 0)], .agg [.lit (.string [115, 97, 109, 101]), .lit (.int .i64 1), .lit (.int .i64 0), .lit (.int .i64 0)], .agg [.lit (.string [97, 110, 100]), .lit (.int .i64 1), .lit (.int .i64 0), .lit (.int .i64 0)], .agg [.lit (.string [111, 114]), .lit (.int .i64 1), .lit (.int .i64 0), .lit (.int .i64 0)], .agg [.lit (.string [110, 111, 116]), .lit (.int .i64 1), .lit (.int .i64 0), .lit (.int .i64 0)], .agg [.lit (.string [115, 101, 108]), .lit (.int .i64 2), .lit (.int .i64 0), .lit (.int .i64 0)], .agg [.lit (.string [98, 108, 111, 99, 107]), .lit (.int .i64 3), .lit (.int .i64 0), .lit (.int .i64 7)], .agg [.lit (.string [118, 97, 108, 117, 101]), .lit (.int .i64 1), .lit (.int .i64 0), .lit (.int .i64 7)], .agg [.lit (.string [105, 102]), .lit (.int .i64 1), .lit (.int .i64 0), .lit (.int .i64 0)], .agg [.lit (.string [101, 108, 115, 101]), .lit (.int .i64 1), .lit (.int .i64 0), .lit (.int .i64 0)], .agg [.lit (.string [101, 110, 100]), .lit (.int .i64 1), .lit (.int .i64 0), .lit (.int .i64 0)], .agg [.lit (.string [114, 101, 112, 101, 97, 116]), .lit (.int .i64 1), .lit (.int .i64 1), .lit (.int .i64 20)], .agg [.lit (.string [99, 117, 116]), .lit (.int .i64 1), .lit (.int .i64 0), .lit (.int .i64 0)], .agg [.lit (.string [99, 97, 108, 108]), .lit (.int .i64 2), .lit (.int .i64 0), .lit (.int .i64 5)]]
def laid_loop_example_g00684_impl_fbKinds {H : Type} : DataW H := .agg [.agg [.lit (.string []), .lit (.string []), .lit (.int .i64 0), .lit (.int .i64 0)], .agg [.lit (.string [116, 105, 109, 101, 114]), .lit (.string [98, 105]), .lit (.int .i64 2147483647), .lit (.int .i64 2147483647)], .agg [.lit (.string [99, 111, 117, 110, 116, 101, 114]), .lit (.string [98, 98, 105]), .lit (.int .i64 0), .lit (.int .i64 2147483647)], .agg [.lit (.string [101, 100, 103, 101]), .lit (.string [98]), .lit (.int .i64 0), .lit (.int .i64 0)], .agg [.lit (.string [108, 97, 116, 99, 104]), .lit (.string [98, 98]), .lit (.int .i64 0), .lit (.int .i64 0)]]
def laid_loop_example_g00684_impl_effects {H : Type} : DataW H := .agg [.agg [.lit (.string []), .lit (.string [])], .agg [.lit (.string []), .lit (.string [105])], .agg [.lit (.string []), .lit (.string [98])], .agg [.lit (.string []), .lit (.string [105])], .agg [.lit (.string [105]), .lit (.string [])], .agg [.lit (.string []), .lit (.string [98])], .agg [.lit (.string [98]), .lit (.string [])], .agg [.lit (.string []), .lit (.string [98])], .agg [.lit (.string [98]), .lit (.string [])], .agg [.lit (.string [105, 105]), .lit (.string [105])], .agg [.lit (.string [105, 105]), .lit (.string [105])], .agg [.lit (.string [105, 105]), .lit (.string [105])], .agg [.lit (.string [105, 105]), .lit (.string [105])], .agg [.lit (.string [105, 105]), .lit (.string [98])], .agg [.lit (.string [105, 105]), .lit (.string [98])], .agg [.lit (.string [98, 98]), .lit (.string [98])], .agg [.lit (.string [98, 98]), .lit (.string [98])], .agg [.lit (.string [98]), .lit (.string [98])], .agg [.lit (.string [98, 105, 105]), .lit (.string [105])], .agg [.lit (.string []), .lit (.string [98])], .agg [.lit (.string []), .lit (.string [105])], .agg [.lit (.string [98]), .lit (.string [])], .agg [.lit (.string []), .lit (.string [])], .agg [.lit (.string []), .lit (.string [])], .agg [.lit (.string []), .lit (.string [])], .agg [.lit (.string []), .lit (.string [])], .agg [.lit (.string []), .lit (.string [])]]

/-- 'laws.FnExactVerifyCode': WHATEVER THE INPUT: true; the input reads as it did. -/
def fnExactVerifyCodeSpec : ChangeSpec := { name := "fnExactVerifyCode", vars := ["loop.example/g00684/impl.operations", "loop.example/g00684/impl.effects", "loop.example/g00684/impl.fbKinds"], fn := fun _ => fun
  | [d1, d2, d3, g1, g2, g3] => { results := [.lit (.bool true)], args := [d1, d2, d3], vars := [g1, g2, g3] }
  | _ => none }
def fnExactVerifyCodeRow : OpenClaim := { program := "ytnehaidkhpjpbaadoor", sum := "bc1ebd68dfcad2ff36a37b9685ee0bee5268cf486287ffb6dbe09240f09026c7", func := "loop.example/g00684/laws.FnExactVerifyCode", spec := "fnExactVerifyCode", unfollowed := true, recurses := true, named := ["loop.example/g00684/impl.operations", "loop.example/g00684/impl.effects", "loop.example/g00684/impl.fbKinds"], apart := false, laid := [("loop.example/g00684/impl.operations", laid_loop_example_g00684_impl_operations), ("loop.example/g00684/impl.fbKinds", laid_loop_example_g00684_impl_fbKinds), ("loop.example/g00684/impl.effects", laid_loop_example_g00684_impl_effects)] }
def FnExactVerifyCodeSaid : Prop := fnExactVerifyCodeRow.holds Tryd.pinned (OpenSpec.ofChange fnExactVerifyCodeSpec)

/-- ITS FALSE NEIGHBOUR: 'it returns false'. Refute it at one input. -/
def fnExactVerifyCodeWrong : ChangeSpec := { name := "fnExactVerifyCode", vars := ["loop.example/g00684/impl.operations", "loop.example/g00684/impl.effects", "loop.example/g00684/impl.fbKinds"], fn := fun _ => fun
  | [d1, d2, d3, g1, g2, g3] => { results := [.lit (.bool false)], args := [d1, d2, d3], vars := [g1, g2, g3] }
  | _ => none }
def FnExactVerifyCodeWrongFalsely : Prop := fnExactVerifyCodeRow.holds Tryd.pinned (OpenSpec.ofChange fnExactVerifyCodeWrong)

/-- 'laws.FnExactVerifyAll': WHATEVER THE INPUT: true; the input reads as it did. -/
def fnExactVerifyAllSpec : ChangeSpec := { name := "fnExactVerifyAll", vars := ["loop.example/g00684/impl.operations", "loop.example/g00684/impl.effects", "loop.example/g00684/impl.fbKinds"], fn := fun _ => fun
  | [d1, d2, g1, g2, g3] => { results := [.lit (.bool true)], args := [d1, d2], vars := [g1, g2, g3] }
  | _ => none }
def fnExactVerifyAllRow : OpenClaim := { program := "ytnehaidkhpjpbaadoor", sum := "bc1ebd68dfcad2ff36a37b9685ee0bee5268cf486287ffb6dbe09240f09026c7", func := "loop.example/g00684/laws.FnExactVerifyAll", spec := "fnExactVerifyAll", unfollowed := true, recurses := true, named := ["loop.example/g00684/impl.operations", "loop.example/g00684/impl.effects", "loop.example/g00684/impl.fbKinds"], apart := false, laid := [("loop.example/g00684/impl.operations", laid_loop_example_g00684_impl_operations), ("loop.example/g00684/impl.fbKinds", laid_loop_example_g00684_impl_fbKinds), ("loop.example/g00684/impl.effects", laid_loop_example_g00684_impl_effects)] }
def FnExactVerifyAllSaid : Prop := fnExactVerifyAllRow.holds Tryd.pinned (OpenSpec.ofChange fnExactVerifyAllSpec)

/-- ITS FALSE NEIGHBOUR: 'it returns false'. Refute it at one input. -/
def fnExactVerifyAllWrong : ChangeSpec := { name := "fnExactVerifyAll", vars := ["loop.example/g00684/impl.operations", "loop.example/g00684/impl.effects", "loop.example/g00684/impl.fbKinds"], fn := fun _ => fun
  | [d1, d2, g1, g2, g3] => { results := [.lit (.bool false)], args := [d1, d2], vars := [g1, g2, g3] }
  | _ => none }
def FnExactVerifyAllWrongFalsely : Prop := fnExactVerifyAllRow.holds Tryd.pinned (OpenSpec.ofChange fnExactVerifyAllWrong)

/-- 'laws.FnExactStackAt': WHATEVER THE INPUT: true; the input reads as it did. -/
def fnExactStackAtSpec : ChangeSpec := { name := "fnExactStackAt", vars := ["loop.example/g00684/impl.operations", "loop.example/g00684/impl.effects", "loop.example/g00684/impl.fbKinds"], fn := fun _ => fun
  | [d1, d2, d3, d4, g1, g2, g3] => { results := [.lit (.bool true)], args := [d1, d2, d3, d4], vars := [g1, g2, g3] }
  | _ => none }
def fnExactStackAtRow : OpenClaim := { program := "ytnehaidkhpjpbaadoor", sum := "bc1ebd68dfcad2ff36a37b9685ee0bee5268cf486287ffb6dbe09240f09026c7", func := "loop.example/g00684/laws.FnExactStackAt", spec := "fnExactStackAt", unfollowed := true, recurses := true, named := ["loop.example/g00684/impl.operations", "loop.example/g00684/impl.effects", "loop.example/g00684/impl.fbKinds"], apart := false, laid := [("loop.example/g00684/impl.operations", laid_loop_example_g00684_impl_operations), ("loop.example/g00684/impl.fbKinds", laid_loop_example_g00684_impl_fbKinds), ("loop.example/g00684/impl.effects", laid_loop_example_g00684_impl_effects)] }
def FnExactStackAtSaid : Prop := fnExactStackAtRow.holds Tryd.pinned (OpenSpec.ofChange fnExactStackAtSpec)

/-- ITS FALSE NEIGHBOUR: 'it returns false'. Refute it at one input. -/
def fnExactStackAtWrong : ChangeSpec := { name := "fnExactStackAt", vars := ["loop.example/g00684/impl.operations", "loop.example/g00684/impl.effects", "loop.example/g00684/impl.fbKinds"], fn := fun _ => fun
  | [d1, d2, d3, d4, g1, g2, g3] => { results := [.lit (.bool false)], args := [d1, d2, d3, d4], vars := [g1, g2, g3] }
  | _ => none }
def FnExactStackAtWrongFalsely : Prop := fnExactStackAtRow.holds Tryd.pinned (OpenSpec.ofChange fnExactStackAtWrong)

/-- 'laws.FnExactCallsOf': WHATEVER THE INPUT: true; the input reads as it did. -/
def fnExactCallsOfSpec : ChangeSpec := { name := "fnExactCallsOf", vars := ["loop.example/g00684/impl.operations"], fn := fun _ => fun
  | [d, g1] => { results := [.lit (.bool true)], args := [d], vars := [g1] }
  | _ => none }
def fnExactCallsOfRow : OpenClaim := { program := "ytnehaidkhpjpbaadoor", sum := "bc1ebd68dfcad2ff36a37b9685ee0bee5268cf486287ffb6dbe09240f09026c7", func := "loop.example/g00684/laws.FnExactCallsOf", spec := "fnExactCallsOf", unfollowed := true, recurses := true, named := ["loop.example/g00684/impl.operations"], apart := false, laid := [("loop.example/g00684/impl.operations", laid_loop_example_g00684_impl_operations)] }
def FnExactCallsOfSaid : Prop := fnExactCallsOfRow.holds Tryd.pinned (OpenSpec.ofChange fnExactCallsOfSpec)

/-- ITS FALSE NEIGHBOUR: 'it returns false'. Refute it at one input. -/
def fnExactCallsOfWrong : ChangeSpec := { name := "fnExactCallsOf", vars := ["loop.example/g00684/impl.operations"], fn := fun _ => fun
  | [d, g1] => { results := [.lit (.bool false)], args := [d], vars := [g1] }
  | _ => none }
def FnExactCallsOfWrongFalsely : Prop := fnExactCallsOfRow.holds Tryd.pinned (OpenSpec.ofChange fnExactCallsOfWrong)

/-- 'laws.FnExactCostsOf': WHATEVER THE INPUT: true; the input reads as it did. -/
def fnExactCostsOfSpec : ChangeSpec := { name := "fnExactCostsOf", vars := ["loop.example/g00684/impl.operations", "loop.example/g00684/impl.effects", "loop.example/g00684/impl.fbKinds"], fn := fun _ => fun
  | [d1, d2, g1, g2, g3] => { results := [.lit (.bool true)], args := [d1, d2], vars := [g1, g2, g3] }
  | _ => none }
def fnExactCostsOfRow : OpenClaim := { program := "ytnehaidkhpjpbaadoor", sum := "bc1ebd68dfcad2ff36a37b9685ee0bee5268cf486287ffb6dbe09240f09026c7", func := "loop.example/g00684/laws.FnExactCostsOf", spec := "fnExactCostsOf", unfollowed := true, recurses := true, named := ["loop.example/g00684/impl.operations", "loop.example/g00684/impl.effects", "loop.example/g00684/impl.fbKinds"], apart := false, laid := [("loop.example/g00684/impl.operations", laid_loop_example_g00684_impl_operations), ("loop.example/g00684/impl.fbKinds", laid_loop_example_g00684_impl_fbKinds), ("loop.example/g00684/impl.effects", laid_loop_example_g00684_impl_effects)] }
def FnExactCostsOfSaid : Prop := fnExactCostsOfRow.holds Tryd.pinned (OpenSpec.ofChange fnExactCostsOfSpec)

/-- ITS FALSE NEIGHBOUR: 'it returns false'. Refute it at one input. -/
def fnExactCostsOfWrong : ChangeSpec := { name := "fnExactCostsOf", vars := ["loop.example/g00684/impl.operations", "loop.example/g00684/impl.effects", "loop.example/g00684/impl.fbKinds"], fn := fun _ => fun
  | [d1, d2, g1, g2, g3] => { results := [.lit (.bool false)], args := [d1, d2], vars := [g1, g2, g3] }
  | _ => none }
def FnExactCostsOfWrongFalsely : Prop := fnExactCostsOfRow.holds Tryd.pinned (OpenSpec.ofChange fnExactCostsOfWrong)

/-- 'laws.FnExactFlatOf': WHATEVER THE INPUT: true; the input reads as it did. -/
def fnExactFlatOfSpec : ChangeSpec := { name := "fnExactFlatOf", vars := ["loop.example/g00684/impl.operations", "loop.example/g00684/impl.effects", "loop.example/g00684/impl.fbKinds"], fn := fun _ => fun
  | [d1, d2, d3, g1, g2, g3] => { results := [.lit (.bool true)], args := [d1, d2, d3], vars := [g1, g2, g3] }
  | _ => none }
def fnExactFlatOfRow : OpenClaim := { program := "ytnehaidkhpjpbaadoor", sum := "bc1ebd68dfcad2ff36a37b9685ee0bee5268cf486287ffb6dbe09240f09026c7", func := "loop.example/g00684/laws.FnExactFlatOf", spec := "fnExactFlatOf", unfollowed := true, recurses := true, named := ["loop.example/g00684/impl.operations", "loop.example/g00684/impl.effects", "loop.example/g00684/impl.fbKinds"], apart := false, laid := [("loop.example/g00684/impl.operations", laid_loop_example_g00684_impl_operations), ("loop.example/g00684/impl.fbKinds", laid_loop_example_g00684_impl_fbKinds), ("loop.example/g00684/impl.effects", laid_loop_example_g00684_impl_effects)] }
def FnExactFlatOfSaid : Prop := fnExactFlatOfRow.holds Tryd.pinned (OpenSpec.ofChange fnExactFlatOfSpec)

/-- ITS FALSE NEIGHBOUR: 'it returns false'. Refute it at one input. -/
def fnExactFlatOfWrong : ChangeSpec := { name := "fnExactFlatOf", vars := ["loop.example/g00684/impl.operations", "loop.example/g00684/impl.effects", "loop.example/g00684/impl.fbKinds"], fn := fun _ => fun
  | [d1, d2, d3, g1, g2, g3] => { results := [.lit (.bool false)], args := [d1, d2, d3], vars := [g1, g2, g3] }
  | _ => none }
def FnExactFlatOfWrongFalsely : Prop := fnExactFlatOfRow.holds Tryd.pinned (OpenSpec.ofChange fnExactFlatOfWrong)

/-- 'laws.FnExactNewCore': WHATEVER THE INPUT: true; the input reads as it did. -/
def fnExactNewCoreSpec : ChangeSpec := { name := "fnExactNewCore", vars := ["loop.example/g00684/impl.operations", "loop.example/g00684/impl.effects", "loop.example/g00684/impl.fbKinds"], fn := fun _ => fun
  | [d1, d2, d3, g1, g2, g3] => { results := [.lit (.bool true)], args := [d1, d2, d3], vars := [g1, g2, g3] }
  | _ => none }
def fnExactNewCoreRow : OpenClaim := { program := "ytnehaidkhpjpbaadoor", sum := "bc1ebd68dfcad2ff36a37b9685ee0bee5268cf486287ffb6dbe09240f09026c7", func := "loop.example/g00684/laws.FnExactNewCore", spec := "fnExactNewCore", unfollowed := true, recurses := true, named := ["loop.example/g00684/impl.operations", "loop.example/g00684/impl.effects", "loop.example/g00684/impl.fbKinds"], apart := false, laid := [("loop.example/g00684/impl.operations", laid_loop_example_g00684_impl_operations), ("loop.example/g00684/impl.fbKinds", laid_loop_example_g00684_impl_fbKinds), ("loop.example/g00684/impl.effects", laid_loop_example_g00684_impl_effects)] }
def FnExactNewCoreSaid : Prop := fnExactNewCoreRow.holds Tryd.pinned (OpenSpec.ofChange fnExactNewCoreSpec)

/-- ITS FALSE NEIGHBOUR: 'it returns false'. Refute it at one input. -/
def fnExactNewCoreWrong : ChangeSpec := { name := "fnExactNewCore", vars := ["loop.example/g00684/impl.operations", "loop.example/g00684/impl.effects", "loop.example/g00684/impl.fbKinds"], fn := fun _ => fun
  | [d1, d2, d3, g1, g2, g3] => { results := [.lit (.bool false)], args := [d1, d2, d3], vars := [g1, g2, g3] }
  | _ => none }
def FnExactNewCoreWrongFalsely : Prop := fnExactNewCoreRow.holds Tryd.pinned (OpenSpec.ofChange fnExactNewCoreWrong)

/-- 'laws.FnExactCoreOK': WHATEVER THE INPUT: true; the input reads as it did. -/
def fnExactCoreOKSpec : ChangeSpec := { name := "fnExactCoreOK", vars := ["loop.example/g00684/impl.operations", "loop.example/g00684/impl.effects", "loop.example/g00684/impl.fbKinds"], fn := fun _ => fun
  | [d1, d2, d3, g1, g2, g3] => { results := [.lit (.bool true)], args := [d1, d2, d3], vars := [g1, g2, g3] }
  | _ => none }
def fnExactCoreOKRow : OpenClaim := { program := "ytnehaidkhpjpbaadoor", sum := "bc1ebd68dfcad2ff36a37b9685ee0bee5268cf486287ffb6dbe09240f09026c7", func := "loop.example/g00684/laws.FnExactCoreOK", spec := "fnExactCoreOK", unfollowed := true, recurses := true, named := ["loop.example/g00684/impl.operations", "loop.example/g00684/impl.effects", "loop.example/g00684/impl.fbKinds"], apart := false, laid := [("loop.example/g00684/impl.operations", laid_loop_example_g00684_impl_operations), ("loop.example/g00684/impl.fbKinds", laid_loop_example_g00684_impl_fbKinds), ("loop.example/g00684/impl.effects", laid_loop_example_g00684_impl_effects)] }
def FnExactCoreOKSaid : Prop := fnExactCoreOKRow.holds Tryd.pinned (OpenSpec.ofChange fnExactCoreOKSpec)

/-- ITS FALSE NEIGHBOUR: 'it returns false'. Refute it at one input. -/
def fnExactCoreOKWrong : ChangeSpec := { name := "fnExactCoreOK", vars := ["loop.example/g00684/impl.operations", "loop.example/g00684/impl.effects", "loop.example/g00684/impl.fbKinds"], fn := fun _ => fun
  | [d1, d2, d3, g1, g2, g3] => { results := [.lit (.bool false)], args := [d1, d2, d3], vars := [g1, g2, g3] }
  | _ => none }
def FnExactCoreOKWrongFalsely : Prop := fnExactCoreOKRow.holds Tryd.pinned (OpenSpec.ofChange fnExactCoreOKWrong)

/- THE SECOND FORM. 'bulk': how many values and letters a reading holds, each counted each time it is reached (what is shared counts as often as it is met; a slice's spare places count too). A statement '..UptoSaid' is the law's where the arguments, and the package variables that the reading takes, are together of bulk at most 1048576: NARROWER than '..Said'. Prove '..Said' where nothing that the law and all that it calls make is longer than what came in: it says more and counts as full. Else prove '..UptoSaid'. A law counts once. -/
mutual
def uptoBulk {H : Type} : DataW H → Nat
  | .lit (.string bytes) => bytes.length + 1
  | .lit _ => 1
  | .nil => 1
  | .ptr d => uptoBulk d + 1
  | .slice elems spare => uptoBulkAll elems + uptoBulkAll spare + 1
  | .agg parts => uptoBulkAll parts + 1
  | .iface _ d => uptoBulk d + 1
  | .map entries => uptoBulkEntries entries + 1
  | .held _ => 1
def uptoBulkAll {H : Type} : List (DataW H) → Nat
  | [] => 0
  | d :: r => uptoBulk d + uptoBulkAll r
def uptoBulkEntries {H : Type} : List (Lit × DataW H) → Nat
  | [] => 0
  | x :: r => uptoBulkEntry x + uptoBulkEntries r
def uptoBulkEntry {H : Type} : Lit × DataW H → Nat
  | (.string bytes, d) => bytes.length + uptoBulk d + 1
  | (_, d) => uptoBulk d + 1
 end
def uptoSmall : (H : Type) → List (DataW H) → Bool := fun _ ds => decide (uptoBulkAll ds ≤ 1048576)
def OpenSpec.upto (s : _root_.Go.ChangeSpec) : _root_.Go.OpenSpec := { _root_.Go.OpenSpec.ofChange s with cond := some uptoSmall }

/-- 'laws.FnExactVerifyCode', WHERE WHAT IT READS IS OF BULK AT MOST 1048576: true; the input reads as it did. -/
def fnExactVerifyCodeUptoRow : OpenClaim := { program := "ytnehaidkhpjpbaadoor", sum := "bc1ebd68dfcad2ff36a37b9685ee0bee5268cf486287ffb6dbe09240f09026c7", func := "loop.example/g00684/laws.FnExactVerifyCode", spec := "fnExactVerifyCode", unfollowed := true, recurses := true, named := ["loop.example/g00684/impl.operations", "loop.example/g00684/impl.effects", "loop.example/g00684/impl.fbKinds"], apart := false, laid := [("loop.example/g00684/impl.operations", laid_loop_example_g00684_impl_operations), ("loop.example/g00684/impl.fbKinds", laid_loop_example_g00684_impl_fbKinds), ("loop.example/g00684/impl.effects", laid_loop_example_g00684_impl_effects)], narrowed := true }
def FnExactVerifyCodeUptoSaid : Prop := fnExactVerifyCodeUptoRow.holds Tryd.pinned (OpenSpec.upto fnExactVerifyCodeSpec)

/-- 'laws.FnExactVerifyAll', WHERE WHAT IT READS IS OF BULK AT MOST 1048576: true; the input reads as it did. -/
def fnExactVerifyAllUptoRow : OpenClaim := { program := "ytnehaidkhpjpbaadoor", sum := "bc1ebd68dfcad2ff36a37b9685ee0bee5268cf486287ffb6dbe09240f09026c7", func := "loop.example/g00684/laws.FnExactVerifyAll", spec := "fnExactVerifyAll", unfollowed := true, recurses := true, named := ["loop.example/g00684/impl.operations", "loop.example/g00684/impl.effects", "loop.example/g00684/impl.fbKinds"], apart := false, laid := [("loop.example/g00684/impl.operations", laid_loop_example_g00684_impl_operations), ("loop.example/g00684/impl.fbKinds", laid_loop_example_g00684_impl_fbKinds), ("loop.example/g00684/impl.effects", laid_loop_example_g00684_impl_effects)], narrowed := true }
def FnExactVerifyAllUptoSaid : Prop := fnExactVerifyAllUptoRow.holds Tryd.pinned (OpenSpec.upto fnExactVerifyAllSpec)

/-- 'laws.FnExactStackAt', WHERE WHAT IT READS IS OF BULK AT MOST 1048576: true; the input reads as it did. -/
def fnExactStackAtUptoRow : OpenClaim := { program := "ytnehaidkhpjpbaadoor", sum := "bc1ebd68dfcad2ff36a37b9685ee0bee5268cf486287ffb6dbe09240f09026c7", func := "loop.example/g00684/laws.FnExactStackAt", spec := "fnExactStackAt", unfollowed := true, recurses := true, named := ["loop.example/g00684/impl.operations", "loop.example/g00684/impl.effects", "loop.example/g00684/impl.fbKinds"], apart := false, laid := [("loop.example/g00684/impl.operations", laid_loop_example_g00684_impl_operations), ("loop.example/g00684/impl.fbKinds", laid_loop_example_g00684_impl_fbKinds), ("loop.example/g00684/impl.effects", laid_loop_example_g00684_impl_effects)], narrowed := true }
def FnExactStackAtUptoSaid : Prop := fnExactStackAtUptoRow.holds Tryd.pinned (OpenSpec.upto fnExactStackAtSpec)

/-- 'laws.FnExactCallsOf', WHERE WHAT IT READS IS OF BULK AT MOST 1048576: true; the input reads as it did. -/
def fnExactCallsOfUptoRow : OpenClaim := { program := "ytnehaidkhpjpbaadoor", sum := "bc1ebd68dfcad2ff36a37b9685ee0bee5268cf486287ffb6dbe09240f09026c7", func := "loop.example/g00684/laws.FnExactCallsOf", spec := "fnExactCallsOf", unfollowed := true, recurses := true, named := ["loop.example/g00684/impl.operations"], apart := false, laid := [("loop.example/g00684/impl.operations", laid_loop_example_g00684_impl_operations)], narrowed := true }
def FnExactCallsOfUptoSaid : Prop := fnExactCallsOfUptoRow.holds Tryd.pinned (OpenSpec.upto fnExactCallsOfSpec)

/-- 'laws.FnExactCostsOf', WHERE WHAT IT READS IS OF BULK AT MOST 1048576: true; the input reads as it did. -/
def fnExactCostsOfUptoRow : OpenClaim := { program := "ytnehaidkhpjpbaadoor", sum := "bc1ebd68dfcad2ff36a37b9685ee0bee5268cf486287ffb6dbe09240f09026c7", func := "loop.example/g00684/laws.FnExactCostsOf", spec := "fnExactCostsOf", unfollowed := true, recurses := true, named := ["loop.example/g00684/impl.operations", "loop.example/g00684/impl.effects", "loop.example/g00684/impl.fbKinds"], apart := false, laid := [("loop.example/g00684/impl.operations", laid_loop_example_g00684_impl_operations), ("loop.example/g00684/impl.fbKinds", laid_loop_example_g00684_impl_fbKinds), ("loop.example/g00684/impl.effects", laid_loop_example_g00684_impl_effects)], narrowed := true }
def FnExactCostsOfUptoSaid : Prop := fnExactCostsOfUptoRow.holds Tryd.pinned (OpenSpec.upto fnExactCostsOfSpec)

/-- 'laws.FnExactFlatOf', WHERE WHAT IT READS IS OF BULK AT MOST 1048576: true; the input reads as it did. -/
def fnExactFlatOfUptoRow : OpenClaim := { program := "ytnehaidkhpjpbaadoor", sum := "bc1ebd68dfcad2ff36a37b9685ee0bee5268cf486287ffb6dbe09240f09026c7", func := "loop.example/g00684/laws.FnExactFlatOf", spec := "fnExactFlatOf", unfollowed := true, recurses := true, named := ["loop.example/g00684/impl.operations", "loop.example/g00684/impl.effects", "loop.example/g00684/impl.fbKinds"], apart := false, laid := [("loop.example/g00684/impl.operations", laid_loop_example_g00684_impl_operations), ("loop.example/g00684/impl.fbKinds", laid_loop_example_g00684_impl_fbKinds), ("loop.example/g00684/impl.effects", laid_loop_example_g00684_impl_effects)], narrowed := true }
def FnExactFlatOfUptoSaid : Prop := fnExactFlatOfUptoRow.holds Tryd.pinned (OpenSpec.upto fnExactFlatOfSpec)

/-- 'laws.FnExactNewCore', WHERE WHAT IT READS IS OF BULK AT MOST 1048576: true; the input reads as it did. -/
def fnExactNewCoreUptoRow : OpenClaim := { program := "ytnehaidkhpjpbaadoor", sum := "bc1ebd68dfcad2ff36a37b9685ee0bee5268cf486287ffb6dbe09240f09026c7", func := "loop.example/g00684/laws.FnExactNewCore", spec := "fnExactNewCore", unfollowed := true, recurses := true, named := ["loop.example/g00684/impl.operations", "loop.example/g00684/impl.effects", "loop.example/g00684/impl.fbKinds"], apart := false, laid := [("loop.example/g00684/impl.operations", laid_loop_example_g00684_impl_operations), ("loop.example/g00684/impl.fbKinds", laid_loop_example_g00684_impl_fbKinds), ("loop.example/g00684/impl.effects", laid_loop_example_g00684_impl_effects)], narrowed := true }
def FnExactNewCoreUptoSaid : Prop := fnExactNewCoreUptoRow.holds Tryd.pinned (OpenSpec.upto fnExactNewCoreSpec)

/-- 'laws.FnExactCoreOK', WHERE WHAT IT READS IS OF BULK AT MOST 1048576: true; the input reads as it did. -/
def fnExactCoreOKUptoRow : OpenClaim := { program := "ytnehaidkhpjpbaadoor", sum := "bc1ebd68dfcad2ff36a37b9685ee0bee5268cf486287ffb6dbe09240f09026c7", func := "loop.example/g00684/laws.FnExactCoreOK", spec := "fnExactCoreOK", unfollowed := true, recurses := true, named := ["loop.example/g00684/impl.operations", "loop.example/g00684/impl.effects", "loop.example/g00684/impl.fbKinds"], apart := false, laid := [("loop.example/g00684/impl.operations", laid_loop_example_g00684_impl_operations), ("loop.example/g00684/impl.fbKinds", laid_loop_example_g00684_impl_fbKinds), ("loop.example/g00684/impl.effects", laid_loop_example_g00684_impl_effects)], narrowed := true }
def FnExactCoreOKUptoSaid : Prop := fnExactCoreOKUptoRow.holds Tryd.pinned (OpenSpec.upto fnExactCoreOKSpec)

end Rows
end Go.Proofs.YtnehaidkhpjpbaaDoor
