/-
  NARROWER THAN 'FOR EVERY INPUT', by the rows' own cells (each row's printed sentence says how): FnInstrs: laid · FnCode: ifaces, laid · FnExactOpName: laid · FnExactOpOf: laid · FnExactCostOf: laid · FnExactInstrOK: laid · FnExactInstrText: laid · FnExactReadInstr: laid · FnExactCodeText: ifaces, laid · FnExactReadCode: ifaces, laid.
  DERIVED. THE GIVEN ROWS OF THIS SEAT. 10 by the template 'for every input the law returns true; each argument reads behind the call as it read before'; 0 by the template 'total and deterministic' (their statements: YtnokkkmokfojnaaDoorTotals.lean).
  GIVEN WITH THE SEED: the statements are not yours to turn. If you find one false, say at which input.
  Laid BY PROGRAM, IN A SANDBOX (cutbox-rows.mjs): the forced cells as the released guide's own fill.sh prints them over the translation add2872320165ba9… (all of the seat's roots in one cut). By AI agents, Wed Nov 11 2026. No macro, syntax, notation, axiom, sorry.
-/
import Derived.Test.YtnokkkmokfojnaaDoorChecked
import GoSem.Claim
import GoSem.ClaimJoined
import GoSem.ClaimMapViews
import Derived.JoinedTies
import Derived.KernelRfl
namespace Go.Proofs.YtnokkkmokfojnaaDoor
/- THE CELL 'sum', in the pinned program and in every row, IS THE sha256 OF THE DUMP (.gsa) THAT YtnokkkmokfojnaaDoorProg.lean LOADS. Nothing in Lean hashes anything: it is a label: what it is worth is what the hold of that sum in a sandbox is worth. -/
noncomputable def Tryd.pinned : Pinned := { name := "ytnokkkmokfojnaadoor", sum := "add2872320165ba96f141754dcdc4dd16e26d73f92daa73626be561fc480f86b", checked := Tryd.checked }
namespace Rows
def none {H : Type} : Left H := { results := [], args := [] }

/- WHAT THE LISTED PACKAGE-LEVEL VARIABLES READ AS WHEN THE CALL BEGINS. Each datum BY PROGRAM (the guide's laid-datum.mjs) off the statement by which the dump's own 'gosem.cut.vars' lays the variable. In a bare row this is a premise. The card (YtnokkkmokfojnaaDoorCards.lean) ties it to the program's text. -/
def laid_math_bits_deBruijn32tab {H : Type} : DataW H := .agg [.lit (.int .u8 0), .lit (.int .u8 1), .lit (.int .u8 28), .lit (.int .u8 2), .lit (.int .u8 29), .lit (.int .u8 14), .lit (.int .u8 24), .lit (.int .u8 3), .lit (.int .u8 30), .lit (.int .u8 22), .lit (.int .u8 20), .lit (.int .u8 15), .lit (.int .u8 25), .lit (.int .u8 17), .lit (.int .u8 4), .lit (.int .u8 8), .lit (.int .u8 31), .lit (.int .u8 27), .lit (.int .u8 13), .lit (.int .u8 23), .lit (.int .u8 21), .lit (.int .u8 19), .lit (.int .u8 16), .lit (.int .u8 7), .lit (.int .u8 26), .lit (.int .u8 12), .lit (.int .u8 18), .lit (.int .u8 6), .lit (.int .u8 11), .lit (.int .u8 5), .lit (.int .u8 10), .lit (.int .u8 9)]
def laid_math_bits_deBruijn64tab {H : Type} : DataW H := .agg [.lit (.int .u8 0), .lit (.int .u8 1), .lit (.int .u8 56), .lit (.int .u8 2), .lit (.int .u8 57), .lit (.int .u8 49), .lit (.int .u8 28), .lit (.int .u8 3), .lit (.int .u8 61), .lit (.int .u8 58), .lit (.int .u8 42), .lit (.int .u8 50), .lit (.int .u8 38), .lit (.int .u8 29), .lit (.int .u8 17), .lit (.int .u8 4), .lit (.int .u8 62), .lit (.int .u8 47), .lit (.int .u8 59), .lit (.int .u8 36), .lit (.int .u8 45), .lit (.int .u8 43), .lit (.int .u8 51), .lit (.int .u8 22), .lit (.int .u8 53), .lit (.int .u8 39), .lit (.int .u8 33), .lit (.int .u8 30), .lit (.int .u8 24), .lit (.int .u8 18), .lit (.int .u8 12), .lit (.int .u8 5), .lit (.int .u8 63), .lit (.int .u8 55), .lit (.int .u8 48), .lit (.int .u8 27), .lit (.int .u8 60), .lit (.int .u8 41), .lit (.int .u8 37), .lit (.int .u8 16), .lit (.int .u8 46), .lit (.int .u8 35), .lit (.int .u8 44), .lit (.int .u8 21), .lit (.int .u8 52), .lit (.int .u8 32), .lit (.int .u8 23), .lit (.int .u8 11), .lit (.int .u8 54), .lit (.int .u8 26), .lit (.int .u8 40), .lit (.int .u8 15), .lit (.int .u8 34), .lit (.int .u8 20), .lit (.int .u8 31), .lit (.int .u8 10), .lit (.int .u8 25), .lit (.int .u8 14), .lit (.int .u8 19), .lit (.int .u8 9), .lit (.int .u8 13), .lit (.int .u8 8), .lit (.int .u8 7), .lit (.int .u8 6)]
def laid_internal_strconv_uint64pow10 {H : Type} : DataW H := .agg [.lit (.int .u64 1), .lit (.int .u64 10), .lit (.int .u64 100), .lit (.int .u64 1000), .lit (.int .u64 10000), .lit (.int .u64 100000), .lit (.int .u64 1000000), .lit (.int .u64 10000000), .lit (.int .u64 100000000), .lit (.int .u64 1000000000), .lit (.int .u64 10000000000), .lit (.int .u64 100000000000), .lit (.int .u64 1000000000000), .lit (.int .u64 10000000000000), .lit (.int .u64 100000000000000), .lit (.int .u64 1000000000000000), .lit (.int .u64 10000000000000000), .lit (.int .u64 100000000000000000), .lit (.int .u64 1000000000000000000), .lit (.int .u64 10000000000000000000)]
def laid_strconv_ErrRange {H : Type} : DataW H := .iface "*errors.errorString" (.ptr (.agg [.lit (.string [118, 97, 108, 117, 101, 32, 111, 117, 116, 32, 111, 102, 32, 114, 97, 110, 103, 101])]))
def laid_strconv_ErrSyntax {H : Type} : DataW H := .iface "*errors.errorString" (.ptr (.agg [.lit (.string [105, 110, 118, 97, 108, 105, 100, 32, 115, 121, 110, 116, 97, 120])]))
def laid_loop_example_g00684_impl_operations {H : Type} : DataW H := .agg [.agg [.lit (.string []), .lit (.int .i64 0), .lit (.int .i64 0), .lit (.int .i64 0)], .agg [.lit (.string [112, 117, 115, 104]), .lit (.int .i64 1), .lit (.int .i64 (-2147483648)), .lit (.int .i64 2147483647)], .agg [.lit (.string [102, 108, 97, 103]), .lit (.int .i64 1), .lit (.int .i64 0), .lit (.int .i64 1)], .agg [.lit (.string [108, 111, 97, 100]), .lit (.int .i64 1), .lit (.int .i64 0), .lit (.int .i64 15)], .agg [.lit (.string [115, 116, 111, 114, 101]), .lit (.int .i64 1), .lit (.int .i64 0), .lit (.int .i64 15)], .agg [.lit (.string [105, 110]), .lit (.int .i64 1), .lit (.int .i64 0), .lit (.int .i64 7)], .agg [.lit (.string [111, 117, 116]), .lit (.int .i64 1), .lit (.int .i64 0), .lit (.int .i64 7)], .agg [.lit (.string [112, 101, 101, 107]), .lit (.int .i64 2), .lit (.int .i64 0), .lit (.int .i64 7)], .agg [.lit (.string [112, 111, 107, 101]), .lit (.int .i64 2), .lit (.int .i64 0), .lit (.int .i64 7)], .agg [.lit (.string [97, 100, 100]), .lit (.int .i64 1), .lit (.int .i64 0), .lit (.int .i64 0)], .agg [.lit (.string [115, 117, 98]), .lit (.int .i64 1), .lit (.int .i64 0), .lit (.int .i64 0)], .agg [.lit (.string [109, 117, 108]), .lit (.int .i64 2), .lit (.int .i64 0), .lit (.int .i64 0)], .agg [.lit (.string [100, 105, 118]), .lit (.int .i64 4), .lit (.int .i64 0), .lit (.int .i64 0)], .agg [.lit (.string [108, 101, 115, 115]), .lit (.int .i64 1), .lit (.int .i64 0), .lit (.int .i64 0)], .agg [.lit (.string [115, 97, 109, 101]), .lit (.int .i64 1), .lit (.int .i64 0), .lit (.int .i64 0)], .agg [.lit (.string [97, 110, 100]), .lit (.int .i64 1), .lit (.int .i64 0), .lit (.int .i64 0)], .agg [.lit (.string [111, 114]), .lit (.int .i64 1), .lit (.int .i64 0), .lit (.int .i64 0)], .agg [.lit (.string [110, 111, 116]), .lit (.int .i64 1), .lit (.int .i64 0), .lit (.int .i64 0)], .agg [.lit (.string [115, 101, 108]), .lit (.int .i64 2), .lit (.int .i64 0), .lit (.int .i64 0)], .agg [.lit (.string [98, 108, 111, 99, 107]), .lit (.int .i64 3), .lit (.int .i64 0), .lit (.int .i64 7)], .agg [.lit (.string [118, 97, 108, 117, 101]), .lit (.int .i64 1), .lit (.int .i64 0), .lit (.int .i64 7)], .agg [.lit (.string [105, 102]), .lit (.int .i64 1), .lit (.int .i64 0), .lit (.int .i64 0)], .agg [.lit (.string [101, 108, 115, 101]), .lit (.int .i64 1), .lit (.int .i64 0), .lit (.int .i64 0)], .agg [.lit (.string [101, 110, 100]), .lit (.int .i64 1), .lit (.int .i64 0), .lit (.int .i64 0)], .agg [.lit (.string [114, 101, 112, 101, 97, 116]), .lit (.int .i64 1), .lit (.int .i64 1), .lit (.int .i64 20)], .agg [.lit (.string [99, 117, 116]), .lit (.int .i64 1), .lit (.int .i64 0), .lit (.int .i64 0)], .agg [.lit (.string [99, 97, 108, 108]), .lit (.int .i64 2), .lit (.int .i64 0), .lit (.int .i64 5)]]
def laid_loop_example_g00684_impl_errRange {H : Type} : DataW H := .iface "*errors.errorString" (.ptr (.agg [.lit (.string [110, 117, 109, 98, 101, 114, 32, 111, 117, 116, 32, 111, 102, 32, 114, 97, 110, 103, 101])]))
def laid_loop_example_g00684_impl_errEnd {H : Type} : DataW H := .iface "*errors.errorString" (.ptr (.agg [.lit (.string [116, 114, 117, 110, 99, 97, 116, 101, 100])]))

/-- 'laws.FnInstrs': WHATEVER THE INPUT: true; the input reads as it did. -/
def fnInstrsSpec : ChangeSpec := { name := "fnInstrs", vars := ["loop.example/g00684/impl.operations"], fn := fun _ => fun
  | [d1, d2, g1] => { results := [.lit (.bool true)], args := [d1, d2], vars := [g1] }
  | _ => none }
def fnInstrsRow : OpenClaim := { program := "ytnokkkmokfojnaadoor", sum := "add2872320165ba96f141754dcdc4dd16e26d73f92daa73626be561fc480f86b", func := "loop.example/g00684/laws.FnInstrs", spec := "fnInstrs", inPlace := ["internal/abi.NoEscape", "internal/bytealg.MakeNoZero"], unfollowed := true, recurses := true, named := ["loop.example/g00684/impl.operations", "strconv.ErrSyntax", "strconv.ErrRange", "internal/strconv.uint64pow10", "math/bits.deBruijn32tab", "math/bits.deBruijn64tab"], apart := false, laid := [("math/bits.deBruijn32tab", laid_math_bits_deBruijn32tab), ("math/bits.deBruijn64tab", laid_math_bits_deBruijn64tab), ("internal/strconv.uint64pow10", laid_internal_strconv_uint64pow10), ("strconv.ErrRange", laid_strconv_ErrRange), ("strconv.ErrSyntax", laid_strconv_ErrSyntax), ("loop.example/g00684/impl.operations", laid_loop_example_g00684_impl_operations)] }
def FnInstrsSaid : Prop := fnInstrsRow.holds Tryd.pinned (OpenSpec.ofChange fnInstrsSpec)

/-- ITS FALSE NEIGHBOUR: 'it returns false'. Refute it at one input. -/
def fnInstrsWrong : ChangeSpec := { name := "fnInstrs", vars := ["loop.example/g00684/impl.operations"], fn := fun _ => fun
  | [d1, d2, g1] => { results := [.lit (.bool false)], args := [d1, d2], vars := [g1] }
  | _ => none }
def FnInstrsWrongFalsely : Prop := fnInstrsRow.holds Tryd.pinned (OpenSpec.ofChange fnInstrsWrong)

/-- 'laws.FnCode': WHATEVER THE INPUT: true; the input reads as it did. -/
def fnCodeSpec : ChangeSpec := { name := "fnCode", vars := ["loop.example/g00684/impl.operations", "loop.example/g00684/impl.errRange", "loop.example/g00684/impl.errEnd"], fn := fun _ => fun
  | [d1, d2, g1, g2, g3] => { results := [.lit (.bool true)], args := [d1, d2], vars := [g1, g2, g3] }
  | _ => none }
def fnCodeRow : OpenClaim := { program := "ytnokkkmokfojnaadoor", sum := "add2872320165ba96f141754dcdc4dd16e26d73f92daa73626be561fc480f86b", func := "loop.example/g00684/laws.FnCode", spec := "fnCode", inPlace := ["internal/reflectlite.TypeOf"], unfollowed := true, recurses := true, named := ["loop.example/g00684/impl.operations", "loop.example/g00684/impl.errRange", "loop.example/g00684/impl.errEnd"], ifaces := true, apart := false, laid := [("loop.example/g00684/impl.errRange", laid_loop_example_g00684_impl_errRange), ("loop.example/g00684/impl.errEnd", laid_loop_example_g00684_impl_errEnd), ("loop.example/g00684/impl.operations", laid_loop_example_g00684_impl_operations)] }
def FnCodeSaid : Prop := fnCodeRow.holds Tryd.pinned (OpenSpec.ofChange fnCodeSpec)

/-- ITS FALSE NEIGHBOUR: 'it returns false'. Refute it at one input. -/
def fnCodeWrong : ChangeSpec := { name := "fnCode", vars := ["loop.example/g00684/impl.operations", "loop.example/g00684/impl.errRange", "loop.example/g00684/impl.errEnd"], fn := fun _ => fun
  | [d1, d2, g1, g2, g3] => { results := [.lit (.bool false)], args := [d1, d2], vars := [g1, g2, g3] }
  | _ => none }
def FnCodeWrongFalsely : Prop := fnCodeRow.holds Tryd.pinned (OpenSpec.ofChange fnCodeWrong)

/-- 'laws.FnExactOpName': WHATEVER THE INPUT: true; the input reads as it did. -/
def fnExactOpNameSpec : ChangeSpec := { name := "fnExactOpName", vars := ["loop.example/g00684/impl.operations"], fn := fun _ => fun
  | [d, g1] => { results := [.lit (.bool true)], args := [d], vars := [g1] }
  | _ => none }
def fnExactOpNameRow : OpenClaim := { program := "ytnokkkmokfojnaadoor", sum := "add2872320165ba96f141754dcdc4dd16e26d73f92daa73626be561fc480f86b", func := "loop.example/g00684/laws.FnExactOpName", spec := "fnExactOpName", named := ["loop.example/g00684/impl.operations"], apart := false, laid := [("loop.example/g00684/impl.operations", laid_loop_example_g00684_impl_operations)] }
def FnExactOpNameSaid : Prop := fnExactOpNameRow.holds Tryd.pinned (OpenSpec.ofChange fnExactOpNameSpec)

/-- ITS FALSE NEIGHBOUR: 'it returns false'. Refute it at one input. -/
def fnExactOpNameWrong : ChangeSpec := { name := "fnExactOpName", vars := ["loop.example/g00684/impl.operations"], fn := fun _ => fun
  | [d, g1] => { results := [.lit (.bool false)], args := [d], vars := [g1] }
  | _ => none }
def FnExactOpNameWrongFalsely : Prop := fnExactOpNameRow.holds Tryd.pinned (OpenSpec.ofChange fnExactOpNameWrong)

/-- 'laws.FnExactOpOf': WHATEVER THE INPUT: true; the input reads as it did. -/
def fnExactOpOfSpec : ChangeSpec := { name := "fnExactOpOf", vars := ["loop.example/g00684/impl.operations"], fn := fun _ => fun
  | [d, g1] => { results := [.lit (.bool true)], args := [d], vars := [g1] }
  | _ => none }
def fnExactOpOfRow : OpenClaim := { program := "ytnokkkmokfojnaadoor", sum := "add2872320165ba96f141754dcdc4dd16e26d73f92daa73626be561fc480f86b", func := "loop.example/g00684/laws.FnExactOpOf", spec := "fnExactOpOf", named := ["loop.example/g00684/impl.operations"], apart := false, laid := [("loop.example/g00684/impl.operations", laid_loop_example_g00684_impl_operations)] }
def FnExactOpOfSaid : Prop := fnExactOpOfRow.holds Tryd.pinned (OpenSpec.ofChange fnExactOpOfSpec)

/-- ITS FALSE NEIGHBOUR: 'it returns false'. Refute it at one input. -/
def fnExactOpOfWrong : ChangeSpec := { name := "fnExactOpOf", vars := ["loop.example/g00684/impl.operations"], fn := fun _ => fun
  | [d, g1] => { results := [.lit (.bool false)], args := [d], vars := [g1] }
  | _ => none }
def FnExactOpOfWrongFalsely : Prop := fnExactOpOfRow.holds Tryd.pinned (OpenSpec.ofChange fnExactOpOfWrong)

/-- 'laws.FnExactCostOf': WHATEVER THE INPUT: true; the input reads as it did. -/
def fnExactCostOfSpec : ChangeSpec := { name := "fnExactCostOf", vars := ["loop.example/g00684/impl.operations"], fn := fun _ => fun
  | [d, g1] => { results := [.lit (.bool true)], args := [d], vars := [g1] }
  | _ => none }
def fnExactCostOfRow : OpenClaim := { program := "ytnokkkmokfojnaadoor", sum := "add2872320165ba96f141754dcdc4dd16e26d73f92daa73626be561fc480f86b", func := "loop.example/g00684/laws.FnExactCostOf", spec := "fnExactCostOf", named := ["loop.example/g00684/impl.operations"], apart := false, laid := [("loop.example/g00684/impl.operations", laid_loop_example_g00684_impl_operations)] }
def FnExactCostOfSaid : Prop := fnExactCostOfRow.holds Tryd.pinned (OpenSpec.ofChange fnExactCostOfSpec)

/-- ITS FALSE NEIGHBOUR: 'it returns false'. Refute it at one input. -/
def fnExactCostOfWrong : ChangeSpec := { name := "fnExactCostOf", vars := ["loop.example/g00684/impl.operations"], fn := fun _ => fun
  | [d, g1] => { results := [.lit (.bool false)], args := [d], vars := [g1] }
  | _ => none }
def FnExactCostOfWrongFalsely : Prop := fnExactCostOfRow.holds Tryd.pinned (OpenSpec.ofChange fnExactCostOfWrong)

/-- 'laws.FnExactInstrOK': WHATEVER THE INPUT: true; the input reads as it did. -/
def fnExactInstrOKSpec : ChangeSpec := { name := "fnExactInstrOK", vars := ["loop.example/g00684/impl.operations"], fn := fun _ => fun
  | [d, g1] => { results := [.lit (.bool true)], args := [d], vars := [g1] }
  | _ => none }
def fnExactInstrOKRow : OpenClaim := { program := "ytnokkkmokfojnaadoor", sum := "add2872320165ba96f141754dcdc4dd16e26d73f92daa73626be561fc480f86b", func := "loop.example/g00684/laws.FnExactInstrOK", spec := "fnExactInstrOK", named := ["loop.example/g00684/impl.operations"], apart := false, laid := [("loop.example/g00684/impl.operations", laid_loop_example_g00684_impl_operations)] }
def FnExactInstrOKSaid : Prop := fnExactInstrOKRow.holds Tryd.pinned (OpenSpec.ofChange fnExactInstrOKSpec)

/-- ITS FALSE NEIGHBOUR: 'it returns false'. Refute it at one input. -/
def fnExactInstrOKWrong : ChangeSpec := { name := "fnExactInstrOK", vars := ["loop.example/g00684/impl.operations"], fn := fun _ => fun
  | [d, g1] => { results := [.lit (.bool false)], args := [d], vars := [g1] }
  | _ => none }
def FnExactInstrOKWrongFalsely : Prop := fnExactInstrOKRow.holds Tryd.pinned (OpenSpec.ofChange fnExactInstrOKWrong)

/-- 'laws.FnExactInstrText': WHATEVER THE INPUT: true; the input reads as it did. -/
def fnExactInstrTextSpec : ChangeSpec := { name := "fnExactInstrText", vars := ["loop.example/g00684/impl.operations"], fn := fun _ => fun
  | [d, g1] => { results := [.lit (.bool true)], args := [d], vars := [g1] }
  | _ => none }
def fnExactInstrTextRow : OpenClaim := { program := "ytnokkkmokfojnaadoor", sum := "add2872320165ba96f141754dcdc4dd16e26d73f92daa73626be561fc480f86b", func := "loop.example/g00684/laws.FnExactInstrText", spec := "fnExactInstrText", recurses := true, named := ["loop.example/g00684/impl.operations", "internal/strconv.uint64pow10", "math/bits.deBruijn32tab", "math/bits.deBruijn64tab"], apart := false, laid := [("math/bits.deBruijn32tab", laid_math_bits_deBruijn32tab), ("math/bits.deBruijn64tab", laid_math_bits_deBruijn64tab), ("internal/strconv.uint64pow10", laid_internal_strconv_uint64pow10), ("loop.example/g00684/impl.operations", laid_loop_example_g00684_impl_operations)] }
def FnExactInstrTextSaid : Prop := fnExactInstrTextRow.holds Tryd.pinned (OpenSpec.ofChange fnExactInstrTextSpec)

/-- ITS FALSE NEIGHBOUR: 'it returns false'. Refute it at one input. -/
def fnExactInstrTextWrong : ChangeSpec := { name := "fnExactInstrText", vars := ["loop.example/g00684/impl.operations"], fn := fun _ => fun
  | [d, g1] => { results := [.lit (.bool false)], args := [d], vars := [g1] }
  | _ => none }
def FnExactInstrTextWrongFalsely : Prop := fnExactInstrTextRow.holds Tryd.pinned (OpenSpec.ofChange fnExactInstrTextWrong)

/-- 'laws.FnExactReadInstr': WHATEVER THE INPUT: true; the input reads as it did. -/
def fnExactReadInstrSpec : ChangeSpec := { name := "fnExactReadInstr", vars := ["loop.example/g00684/impl.operations"], fn := fun _ => fun
  | [d, g1] => { results := [.lit (.bool true)], args := [d], vars := [g1] }
  | _ => none }
def fnExactReadInstrRow : OpenClaim := { program := "ytnokkkmokfojnaadoor", sum := "add2872320165ba96f141754dcdc4dd16e26d73f92daa73626be561fc480f86b", func := "loop.example/g00684/laws.FnExactReadInstr", spec := "fnExactReadInstr", inPlace := ["internal/abi.NoEscape", "internal/bytealg.MakeNoZero"], unfollowed := true, recurses := true, named := ["loop.example/g00684/impl.operations", "strconv.ErrSyntax", "strconv.ErrRange", "internal/strconv.uint64pow10", "math/bits.deBruijn32tab", "math/bits.deBruijn64tab"], apart := false, laid := [("math/bits.deBruijn32tab", laid_math_bits_deBruijn32tab), ("math/bits.deBruijn64tab", laid_math_bits_deBruijn64tab), ("internal/strconv.uint64pow10", laid_internal_strconv_uint64pow10), ("strconv.ErrRange", laid_strconv_ErrRange), ("strconv.ErrSyntax", laid_strconv_ErrSyntax), ("loop.example/g00684/impl.operations", laid_loop_example_g00684_impl_operations)] }
def FnExactReadInstrSaid : Prop := fnExactReadInstrRow.holds Tryd.pinned (OpenSpec.ofChange fnExactReadInstrSpec)

/-- ITS FALSE NEIGHBOUR: 'it returns false'. Refute it at one input. -/
def fnExactReadInstrWrong : ChangeSpec := { name := "fnExactReadInstr", vars := ["loop.example/g00684/impl.operations"], fn := fun _ => fun
  | [d, g1] => { results := [.lit (.bool false)], args := [d], vars := [g1] }
  | _ => none }
def FnExactReadInstrWrongFalsely : Prop := fnExactReadInstrRow.holds Tryd.pinned (OpenSpec.ofChange fnExactReadInstrWrong)

/-- 'laws.FnExactCodeText': WHATEVER THE INPUT: true; the input reads as it did. -/
def fnExactCodeTextSpec : ChangeSpec := { name := "fnExactCodeText", vars := ["loop.example/g00684/impl.operations", "loop.example/g00684/impl.errRange", "loop.example/g00684/impl.errEnd"], fn := fun _ => fun
  | [d, g1, g2, g3] => { results := [.lit (.bool true)], args := [d], vars := [g1, g2, g3] }
  | _ => none }
def fnExactCodeTextRow : OpenClaim := { program := "ytnokkkmokfojnaadoor", sum := "add2872320165ba96f141754dcdc4dd16e26d73f92daa73626be561fc480f86b", func := "loop.example/g00684/laws.FnExactCodeText", spec := "fnExactCodeText", inPlace := ["internal/reflectlite.TypeOf"], unfollowed := true, recurses := true, named := ["loop.example/g00684/impl.operations", "loop.example/g00684/impl.errRange", "loop.example/g00684/impl.errEnd"], ifaces := true, apart := false, laid := [("loop.example/g00684/impl.errRange", laid_loop_example_g00684_impl_errRange), ("loop.example/g00684/impl.errEnd", laid_loop_example_g00684_impl_errEnd), ("loop.example/g00684/impl.operations", laid_loop_example_g00684_impl_operations)] }
def FnExactCodeTextSaid : Prop := fnExactCodeTextRow.holds Tryd.pinned (OpenSpec.ofChange fnExactCodeTextSpec)

/-- ITS FALSE NEIGHBOUR: 'it returns false'. Refute it at one input. -/
def fnExactCodeTextWrong : ChangeSpec := { name := "fnExactCodeText", vars := ["loop.example/g00684/impl.operations", "loop.example/g00684/impl.errRange", "loop.example/g00684/impl.errEnd"], fn := fun _ => fun
  | [d, g1, g2, g3] => { results := [.lit (.bool false)], args := [d], vars := [g1, g2, g3] }
  | _ => none }
def FnExactCodeTextWrongFalsely : Prop := fnExactCodeTextRow.holds Tryd.pinned (OpenSpec.ofChange fnExactCodeTextWrong)

/-- 'laws.FnExactReadCode': WHATEVER THE INPUT: true; the input reads as it did. -/
def fnExactReadCodeSpec : ChangeSpec := { name := "fnExactReadCode", vars := ["loop.example/g00684/impl.operations", "loop.example/g00684/impl.errRange", "loop.example/g00684/impl.errEnd"], fn := fun _ => fun
  | [d, g1, g2, g3] => { results := [.lit (.bool true)], args := [d], vars := [g1, g2, g3] }
  | _ => none }
def fnExactReadCodeRow : OpenClaim := { program := "ytnokkkmokfojnaadoor", sum := "add2872320165ba96f141754dcdc4dd16e26d73f92daa73626be561fc480f86b", func := "loop.example/g00684/laws.FnExactReadCode", spec := "fnExactReadCode", inPlace := ["internal/reflectlite.TypeOf"], unfollowed := true, recurses := true, named := ["loop.example/g00684/impl.operations", "loop.example/g00684/impl.errRange", "loop.example/g00684/impl.errEnd"], ifaces := true, apart := false, laid := [("loop.example/g00684/impl.errRange", laid_loop_example_g00684_impl_errRange), ("loop.example/g00684/impl.errEnd", laid_loop_example_g00684_impl_errEnd), ("loop.example/g00684/impl.operations", laid_loop_example_g00684_impl_operations)] }
def FnExactReadCodeSaid : Prop := fnExactReadCodeRow.holds Tryd.pinned (OpenSpec.ofChange fnExactReadCodeSpec)

/-- ITS FALSE NEIGHBOUR: 'it returns false'. Refute it at one input. -/
def fnExactReadCodeWrong : ChangeSpec := { name := "fnExactReadCode", vars := ["loop.example/g00684/impl.operations", "loop.example/g00684/impl.errRange", "loop.example/g00684/impl.errEnd"], fn := fun _ => fun
  | [d, g1, g2, g3] => { results := [.lit (.bool false)], args := [d], vars := [g1, g2, g3] }
  | _ => none }
def FnExactReadCodeWrongFalsely : Prop := fnExactReadCodeRow.holds Tryd.pinned (OpenSpec.ofChange fnExactReadCodeWrong)

/- THE SECOND FORM. 'bulk': how many values and letters a reading holds, each counted each time it is reached (what is shared counts as often as it is met; a slice's spare places count too). A statement '..UptoSaid' is the law's where the arguments, and the package variables that the reading takes, are together of bulk at most 1048576: NARROWER than '..Said'. Prove '..Said' where nothing that the law and all that it calls make is longer than what came in: it says more and counts as full. Else prove '..UptoSaid'. A law counts once. -/
mutual
def uptoBulk {H : Type} : DataW H → Nat
  | .lit (.string bytes) => bytes.length + 1
  | .lit _ => 1
  | .nil => 1
  | .ptr d => uptoBulk d + 1
  | .slice elems spare => uptoBulkAll elems + uptoBulkAll spare + 1
  | .agg parts => uptoBulkAll parts + 1
  | .iface _ d => uptoBulk d + 1
  | .map entries => uptoBulkEntries entries + 1
  | .held _ => 1
def uptoBulkAll {H : Type} : List (DataW H) → Nat
  | [] => 0
  | d :: r => uptoBulk d + uptoBulkAll r
def uptoBulkEntries {H : Type} : List (Lit × DataW H) → Nat
  | [] => 0
  | x :: r => uptoBulkEntry x + uptoBulkEntries r
def uptoBulkEntry {H : Type} : Lit × DataW H → Nat
  | (.string bytes, d) => bytes.length + uptoBulk d + 1
  | (_, d) => uptoBulk d + 1
 end
def uptoSmall : (H : Type) → List (DataW H) → Bool := fun _ ds => decide (uptoBulkAll ds ≤ 1048576)
def OpenSpec.upto (s : _root_.Go.ChangeSpec) : _root_.Go.OpenSpec := { _root_.Go.OpenSpec.ofChange s with cond := some uptoSmall }

/-- 'laws.FnInstrs', WHERE WHAT IT READS IS OF BULK AT MOST 1048576: true; the input reads as it did. -/
def fnInstrsUptoRow : OpenClaim := { program := "ytnokkkmokfojnaadoor", sum := "add2872320165ba96f141754dcdc4dd16e26d73f92daa73626be561fc480f86b", func := "loop.example/g00684/laws.FnInstrs", spec := "fnInstrs", inPlace := ["internal/abi.NoEscape", "internal/bytealg.MakeNoZero"], unfollowed := true, recurses := true, named := ["loop.example/g00684/impl.operations", "strconv.ErrSyntax", "strconv.ErrRange", "internal/strconv.uint64pow10", "math/bits.deBruijn32tab", "math/bits.deBruijn64tab"], apart := false, laid := [("math/bits.deBruijn32tab", laid_math_bits_deBruijn32tab), ("math/bits.deBruijn64tab", laid_math_bits_deBruijn64tab), ("internal/strconv.uint64pow10", laid_internal_strconv_uint64pow10), ("strconv.ErrRange", laid_strconv_ErrRange), ("strconv.ErrSyntax", laid_strconv_ErrSyntax), ("loop.example/g00684/impl.operations", laid_loop_example_g00684_impl_operations)], narrowed := true }
def FnInstrsUptoSaid : Prop := fnInstrsUptoRow.holds Tryd.pinned (OpenSpec.upto fnInstrsSpec)

/-- 'laws.FnCode', WHERE WHAT IT READS IS OF BULK AT MOST 1048576: true; the input reads as it did. -/
def fnCodeUptoRow : OpenClaim := { program := "ytnokkkmokfojnaadoor", sum := "add2872320165ba96f141754dcdc4dd16e26d73f92daa73626be561fc480f86b", func := "loop.example/g00684/laws.FnCode", spec := "fnCode", inPlace := ["internal/reflectlite.TypeOf"], unfollowed := true, recurses := true, named := ["loop.example/g00684/impl.operations", "loop.example/g00684/impl.errRange", "loop.example/g00684/impl.errEnd"], ifaces := true, apart := false, laid := [("loop.example/g00684/impl.errRange", laid_loop_example_g00684_impl_errRange), ("loop.example/g00684/impl.errEnd", laid_loop_example_g00684_impl_errEnd), ("loop.example/g00684/impl.operations", laid_loop_example_g00684_impl_operations)], narrowed := true }
def FnCodeUptoSaid : Prop := fnCodeUptoRow.holds Tryd.pinned (OpenSpec.upto fnCodeSpec)

/-- 'laws.FnExactOpName', WHERE WHAT IT READS IS OF BULK AT MOST 1048576: true; the input reads as it did. -/
def fnExactOpNameUptoRow : OpenClaim := { program := "ytnokkkmokfojnaadoor", sum := "add2872320165ba96f141754dcdc4dd16e26d73f92daa73626be561fc480f86b", func := "loop.example/g00684/laws.FnExactOpName", spec := "fnExactOpName", named := ["loop.example/g00684/impl.operations"], apart := false, laid := [("loop.example/g00684/impl.operations", laid_loop_example_g00684_impl_operations)], narrowed := true }
def FnExactOpNameUptoSaid : Prop := fnExactOpNameUptoRow.holds Tryd.pinned (OpenSpec.upto fnExactOpNameSpec)

/-- 'laws.FnExactOpOf', WHERE WHAT IT READS IS OF BULK AT MOST 1048576: true; the input reads as it did. -/
def fnExactOpOfUptoRow : OpenClaim := { program := "ytnokkkmokfojnaadoor", sum := "add2872320165ba96f141754dcdc4dd16e26d73f92daa73626be561fc480f86b", func := "loop.example/g00684/laws.FnExactOpOf", spec := "fnExactOpOf", named := ["loop.example/g00684/impl.operations"], apart := false, laid := [("loop.example/g00684/impl.operations", laid_loop_example_g00684_impl_operations)], narrowed := true }
def FnExactOpOfUptoSaid : Prop := fnExactOpOfUptoRow.holds Tryd.pinned (OpenSpec.upto fnExactOpOfSpec)

/-- 'laws.FnExactCostOf', WHERE WHAT IT READS IS OF BULK AT MOST 1048576: true; the input reads as it did. -/
def fnExactCostOfUptoRow : OpenClaim := { program := "ytnokkkmokfojnaadoor", sum := "add2872320165ba96f141754dcdc4dd16e26d73f92daa73626be561fc480f86b", func := "loop.example/g00684/laws.FnExactCostOf", spec := "fnExactCostOf", named := ["loop.example/g00684/impl.operations"], apart := false, laid := [("loop.example/g00684/impl.operations", laid_loop_example_g00684_impl_operations)], narrowed := true }
def FnExactCostOfUptoSaid : Prop := fnExactCostOfUptoRow.holds Tryd.pinned (OpenSpec.upto fnExactCostOfSpec)

/-- 'laws.FnExactInstrOK', WHERE WHAT IT READS IS OF BULK AT MOST 1048576: true; the input reads as it did. -/
def fnExactInstrOKUptoRow : OpenClaim := { program := "ytnokkkmokfojnaadoor", sum := "add2872320165ba96f141754dcdc4dd16e26d73f92daa73626be561fc480f86b", func := "loop.example/g00684/laws.FnExactInstrOK", spec := "fnExactInstrOK", named := ["loop.example/g00684/impl.operations"], apart := false, laid := [("loop.example/g00684/impl.operations", laid_loop_example_g00684_impl_operations)], narrowed := true }
def FnExactInstrOKUptoSaid : Prop := fnExactInstrOKUptoRow.holds Tryd.pinned (OpenSpec.upto fnExactInstrOKSpec)

/-- 'laws.FnExactInstrText', WHERE WHAT IT READS IS OF BULK AT MOST 1048576: true; the input reads as it did. -/
def fnExactInstrTextUptoRow : OpenClaim := { program := "ytnokkkmokfojnaadoor", sum := "add2872320165ba96f141754dcdc4dd16e26d73f92daa73626be561fc480f86b", func := "loop.example/g00684/laws.FnExactInstrText", spec := "fnExactInstrText", recurses := true, named := ["loop.example/g00684/impl.operations", "internal/strconv.uint64pow10", "math/bits.deBruijn32tab", "math/bits.deBruijn64tab"], apart := false, laid := [("math/bits.deBruijn32tab", laid_math_bits_deBruijn32tab), ("math/bits.deBruijn64tab", laid_math_bits_deBruijn64tab), ("internal/strconv.uint64pow10", laid_internal_strconv_uint64pow10), ("loop.example/g00684/impl.operations", laid_loop_example_g00684_impl_operations)], narrowed := true }
def FnExactInstrTextUptoSaid : Prop := fnExactInstrTextUptoRow.holds Tryd.pinned (OpenSpec.upto fnExactInstrTextSpec)

/-- 'laws.FnExactReadInstr', WHERE WHAT IT READS IS OF BULK AT MOST 1048576: true; the input reads as it did. -/
def fnExactReadInstrUptoRow : OpenClaim := { program := "ytnokkkmokfojnaadoor", sum := "add2872320165ba96f141754dcdc4dd16e26d73f92daa73626be561fc480f86b", func := "loop.example/g00684/laws.FnExactReadInstr", spec := "fnExactReadInstr", inPlace := ["internal/abi.NoEscape", "internal/bytealg.MakeNoZero"], unfollowed := true, recurses := true, named := ["loop.example/g00684/impl.operations", "strconv.ErrSyntax", "strconv.ErrRange", "internal/strconv.uint64pow10", "math/bits.deBruijn32tab", "math/bits.deBruijn64tab"], apart := false, laid := [("math/bits.deBruijn32tab", laid_math_bits_deBruijn32tab), ("math/bits.deBruijn64tab", laid_math_bits_deBruijn64tab), ("internal/strconv.uint64pow10", laid_internal_strconv_uint64pow10), ("strconv.ErrRange", laid_strconv_ErrRange), ("strconv.ErrSyntax", laid_strconv_ErrSyntax), ("loop.example/g00684/impl.operations", laid_loop_example_g00684_impl_operations)], narrowed := true }
def FnExactReadInstrUptoSaid : Prop := fnExactReadInstrUptoRow.holds Tryd.pinned (OpenSpec.upto fnExactReadInstrSpec)

/-- 'laws.FnExactCodeText', WHERE WHAT IT READS IS OF BULK AT MOST 1048576: true; the input reads as it did. -/
def fnExactCodeTextUptoRow : OpenClaim := { program := "ytnokkkmokfojnaadoor", sum := "add2872320165ba96f141754dcdc4dd16e26d73f92daa73626be561fc480f86b", func := "loop.example/g00684/laws.FnExactCodeText", spec := "fnExactCodeText", inPlace := ["internal/reflectlite.TypeOf"], unfollowed := true, recurses := true, named := ["loop.example/g00684/impl.operations", "loop.example/g00684/impl.errRange", "loop.example/g00684/impl.errEnd"], ifaces := true, apart := false, laid := [("loop.example/g00684/impl.errRange", laid_loop_example_g00684_impl_errRange), ("loop.example/g00684/impl.errEnd", laid_loop_example_g00684_impl_errEnd), ("loop.example/g00684/impl.operations", laid_loop_example_g00684_impl_operations)], narrowed := true }
def FnExactCodeTextUptoSaid : Prop := fnExactCodeTextUptoRow.holds Tryd.pinned (OpenSpec.upto fnExactCodeTextSpec)

/-- 'laws.FnExactReadCode', WHERE WHAT IT READS IS OF BULK AT MOST 1048576: true; the input reads as it did. -/
def fnExactReadCodeUptoRow : OpenClaim := { program := "ytnokkkmokfojnaadoor", sum := "add2872320165ba96f141754dcdc4dd16e26d73f92daa73626be561fc480f86b", func := "loop.example/g00684/laws.FnExactReadCode", spec := "fnExactReadCode", inPlace := ["internal/reflectlite.TypeOf"], unfollowed := true, recurses := true, named := ["loop.example/g00684/impl.operations", "loop.example/g00684/impl.errRange", "loop.example/g00684/impl.errEnd"], ifaces := true, apart := false, laid := [("loop.example/g00684/impl.errRange", laid_loop_example_g00684_impl_errRange), ("loop.example/g00684/impl.errEnd", laid_loop_example_g00684_impl_errEnd), ("loop.example/g00684/impl.operations", laid_loop_example_g00684_impl_operations)], narrowed := true }
def FnExactReadCodeUptoSaid : Prop := fnExactReadCodeUptoRow.holds Tryd.pinned (OpenSpec.upto fnExactReadCodeSpec)

end Rows
end Go.Proofs.YtnokkkmokfojnaaDoor
