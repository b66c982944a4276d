/-
  NARROWER THAN 'FOR EVERY INPUT', by the rows' own cells (each row's printed sentence says how): FnTimer: laid · FnCounter: laid · FnBlocks: laid · FnExactFbOK: laid · FnExactTakesOf: laid · FnExactStepBlock: laid · FnExactValueOf: laid · FnExactFbText: laid.
  DERIVED. THE GIVEN ROWS OF THIS SEAT. 8 by the template 'for every input the law returns true; each argument reads behind the call as it read before'; 0 by the template 'total and deterministic' (their statements: YtknfimadhnlpjaaDoorTotals.lean).
  GIVEN WITH THE SEED: the statements are not yours to turn. If you find one false, say at which input.
  Laid BY PROGRAM, IN A SANDBOX (cutbox-rows.mjs): the forced cells as the released guide's own fill.sh prints them over the translation 0a1fb4a2eaf01f1d… (all of the seat's roots in one cut). By AI agents, Wed Nov 11 2026. No macro, syntax, notation, axiom, sorry.
-/
import Derived.Test.YtknfimadhnlpjaaDoorChecked
import GoSem.Claim
import GoSem.ClaimJoined
import GoSem.ClaimMapViews
import Derived.JoinedTies
import Derived.KernelRfl
namespace Go.Proofs.YtknfimadhnlpjaaDoor
/- THE CELL 'sum', in the pinned program and in every row, IS THE sha256 OF THE DUMP (.gsa) THAT YtknfimadhnlpjaaDoorProg.lean LOADS. Nothing in Lean hashes anything: it is a label: what it is worth is what the hold of that sum in a sandbox is worth. -/
noncomputable def Tryd.pinned : Pinned := { name := "ytknfimadhnlpjaadoor", sum := "0a1fb4a2eaf01f1d5c92c78f5cb42b28336d093f9a68c1a325a738654477f4c7", checked := Tryd.checked }
namespace Rows
def none {H : Type} : Left H := { results := [], args := [] }

/- WHAT THE LISTED PACKAGE-LEVEL VARIABLES READ AS WHEN THE CALL BEGINS. Each datum BY PROGRAM (the guide's laid-datum.mjs) off the statement by which the dump's own 'gosem.cut.vars' lays the variable. In a bare row this is a premise. The card (YtknfimadhnlpjaaDoorCards.lean) ties it to the program's text. -/
def laid_loop_example_g00684_impl_fbKinds {H : Type} : DataW H := .agg [.agg [.lit (.string []), .lit (.string []), .lit (.int .i64 0), .lit (.int .i64 0)], .agg [.lit (.string [116, 105, 109, 101, 114]), .lit (.string [98, 105]), .lit (.int .i64 2147483647), .lit (.int .i64 2147483647)], .agg [.lit (.string [99, 111, 117, 110, 116, 101, 114]), .lit (.string [98, 98, 105]), .lit (.int .i64 0), .lit (.int .i64 2147483647)], .agg [.lit (.string [101, 100, 103, 101]), .lit (.string [98]), .lit (.int .i64 0), .lit (.int .i64 0)], .agg [.lit (.string [108, 97, 116, 99, 104]), .lit (.string [98, 98]), .lit (.int .i64 0), .lit (.int .i64 0)]]
def laid_math_bits_deBruijn32tab {H : Type} : DataW H := .agg [.lit (.int .u8 0), .lit (.int .u8 1), .lit (.int .u8 28), .lit (.int .u8 2), .lit (.int .u8 29), .lit (.int .u8 14), .lit (.int .u8 24), .lit (.int .u8 3), .lit (.int .u8 30), .lit (.int .u8 22), .lit (.int .u8 20), .lit (.int .u8 15), .lit (.int .u8 25), .lit (.int .u8 17), .lit (.int .u8 4), .lit (.int .u8 8), .lit (.int .u8 31), .lit (.int .u8 27), .lit (.int .u8 13), .lit (.int .u8 23), .lit (.int .u8 21), .lit (.int .u8 19), .lit (.int .u8 16), .lit (.int .u8 7), .lit (.int .u8 26), .lit (.int .u8 12), .lit (.int .u8 18), .lit (.int .u8 6), .lit (.int .u8 11), .lit (.int .u8 5), .lit (.int .u8 10), .lit (.int .u8 9)]
def laid_math_bits_deBruijn64tab {H : Type} : DataW H := .agg [.lit (.int .u8 0), .lit (.int .u8 1), .lit (.int .u8 56), .lit (.int .u8 2), .lit (.int .u8 57), .lit (.int .u8 49), .lit (.int .u8 28), .lit (.int .u8 3), .lit (.int .u8 61), .lit (.int .u8 58), .lit (.int .u8 42), .lit (.int .u8 50), .lit (.int .u8 38), .lit (.int .u8 29), .lit (.int .u8 17), .lit (.int .u8 4), .lit (.int .u8 62), .lit (.int .u8 47), .lit (.int .u8 59), .lit (.int .u8 36), .lit (.int .u8 45), .lit (.int .u8 43), .lit (.int .u8 51), .lit (.int .u8 22), .lit (.int .u8 53), .lit (.int .u8 39), .lit (.int .u8 33), .lit (.int .u8 30), .lit (.int .u8 24), .lit (.int .u8 18), .lit (.int .u8 12), .lit (.int .u8 5), .lit (.int .u8 63), .lit (.int .u8 55), .lit (.int .u8 48), .lit (.int .u8 27), .lit (.int .u8 60), .lit (.int .u8 41), .lit (.int .u8 37), .lit (.int .u8 16), .lit (.int .u8 46), .lit (.int .u8 35), .lit (.int .u8 44), .lit (.int .u8 21), .lit (.int .u8 52), .lit (.int .u8 32), .lit (.int .u8 23), .lit (.int .u8 11), .lit (.int .u8 54), .lit (.int .u8 26), .lit (.int .u8 40), .lit (.int .u8 15), .lit (.int .u8 34), .lit (.int .u8 20), .lit (.int .u8 31), .lit (.int .u8 10), .lit (.int .u8 25), .lit (.int .u8 14), .lit (.int .u8 19), .lit (.int .u8 9), .lit (.int .u8 13), .lit (.int .u8 8), .lit (.int .u8 7), .lit (.int .u8 6)]
def laid_internal_strconv_uint64pow10 {H : Type} : DataW H := .agg [.lit (.int .u64 1), .lit (.int .u64 10), .lit (.int .u64 100), .lit (.int .u64 1000), .lit (.int .u64 10000), .lit (.int .u64 100000), .lit (.int .u64 1000000), .lit (.int .u64 10000000), .lit (.int .u64 100000000), .lit (.int .u64 1000000000), .lit (.int .u64 10000000000), .lit (.int .u64 100000000000), .lit (.int .u64 1000000000000), .lit (.int .u64 10000000000000), .lit (.int .u64 100000000000000), .lit (.int .u64 1000000000000000), .lit (.int .u64 10000000000000000), .lit (.int .u64 100000000000000000), .lit (.int .u64 1000000000000000000), .lit (.int .u64 10000000000000000000)]

/-- 'laws.FnTimer': WHATEVER THE INPUT: true; the input reads as it did. -/
def fnTimerSpec : ChangeSpec := { name := "fnTimer", vars := ["loop.example/g00684/impl.fbKinds"], fn := fun _ => fun
  | [d1, d2, g1] => { results := [.lit (.bool true)], args := [d1, d2], vars := [g1] }
  | _ => none }
def fnTimerRow : OpenClaim := { program := "ytknfimadhnlpjaadoor", sum := "0a1fb4a2eaf01f1d5c92c78f5cb42b28336d093f9a68c1a325a738654477f4c7", func := "loop.example/g00684/laws.FnTimer", spec := "fnTimer", unfollowed := true, recurses := true, named := ["loop.example/g00684/impl.fbKinds"], apart := false, laid := [("loop.example/g00684/impl.fbKinds", laid_loop_example_g00684_impl_fbKinds)] }
def FnTimerSaid : Prop := fnTimerRow.holds Tryd.pinned (OpenSpec.ofChange fnTimerSpec)

/-- ITS FALSE NEIGHBOUR: 'it returns false'. Refute it at one input. -/
def fnTimerWrong : ChangeSpec := { name := "fnTimer", vars := ["loop.example/g00684/impl.fbKinds"], fn := fun _ => fun
  | [d1, d2, g1] => { results := [.lit (.bool false)], args := [d1, d2], vars := [g1] }
  | _ => none }
def FnTimerWrongFalsely : Prop := fnTimerRow.holds Tryd.pinned (OpenSpec.ofChange fnTimerWrong)

/-- 'laws.FnCounter': WHATEVER THE INPUT: true; the input reads as it did. -/
def fnCounterSpec : ChangeSpec := { name := "fnCounter", vars := ["loop.example/g00684/impl.fbKinds"], fn := fun _ => fun
  | [d1, d2, g1] => { results := [.lit (.bool true)], args := [d1, d2], vars := [g1] }
  | _ => none }
def fnCounterRow : OpenClaim := { program := "ytknfimadhnlpjaadoor", sum := "0a1fb4a2eaf01f1d5c92c78f5cb42b28336d093f9a68c1a325a738654477f4c7", func := "loop.example/g00684/laws.FnCounter", spec := "fnCounter", unfollowed := true, recurses := true, named := ["loop.example/g00684/impl.fbKinds"], apart := false, laid := [("loop.example/g00684/impl.fbKinds", laid_loop_example_g00684_impl_fbKinds)] }
def FnCounterSaid : Prop := fnCounterRow.holds Tryd.pinned (OpenSpec.ofChange fnCounterSpec)

/-- ITS FALSE NEIGHBOUR: 'it returns false'. Refute it at one input. -/
def fnCounterWrong : ChangeSpec := { name := "fnCounter", vars := ["loop.example/g00684/impl.fbKinds"], fn := fun _ => fun
  | [d1, d2, g1] => { results := [.lit (.bool false)], args := [d1, d2], vars := [g1] }
  | _ => none }
def FnCounterWrongFalsely : Prop := fnCounterRow.holds Tryd.pinned (OpenSpec.ofChange fnCounterWrong)

/-- 'laws.FnBlocks': WHATEVER THE INPUT: true; the input reads as it did. -/
def fnBlocksSpec : ChangeSpec := { name := "fnBlocks", vars := ["loop.example/g00684/impl.fbKinds"], fn := fun _ => fun
  | [d1, d2, g1] => { results := [.lit (.bool true)], args := [d1, d2], vars := [g1] }
  | _ => none }
def fnBlocksRow : OpenClaim := { program := "ytknfimadhnlpjaadoor", sum := "0a1fb4a2eaf01f1d5c92c78f5cb42b28336d093f9a68c1a325a738654477f4c7", func := "loop.example/g00684/laws.FnBlocks", spec := "fnBlocks", unfollowed := true, recurses := true, named := ["loop.example/g00684/impl.fbKinds", "internal/strconv.uint64pow10", "math/bits.deBruijn32tab", "math/bits.deBruijn64tab"], apart := false, laid := [("math/bits.deBruijn32tab", laid_math_bits_deBruijn32tab), ("math/bits.deBruijn64tab", laid_math_bits_deBruijn64tab), ("internal/strconv.uint64pow10", laid_internal_strconv_uint64pow10), ("loop.example/g00684/impl.fbKinds", laid_loop_example_g00684_impl_fbKinds)] }
def FnBlocksSaid : Prop := fnBlocksRow.holds Tryd.pinned (OpenSpec.ofChange fnBlocksSpec)

/-- ITS FALSE NEIGHBOUR: 'it returns false'. Refute it at one input. -/
def fnBlocksWrong : ChangeSpec := { name := "fnBlocks", vars := ["loop.example/g00684/impl.fbKinds"], fn := fun _ => fun
  | [d1, d2, g1] => { results := [.lit (.bool false)], args := [d1, d2], vars := [g1] }
  | _ => none }
def FnBlocksWrongFalsely : Prop := fnBlocksRow.holds Tryd.pinned (OpenSpec.ofChange fnBlocksWrong)

/-- 'laws.FnExactFbOK': WHATEVER THE INPUT: true; the input reads as it did. -/
def fnExactFbOKSpec : ChangeSpec := { name := "fnExactFbOK", vars := ["loop.example/g00684/impl.fbKinds"], fn := fun _ => fun
  | [d, g1] => { results := [.lit (.bool true)], args := [d], vars := [g1] }
  | _ => none }
def fnExactFbOKRow : OpenClaim := { program := "ytknfimadhnlpjaadoor", sum := "0a1fb4a2eaf01f1d5c92c78f5cb42b28336d093f9a68c1a325a738654477f4c7", func := "loop.example/g00684/laws.FnExactFbOK", spec := "fnExactFbOK", named := ["loop.example/g00684/impl.fbKinds"], apart := false, laid := [("loop.example/g00684/impl.fbKinds", laid_loop_example_g00684_impl_fbKinds)] }
def FnExactFbOKSaid : Prop := fnExactFbOKRow.holds Tryd.pinned (OpenSpec.ofChange fnExactFbOKSpec)

/-- ITS FALSE NEIGHBOUR: 'it returns false'. Refute it at one input. -/
def fnExactFbOKWrong : ChangeSpec := { name := "fnExactFbOK", vars := ["loop.example/g00684/impl.fbKinds"], fn := fun _ => fun
  | [d, g1] => { results := [.lit (.bool false)], args := [d], vars := [g1] }
  | _ => none }
def FnExactFbOKWrongFalsely : Prop := fnExactFbOKRow.holds Tryd.pinned (OpenSpec.ofChange fnExactFbOKWrong)

/-- 'laws.FnExactTakesOf': WHATEVER THE INPUT: true; the input reads as it did. -/
def fnExactTakesOfSpec : ChangeSpec := { name := "fnExactTakesOf", vars := ["loop.example/g00684/impl.fbKinds"], fn := fun _ => fun
  | [d, g1] => { results := [.lit (.bool true)], args := [d], vars := [g1] }
  | _ => none }
def fnExactTakesOfRow : OpenClaim := { program := "ytknfimadhnlpjaadoor", sum := "0a1fb4a2eaf01f1d5c92c78f5cb42b28336d093f9a68c1a325a738654477f4c7", func := "loop.example/g00684/laws.FnExactTakesOf", spec := "fnExactTakesOf", named := ["loop.example/g00684/impl.fbKinds"], apart := false, laid := [("loop.example/g00684/impl.fbKinds", laid_loop_example_g00684_impl_fbKinds)] }
def FnExactTakesOfSaid : Prop := fnExactTakesOfRow.holds Tryd.pinned (OpenSpec.ofChange fnExactTakesOfSpec)

/-- ITS FALSE NEIGHBOUR: 'it returns false'. Refute it at one input. -/
def fnExactTakesOfWrong : ChangeSpec := { name := "fnExactTakesOf", vars := ["loop.example/g00684/impl.fbKinds"], fn := fun _ => fun
  | [d, g1] => { results := [.lit (.bool false)], args := [d], vars := [g1] }
  | _ => none }
def FnExactTakesOfWrongFalsely : Prop := fnExactTakesOfRow.holds Tryd.pinned (OpenSpec.ofChange fnExactTakesOfWrong)

/-- 'laws.FnExactStepBlock': WHATEVER THE INPUT: true; the input reads as it did. -/
def fnExactStepBlockSpec : ChangeSpec := { name := "fnExactStepBlock", vars := ["loop.example/g00684/impl.fbKinds"], fn := fun _ => fun
  | [d1, d2, d3, d4, d5, g1] => { results := [.lit (.bool true)], args := [d1, d2, d3, d4, d5], vars := [g1] }
  | _ => none }
def fnExactStepBlockRow : OpenClaim := { program := "ytknfimadhnlpjaadoor", sum := "0a1fb4a2eaf01f1d5c92c78f5cb42b28336d093f9a68c1a325a738654477f4c7", func := "loop.example/g00684/laws.FnExactStepBlock", spec := "fnExactStepBlock", unfollowed := true, recurses := true, named := ["loop.example/g00684/impl.fbKinds"], apart := false, laid := [("loop.example/g00684/impl.fbKinds", laid_loop_example_g00684_impl_fbKinds)] }
def FnExactStepBlockSaid : Prop := fnExactStepBlockRow.holds Tryd.pinned (OpenSpec.ofChange fnExactStepBlockSpec)

/-- ITS FALSE NEIGHBOUR: 'it returns false'. Refute it at one input. -/
def fnExactStepBlockWrong : ChangeSpec := { name := "fnExactStepBlock", vars := ["loop.example/g00684/impl.fbKinds"], fn := fun _ => fun
  | [d1, d2, d3, d4, d5, g1] => { results := [.lit (.bool false)], args := [d1, d2, d3, d4, d5], vars := [g1] }
  | _ => none }
def FnExactStepBlockWrongFalsely : Prop := fnExactStepBlockRow.holds Tryd.pinned (OpenSpec.ofChange fnExactStepBlockWrong)

/-- 'laws.FnExactValueOf': WHATEVER THE INPUT: true; the input reads as it did. -/
def fnExactValueOfSpec : ChangeSpec := { name := "fnExactValueOf", vars := ["loop.example/g00684/impl.fbKinds"], fn := fun _ => fun
  | [d, g1] => { results := [.lit (.bool true)], args := [d], vars := [g1] }
  | _ => none }
def fnExactValueOfRow : OpenClaim := { program := "ytknfimadhnlpjaadoor", sum := "0a1fb4a2eaf01f1d5c92c78f5cb42b28336d093f9a68c1a325a738654477f4c7", func := "loop.example/g00684/laws.FnExactValueOf", spec := "fnExactValueOf", named := ["loop.example/g00684/impl.fbKinds"], apart := false, laid := [("loop.example/g00684/impl.fbKinds", laid_loop_example_g00684_impl_fbKinds)] }
def FnExactValueOfSaid : Prop := fnExactValueOfRow.holds Tryd.pinned (OpenSpec.ofChange fnExactValueOfSpec)

/-- ITS FALSE NEIGHBOUR: 'it returns false'. Refute it at one input. -/
def fnExactValueOfWrong : ChangeSpec := { name := "fnExactValueOf", vars := ["loop.example/g00684/impl.fbKinds"], fn := fun _ => fun
  | [d, g1] => { results := [.lit (.bool false)], args := [d], vars := [g1] }
  | _ => none }
def FnExactValueOfWrongFalsely : Prop := fnExactValueOfRow.holds Tryd.pinned (OpenSpec.ofChange fnExactValueOfWrong)

/-- 'laws.FnExactFbText': WHATEVER THE INPUT: true; the input reads as it did. -/
def fnExactFbTextSpec : ChangeSpec := { name := "fnExactFbText", vars := ["loop.example/g00684/impl.fbKinds"], fn := fun _ => fun
  | [d, g1] => { results := [.lit (.bool true)], args := [d], vars := [g1] }
  | _ => none }
def fnExactFbTextRow : OpenClaim := { program := "ytknfimadhnlpjaadoor", sum := "0a1fb4a2eaf01f1d5c92c78f5cb42b28336d093f9a68c1a325a738654477f4c7", func := "loop.example/g00684/laws.FnExactFbText", spec := "fnExactFbText", recurses := true, named := ["loop.example/g00684/impl.fbKinds", "internal/strconv.uint64pow10", "math/bits.deBruijn32tab", "math/bits.deBruijn64tab"], apart := false, laid := [("math/bits.deBruijn32tab", laid_math_bits_deBruijn32tab), ("math/bits.deBruijn64tab", laid_math_bits_deBruijn64tab), ("internal/strconv.uint64pow10", laid_internal_strconv_uint64pow10), ("loop.example/g00684/impl.fbKinds", laid_loop_example_g00684_impl_fbKinds)] }
def FnExactFbTextSaid : Prop := fnExactFbTextRow.holds Tryd.pinned (OpenSpec.ofChange fnExactFbTextSpec)

/-- ITS FALSE NEIGHBOUR: 'it returns false'. Refute it at one input. -/
def fnExactFbTextWrong : ChangeSpec := { name := "fnExactFbText", vars := ["loop.example/g00684/impl.fbKinds"], fn := fun _ => fun
  | [d, g1] => { results := [.lit (.bool false)], args := [d], vars := [g1] }
  | _ => none }
def FnExactFbTextWrongFalsely : Prop := fnExactFbTextRow.holds Tryd.pinned (OpenSpec.ofChange fnExactFbTextWrong)

/- THE SECOND FORM. 'bulk': how many values and letters a reading holds, each counted each time it is reached (what is shared counts as often as it is met; a slice's spare places count too). A statement '..UptoSaid' is the law's where the arguments, and the package variables that the reading takes, are together of bulk at most 1048576: NARROWER than '..Said'. Prove '..Said' where nothing that the law and all that it calls make is longer than what came in: it says more and counts as full. Else prove '..UptoSaid'. A law counts once. -/
mutual
def uptoBulk {H : Type} : DataW H → Nat
  | .lit (.string bytes) => bytes.length + 1
  | .lit _ => 1
  | .nil => 1
  | .ptr d => uptoBulk d + 1
  | .slice elems spare => uptoBulkAll elems + uptoBulkAll spare + 1
  | .agg parts => uptoBulkAll parts + 1
  | .iface _ d => uptoBulk d + 1
  | .map entries => uptoBulkEntries entries + 1
  | .held _ => 1
def uptoBulkAll {H : Type} : List (DataW H) → Nat
  | [] => 0
  | d :: r => uptoBulk d + uptoBulkAll r
def uptoBulkEntries {H : Type} : List (Lit × DataW H) → Nat
  | [] => 0
  | x :: r => uptoBulkEntry x + uptoBulkEntries r
def uptoBulkEntry {H : Type} : Lit × DataW H → Nat
  | (.string bytes, d) => bytes.length + uptoBulk d + 1
  | (_, d) => uptoBulk d + 1
 end
def uptoSmall : (H : Type) → List (DataW H) → Bool := fun _ ds => decide (uptoBulkAll ds ≤ 1048576)
def OpenSpec.upto (s : _root_.Go.ChangeSpec) : _root_.Go.OpenSpec := { _root_.Go.OpenSpec.ofChange s with cond := some uptoSmall }

/-- 'laws.FnTimer', WHERE WHAT IT READS IS OF BULK AT MOST 1048576: true; the input reads as it did. -/
def fnTimerUptoRow : OpenClaim := { program := "ytknfimadhnlpjaadoor", sum := "0a1fb4a2eaf01f1d5c92c78f5cb42b28336d093f9a68c1a325a738654477f4c7", func := "loop.example/g00684/laws.FnTimer", spec := "fnTimer", unfollowed := true, recurses := true, named := ["loop.example/g00684/impl.fbKinds"], apart := false, laid := [("loop.example/g00684/impl.fbKinds", laid_loop_example_g00684_impl_fbKinds)], narrowed := true }
def FnTimerUptoSaid : Prop := fnTimerUptoRow.holds Tryd.pinned (OpenSpec.upto fnTimerSpec)

/-- 'laws.FnCounter', WHERE WHAT IT READS IS OF BULK AT MOST 1048576: true; the input reads as it did. -/
def fnCounterUptoRow : OpenClaim := { program := "ytknfimadhnlpjaadoor", sum := "0a1fb4a2eaf01f1d5c92c78f5cb42b28336d093f9a68c1a325a738654477f4c7", func := "loop.example/g00684/laws.FnCounter", spec := "fnCounter", unfollowed := true, recurses := true, named := ["loop.example/g00684/impl.fbKinds"], apart := false, laid := [("loop.example/g00684/impl.fbKinds", laid_loop_example_g00684_impl_fbKinds)], narrowed := true }
def FnCounterUptoSaid : Prop := fnCounterUptoRow.holds Tryd.pinned (OpenSpec.upto fnCounterSpec)

/-- 'laws.FnBlocks', WHERE WHAT IT READS IS OF BULK AT MOST 1048576: true; the input reads as it did. -/
def fnBlocksUptoRow : OpenClaim := { program := "ytknfimadhnlpjaadoor", sum := "0a1fb4a2eaf01f1d5c92c78f5cb42b28336d093f9a68c1a325a738654477f4c7", func := "loop.example/g00684/laws.FnBlocks", spec := "fnBlocks", unfollowed := true, recurses := true, named := ["loop.example/g00684/impl.fbKinds", "internal/strconv.uint64pow10", "math/bits.deBruijn32tab", "math/bits.deBruijn64tab"], apart := false, laid := [("math/bits.deBruijn32tab", laid_math_bits_deBruijn32tab), ("math/bits.deBruijn64tab", laid_math_bits_deBruijn64tab), ("internal/strconv.uint64pow10", laid_internal_strconv_uint64pow10), ("loop.example/g00684/impl.fbKinds", laid_loop_example_g00684_impl_fbKinds)], narrowed := true }
def FnBlocksUptoSaid : Prop := fnBlocksUptoRow.holds Tryd.pinned (OpenSpec.upto fnBlocksSpec)

/-- 'laws.FnExactFbOK', WHERE WHAT IT READS IS OF BULK AT MOST 1048576: true; the input reads as it did. -/
def fnExactFbOKUptoRow : OpenClaim := { program := "ytknfimadhnlpjaadoor", sum := "0a1fb4a2eaf01f1d5c92c78f5cb42b28336d093f9a68c1a325a738654477f4c7", func := "loop.example/g00684/laws.FnExactFbOK", spec := "fnExactFbOK", named := ["loop.example/g00684/impl.fbKinds"], apart := false, laid := [("loop.example/g00684/impl.fbKinds", laid_loop_example_g00684_impl_fbKinds)], narrowed := true }
def FnExactFbOKUptoSaid : Prop := fnExactFbOKUptoRow.holds Tryd.pinned (OpenSpec.upto fnExactFbOKSpec)

/-- 'laws.FnExactTakesOf', WHERE WHAT IT READS IS OF BULK AT MOST 1048576: true; the input reads as it did. -/
def fnExactTakesOfUptoRow : OpenClaim := { program := "ytknfimadhnlpjaadoor", sum := "0a1fb4a2eaf01f1d5c92c78f5cb42b28336d093f9a68c1a325a738654477f4c7", func := "loop.example/g00684/laws.FnExactTakesOf", spec := "fnExactTakesOf", named := ["loop.example/g00684/impl.fbKinds"], apart := false, laid := [("loop.example/g00684/impl.fbKinds", laid_loop_example_g00684_impl_fbKinds)], narrowed := true }
def FnExactTakesOfUptoSaid : Prop := fnExactTakesOfUptoRow.holds Tryd.pinned (OpenSpec.upto fnExactTakesOfSpec)

/-- 'laws.FnExactStepBlock', WHERE WHAT IT READS IS OF BULK AT MOST 1048576: true; the input reads as it did. -/
def fnExactStepBlockUptoRow : OpenClaim := { program := "ytknfimadhnlpjaadoor", sum := "0a1fb4a2eaf01f1d5c92c78f5cb42b28336d093f9a68c1a325a738654477f4c7", func := "loop.example/g00684/laws.FnExactStepBlock", spec := "fnExactStepBlock", unfollowed := true, recurses := true, named := ["loop.example/g00684/impl.fbKinds"], apart := false, laid := [("loop.example/g00684/impl.fbKinds", laid_loop_example_g00684_impl_fbKinds)], narrowed := true }
def FnExactStepBlockUptoSaid : Prop := fnExactStepBlockUptoRow.holds Tryd.pinned (OpenSpec.upto fnExactStepBlockSpec)

/-- 'laws.FnExactValueOf', WHERE WHAT IT READS IS OF BULK AT MOST 1048576: true; the input reads as it did. -/
def fnExactValueOfUptoRow : OpenClaim := { program := "ytknfimadhnlpjaadoor", sum := "0a1fb4a2eaf01f1d5c92c78f5cb42b28336d093f9a68c1a325a738654477f4c7", func := "loop.example/g00684/laws.FnExactValueOf", spec := "fnExactValueOf", named := ["loop.example/g00684/impl.fbKinds"], apart := false, laid := [("loop.example/g00684/impl.fbKinds", laid_loop_example_g00684_impl_fbKinds)], narrowed := true }
def FnExactValueOfUptoSaid : Prop := fnExactValueOfUptoRow.holds Tryd.pinned (OpenSpec.upto fnExactValueOfSpec)

/-- 'laws.FnExactFbText', WHERE WHAT IT READS IS OF BULK AT MOST 1048576: true; the input reads as it did. -/
def fnExactFbTextUptoRow : OpenClaim := { program := "ytknfimadhnlpjaadoor", sum := "0a1fb4a2eaf01f1d5c92c78f5cb42b28336d093f9a68c1a325a738654477f4c7", func := "loop.example/g00684/laws.FnExactFbText", spec := "fnExactFbText", recurses := true, named := ["loop.example/g00684/impl.fbKinds", "internal/strconv.uint64pow10", "math/bits.deBruijn32tab", "math/bits.deBruijn64tab"], apart := false, laid := [("math/bits.deBruijn32tab", laid_math_bits_deBruijn32tab), ("math/bits.deBruijn64tab", laid_math_bits_deBruijn64tab), ("internal/strconv.uint64pow10", laid_internal_strconv_uint64pow10), ("loop.example/g00684/impl.fbKinds", laid_loop_example_g00684_impl_fbKinds)], narrowed := true }
def FnExactFbTextUptoSaid : Prop := fnExactFbTextUptoRow.holds Tryd.pinned (OpenSpec.upto fnExactFbTextSpec)

end Rows
end Go.Proofs.YtknfimadhnlpjaaDoor
