/-
  NARROWER THAN 'FOR EVERY INPUT', by the rows' own cells (each row's printed sentence says how): FnNumbers: ifaces, laid · FnFrames: ifaces, laid · FnExactCodeWord: laid · FnExactCodeOf: laid · FnExactPutNumber: ifaces, laid · FnExactTakeNumber: ifaces, laid · FnExactFrameText: ifaces, laid · FnExactReadFrame: ifaces, laid.
  DERIVED. THE GIVEN ROWS OF THIS SEAT. 8 by the template 'for every input the law returns true; each argument reads behind the call as it read before'; 0 by the template 'total and deterministic' (their statements: YtlohjeidaemejaaDoorTotals.lean).
  GIVEN WITH THE SEED: the statements are not yours to turn. If you find one false, say at which input.
  Laid BY PROGRAM, IN A SANDBOX (cutbox-rows.mjs): the forced cells as the released guide's own fill.sh prints them over the translation 8c8e796454f8e284… (all of the seat's roots in one cut). By AI agents, Wed Nov 11 2026. No macro, syntax, notation, axiom, sorry.
-/
import Derived.Test.YtlohjeidaemejaaDoorChecked
import GoSem.Claim
import GoSem.ClaimJoined
import GoSem.ClaimMapViews
import Derived.JoinedTies
import Derived.KernelRfl
namespace Go.Proofs.YtlohjeidaemejaaDoor
/- THE CELL 'sum', in the pinned program and in every row, IS THE sha256 OF THE DUMP (.gsa) THAT YtlohjeidaemejaaDoorProg.lean LOADS. Nothing in Lean hashes anything: it is a label: what it is worth is what the hold of that sum in a sandbox is worth. -/
noncomputable def Tryd.pinned : Pinned := { name := "ytlohjeidaemejaadoor", sum := "8c8e796454f8e284ff0d58eabff23cb3c6c937896a3ce91c0e0e30453b7124e1", checked := Tryd.checked }
namespace Rows
def none {H : Type} : Left H := { results := [], args := [] }

/- WHAT THE LISTED PACKAGE-LEVEL VARIABLES READ AS WHEN THE CALL BEGINS. Each datum BY PROGRAM (the guide's laid-datum.mjs) off the statement by which the dump's own 'gosem.cut.vars' lays the variable. In a bare row this is a premise. The card (YtlohjeidaemejaaDoorCards.lean) ties it to the program's text. -/
def laid_loop_example_g00684_impl_errRange {H : Type} : DataW H := .iface "*errors.errorString" (.ptr (.agg [.lit (.string [110, 117, 109, 98, 101, 114, 32, 111, 117, 116, 32, 111, 102, 32, 114, 97, 110, 103, 101])]))
def laid_loop_example_g00684_impl_errEnd {H : Type} : DataW H := .iface "*errors.errorString" (.ptr (.agg [.lit (.string [116, 114, 117, 110, 99, 97, 116, 101, 100])]))
def laid_loop_example_g00684_impl_codeWords {H : Type} : DataW H := .agg [.lit (.string [111, 107]), .lit (.string [98, 97, 100]), .lit (.string [108, 111, 110, 103]), .lit (.string [102, 111, 114, 109]), .lit (.string [114, 97, 110, 103, 101]), .lit (.string [110, 111, 110, 101]), .lit (.string [109, 97, 110, 121]), .lit (.string [102, 117, 108, 108]), .lit (.string [115, 105, 122, 101]), .lit (.string [115, 117, 109]), .lit (.string [107, 105, 110, 100]), .lit (.string [111, 112]), .lit (.string [116, 121, 112, 101]), .lit (.string [115, 116, 97, 99, 107]), .lit (.string [110, 101, 115, 116]), .lit (.string [99, 97, 108, 108]), .lit (.string [101, 110, 100]), .lit (.string [100, 101, 112, 116, 104]), .lit (.string [108, 111, 97, 100]), .lit (.string [115, 116, 111, 112, 112, 101, 100]), .lit (.string [114, 117, 110, 110, 105, 110, 103]), .lit (.string [102, 97, 117, 108, 116]), .lit (.string [108, 97, 116, 101]), .lit (.string [99, 117, 116])]

/-- 'laws.FnNumbers': WHATEVER THE INPUT: true; the input reads as it did. -/
def fnNumbersSpec : ChangeSpec := { name := "fnNumbers", vars := ["loop.example/g00684/impl.errRange", "loop.example/g00684/impl.errEnd"], fn := fun _ => fun
  | [d1, d2, g1, g2] => { results := [.lit (.bool true)], args := [d1, d2], vars := [g1, g2] }
  | _ => none }
def fnNumbersRow : OpenClaim := { program := "ytlohjeidaemejaadoor", sum := "8c8e796454f8e284ff0d58eabff23cb3c6c937896a3ce91c0e0e30453b7124e1", func := "loop.example/g00684/laws.FnNumbers", spec := "fnNumbers", inPlace := ["internal/reflectlite.TypeOf"], unfollowed := true, recurses := true, named := ["loop.example/g00684/impl.errRange", "loop.example/g00684/impl.errEnd"], ifaces := true, apart := false, laid := [("loop.example/g00684/impl.errRange", laid_loop_example_g00684_impl_errRange), ("loop.example/g00684/impl.errEnd", laid_loop_example_g00684_impl_errEnd)] }
def FnNumbersSaid : Prop := fnNumbersRow.holds Tryd.pinned (OpenSpec.ofChange fnNumbersSpec)

/-- ITS FALSE NEIGHBOUR: 'it returns false'. Refute it at one input. -/
def fnNumbersWrong : ChangeSpec := { name := "fnNumbers", vars := ["loop.example/g00684/impl.errRange", "loop.example/g00684/impl.errEnd"], fn := fun _ => fun
  | [d1, d2, g1, g2] => { results := [.lit (.bool false)], args := [d1, d2], vars := [g1, g2] }
  | _ => none }
def FnNumbersWrongFalsely : Prop := fnNumbersRow.holds Tryd.pinned (OpenSpec.ofChange fnNumbersWrong)

/-- 'laws.FnFrames': WHATEVER THE INPUT: true; the input reads as it did. -/
def fnFramesSpec : ChangeSpec := { name := "fnFrames", vars := ["loop.example/g00684/impl.errRange", "loop.example/g00684/impl.errEnd"], fn := fun _ => fun
  | [d1, d2, g1, g2] => { results := [.lit (.bool true)], args := [d1, d2], vars := [g1, g2] }
  | _ => none }
def fnFramesRow : OpenClaim := { program := "ytlohjeidaemejaadoor", sum := "8c8e796454f8e284ff0d58eabff23cb3c6c937896a3ce91c0e0e30453b7124e1", func := "loop.example/g00684/laws.FnFrames", spec := "fnFrames", inPlace := ["internal/reflectlite.TypeOf", "internal/bytealg.IndexByteString"], unfollowed := true, recurses := true, named := ["loop.example/g00684/impl.errRange", "loop.example/g00684/impl.errEnd"], ifaces := true, apart := false, laid := [("loop.example/g00684/impl.errRange", laid_loop_example_g00684_impl_errRange), ("loop.example/g00684/impl.errEnd", laid_loop_example_g00684_impl_errEnd)] }
def FnFramesSaid : Prop := fnFramesRow.holds Tryd.pinned (OpenSpec.ofChange fnFramesSpec)

/-- ITS FALSE NEIGHBOUR: 'it returns false'. Refute it at one input. -/
def fnFramesWrong : ChangeSpec := { name := "fnFrames", vars := ["loop.example/g00684/impl.errRange", "loop.example/g00684/impl.errEnd"], fn := fun _ => fun
  | [d1, d2, g1, g2] => { results := [.lit (.bool false)], args := [d1, d2], vars := [g1, g2] }
  | _ => none }
def FnFramesWrongFalsely : Prop := fnFramesRow.holds Tryd.pinned (OpenSpec.ofChange fnFramesWrong)

/-- 'laws.FnExactCodeWord': WHATEVER THE INPUT: true; the input reads as it did. -/
def fnExactCodeWordSpec : ChangeSpec := { name := "fnExactCodeWord", vars := ["loop.example/g00684/impl.codeWords"], fn := fun _ => fun
  | [d, g1] => { results := [.lit (.bool true)], args := [d], vars := [g1] }
  | _ => none }
def fnExactCodeWordRow : OpenClaim := { program := "ytlohjeidaemejaadoor", sum := "8c8e796454f8e284ff0d58eabff23cb3c6c937896a3ce91c0e0e30453b7124e1", func := "loop.example/g00684/laws.FnExactCodeWord", spec := "fnExactCodeWord", named := ["loop.example/g00684/impl.codeWords"], apart := false, laid := [("loop.example/g00684/impl.codeWords", laid_loop_example_g00684_impl_codeWords)] }
def FnExactCodeWordSaid : Prop := fnExactCodeWordRow.holds Tryd.pinned (OpenSpec.ofChange fnExactCodeWordSpec)

/-- ITS FALSE NEIGHBOUR: 'it returns false'. Refute it at one input. -/
def fnExactCodeWordWrong : ChangeSpec := { name := "fnExactCodeWord", vars := ["loop.example/g00684/impl.codeWords"], fn := fun _ => fun
  | [d, g1] => { results := [.lit (.bool false)], args := [d], vars := [g1] }
  | _ => none }
def FnExactCodeWordWrongFalsely : Prop := fnExactCodeWordRow.holds Tryd.pinned (OpenSpec.ofChange fnExactCodeWordWrong)

/-- 'laws.FnExactCodeOf': WHATEVER THE INPUT: true; the input reads as it did. -/
def fnExactCodeOfSpec : ChangeSpec := { name := "fnExactCodeOf", vars := ["loop.example/g00684/impl.codeWords"], fn := fun _ => fun
  | [d, g1] => { results := [.lit (.bool true)], args := [d], vars := [g1] }
  | _ => none }
def fnExactCodeOfRow : OpenClaim := { program := "ytlohjeidaemejaadoor", sum := "8c8e796454f8e284ff0d58eabff23cb3c6c937896a3ce91c0e0e30453b7124e1", func := "loop.example/g00684/laws.FnExactCodeOf", spec := "fnExactCodeOf", named := ["loop.example/g00684/impl.codeWords"], apart := false, laid := [("loop.example/g00684/impl.codeWords", laid_loop_example_g00684_impl_codeWords)] }
def FnExactCodeOfSaid : Prop := fnExactCodeOfRow.holds Tryd.pinned (OpenSpec.ofChange fnExactCodeOfSpec)

/-- ITS FALSE NEIGHBOUR: 'it returns false'. Refute it at one input. -/
def fnExactCodeOfWrong : ChangeSpec := { name := "fnExactCodeOf", vars := ["loop.example/g00684/impl.codeWords"], fn := fun _ => fun
  | [d, g1] => { results := [.lit (.bool false)], args := [d], vars := [g1] }
  | _ => none }
def FnExactCodeOfWrongFalsely : Prop := fnExactCodeOfRow.holds Tryd.pinned (OpenSpec.ofChange fnExactCodeOfWrong)

/-- 'laws.FnExactPutNumber': WHATEVER THE INPUT: true; the input reads as it did. -/
def fnExactPutNumberSpec : ChangeSpec := { name := "fnExactPutNumber", vars := ["loop.example/g00684/impl.errRange", "loop.example/g00684/impl.errEnd"], fn := fun _ => fun
  | [d1, d2, g1, g2] => { results := [.lit (.bool true)], args := [d1, d2], vars := [g1, g2] }
  | _ => none }
def fnExactPutNumberRow : OpenClaim := { program := "ytlohjeidaemejaadoor", sum := "8c8e796454f8e284ff0d58eabff23cb3c6c937896a3ce91c0e0e30453b7124e1", func := "loop.example/g00684/laws.FnExactPutNumber", spec := "fnExactPutNumber", inPlace := ["internal/reflectlite.TypeOf"], unfollowed := true, recurses := true, named := ["loop.example/g00684/impl.errRange", "loop.example/g00684/impl.errEnd"], ifaces := true, apart := false, laid := [("loop.example/g00684/impl.errRange", laid_loop_example_g00684_impl_errRange), ("loop.example/g00684/impl.errEnd", laid_loop_example_g00684_impl_errEnd)] }
def FnExactPutNumberSaid : Prop := fnExactPutNumberRow.holds Tryd.pinned (OpenSpec.ofChange fnExactPutNumberSpec)

/-- ITS FALSE NEIGHBOUR: 'it returns false'. Refute it at one input. -/
def fnExactPutNumberWrong : ChangeSpec := { name := "fnExactPutNumber", vars := ["loop.example/g00684/impl.errRange", "loop.example/g00684/impl.errEnd"], fn := fun _ => fun
  | [d1, d2, g1, g2] => { results := [.lit (.bool false)], args := [d1, d2], vars := [g1, g2] }
  | _ => none }
def FnExactPutNumberWrongFalsely : Prop := fnExactPutNumberRow.holds Tryd.pinned (OpenSpec.ofChange fnExactPutNumberWrong)

/-- 'laws.FnExactTakeNumber': WHATEVER THE INPUT: true; the input reads as it did. -/
def fnExactTakeNumberSpec : ChangeSpec := { name := "fnExactTakeNumber", vars := ["loop.example/g00684/impl.errRange", "loop.example/g00684/impl.errEnd"], fn := fun _ => fun
  | [d1, d2, d3, g1, g2] => { results := [.lit (.bool true)], args := [d1, d2, d3], vars := [g1, g2] }
  | _ => none }
def fnExactTakeNumberRow : OpenClaim := { program := "ytlohjeidaemejaadoor", sum := "8c8e796454f8e284ff0d58eabff23cb3c6c937896a3ce91c0e0e30453b7124e1", func := "loop.example/g00684/laws.FnExactTakeNumber", spec := "fnExactTakeNumber", inPlace := ["internal/reflectlite.TypeOf"], unfollowed := true, recurses := true, named := ["loop.example/g00684/impl.errRange", "loop.example/g00684/impl.errEnd"], ifaces := true, apart := false, laid := [("loop.example/g00684/impl.errRange", laid_loop_example_g00684_impl_errRange), ("loop.example/g00684/impl.errEnd", laid_loop_example_g00684_impl_errEnd)] }
def FnExactTakeNumberSaid : Prop := fnExactTakeNumberRow.holds Tryd.pinned (OpenSpec.ofChange fnExactTakeNumberSpec)

/-- ITS FALSE NEIGHBOUR: 'it returns false'. Refute it at one input. -/
def fnExactTakeNumberWrong : ChangeSpec := { name := "fnExactTakeNumber", vars := ["loop.example/g00684/impl.errRange", "loop.example/g00684/impl.errEnd"], fn := fun _ => fun
  | [d1, d2, d3, g1, g2] => { results := [.lit (.bool false)], args := [d1, d2, d3], vars := [g1, g2] }
  | _ => none }
def FnExactTakeNumberWrongFalsely : Prop := fnExactTakeNumberRow.holds Tryd.pinned (OpenSpec.ofChange fnExactTakeNumberWrong)

/-- 'laws.FnExactFrameText': WHATEVER THE INPUT: true; the input reads as it did. -/
def fnExactFrameTextSpec : ChangeSpec := { name := "fnExactFrameText", vars := ["loop.example/g00684/impl.errRange", "loop.example/g00684/impl.errEnd"], fn := fun _ => fun
  | [d, g1, g2] => { results := [.lit (.bool true)], args := [d], vars := [g1, g2] }
  | _ => none }
def fnExactFrameTextRow : OpenClaim := { program := "ytlohjeidaemejaadoor", sum := "8c8e796454f8e284ff0d58eabff23cb3c6c937896a3ce91c0e0e30453b7124e1", func := "loop.example/g00684/laws.FnExactFrameText", spec := "fnExactFrameText", inPlace := ["internal/reflectlite.TypeOf"], unfollowed := true, recurses := true, named := ["loop.example/g00684/impl.errRange", "loop.example/g00684/impl.errEnd"], ifaces := true, apart := false, laid := [("loop.example/g00684/impl.errRange", laid_loop_example_g00684_impl_errRange), ("loop.example/g00684/impl.errEnd", laid_loop_example_g00684_impl_errEnd)] }
def FnExactFrameTextSaid : Prop := fnExactFrameTextRow.holds Tryd.pinned (OpenSpec.ofChange fnExactFrameTextSpec)

/-- ITS FALSE NEIGHBOUR: 'it returns false'. Refute it at one input. -/
def fnExactFrameTextWrong : ChangeSpec := { name := "fnExactFrameText", vars := ["loop.example/g00684/impl.errRange", "loop.example/g00684/impl.errEnd"], fn := fun _ => fun
  | [d, g1, g2] => { results := [.lit (.bool false)], args := [d], vars := [g1, g2] }
  | _ => none }
def FnExactFrameTextWrongFalsely : Prop := fnExactFrameTextRow.holds Tryd.pinned (OpenSpec.ofChange fnExactFrameTextWrong)

/-- 'laws.FnExactReadFrame': WHATEVER THE INPUT: true; the input reads as it did. -/
def fnExactReadFrameSpec : ChangeSpec := { name := "fnExactReadFrame", vars := ["loop.example/g00684/impl.errRange", "loop.example/g00684/impl.errEnd"], fn := fun _ => fun
  | [d, g1, g2] => { results := [.lit (.bool true)], args := [d], vars := [g1, g2] }
  | _ => none }
def fnExactReadFrameRow : OpenClaim := { program := "ytlohjeidaemejaadoor", sum := "8c8e796454f8e284ff0d58eabff23cb3c6c937896a3ce91c0e0e30453b7124e1", func := "loop.example/g00684/laws.FnExactReadFrame", spec := "fnExactReadFrame", inPlace := ["internal/reflectlite.TypeOf"], unfollowed := true, recurses := true, named := ["loop.example/g00684/impl.errRange", "loop.example/g00684/impl.errEnd"], ifaces := true, apart := false, laid := [("loop.example/g00684/impl.errRange", laid_loop_example_g00684_impl_errRange), ("loop.example/g00684/impl.errEnd", laid_loop_example_g00684_impl_errEnd)] }
def FnExactReadFrameSaid : Prop := fnExactReadFrameRow.holds Tryd.pinned (OpenSpec.ofChange fnExactReadFrameSpec)

/-- ITS FALSE NEIGHBOUR: 'it returns false'. Refute it at one input. -/
def fnExactReadFrameWrong : ChangeSpec := { name := "fnExactReadFrame", vars := ["loop.example/g00684/impl.errRange", "loop.example/g00684/impl.errEnd"], fn := fun _ => fun
  | [d, g1, g2] => { results := [.lit (.bool false)], args := [d], vars := [g1, g2] }
  | _ => none }
def FnExactReadFrameWrongFalsely : Prop := fnExactReadFrameRow.holds Tryd.pinned (OpenSpec.ofChange fnExactReadFrameWrong)

/- THE SECOND FORM. 'bulk': how many values and letters a reading holds, each counted each time it is reached (what is shared counts as often as it is met; a slice's spare places count too). A statement '..UptoSaid' is the law's where the arguments, and the package variables that the reading takes, are together of bulk at most 1048576: NARROWER than '..Said'. Prove '..Said' where nothing that the law and all that it calls make is longer than what came in: it says more and counts as full. Else prove '..UptoSaid'. A law counts once. -/
mutual
def uptoBulk {H : Type} : DataW H → Nat
  | .lit (.string bytes) => bytes.length + 1
  | .lit _ => 1
  | .nil => 1
  | .ptr d => uptoBulk d + 1
  | .slice elems spare => uptoBulkAll elems + uptoBulkAll spare + 1
  | .agg parts => uptoBulkAll parts + 1
  | .iface _ d => uptoBulk d + 1
  | .map entries => uptoBulkEntries entries + 1
  | .held _ => 1
def uptoBulkAll {H : Type} : List (DataW H) → Nat
  | [] => 0
  | d :: r => uptoBulk d + uptoBulkAll r
def uptoBulkEntries {H : Type} : List (Lit × DataW H) → Nat
  | [] => 0
  | x :: r => uptoBulkEntry x + uptoBulkEntries r
def uptoBulkEntry {H : Type} : Lit × DataW H → Nat
  | (.string bytes, d) => bytes.length + uptoBulk d + 1
  | (_, d) => uptoBulk d + 1
 end
def uptoSmall : (H : Type) → List (DataW H) → Bool := fun _ ds => decide (uptoBulkAll ds ≤ 1048576)
def OpenSpec.upto (s : _root_.Go.ChangeSpec) : _root_.Go.OpenSpec := { _root_.Go.OpenSpec.ofChange s with cond := some uptoSmall }

/-- 'laws.FnNumbers', WHERE WHAT IT READS IS OF BULK AT MOST 1048576: true; the input reads as it did. -/
def fnNumbersUptoRow : OpenClaim := { program := "ytlohjeidaemejaadoor", sum := "8c8e796454f8e284ff0d58eabff23cb3c6c937896a3ce91c0e0e30453b7124e1", func := "loop.example/g00684/laws.FnNumbers", spec := "fnNumbers", inPlace := ["internal/reflectlite.TypeOf"], unfollowed := true, recurses := true, named := ["loop.example/g00684/impl.errRange", "loop.example/g00684/impl.errEnd"], ifaces := true, apart := false, laid := [("loop.example/g00684/impl.errRange", laid_loop_example_g00684_impl_errRange), ("loop.example/g00684/impl.errEnd", laid_loop_example_g00684_impl_errEnd)], narrowed := true }
def FnNumbersUptoSaid : Prop := fnNumbersUptoRow.holds Tryd.pinned (OpenSpec.upto fnNumbersSpec)

/-- 'laws.FnFrames', WHERE WHAT IT READS IS OF BULK AT MOST 1048576: true; the input reads as it did. -/
def fnFramesUptoRow : OpenClaim := { program := "ytlohjeidaemejaadoor", sum := "8c8e796454f8e284ff0d58eabff23cb3c6c937896a3ce91c0e0e30453b7124e1", func := "loop.example/g00684/laws.FnFrames", spec := "fnFrames", inPlace := ["internal/reflectlite.TypeOf", "internal/bytealg.IndexByteString"], unfollowed := true, recurses := true, named := ["loop.example/g00684/impl.errRange", "loop.example/g00684/impl.errEnd"], ifaces := true, apart := false, laid := [("loop.example/g00684/impl.errRange", laid_loop_example_g00684_impl_errRange), ("loop.example/g00684/impl.errEnd", laid_loop_example_g00684_impl_errEnd)], narrowed := true }
def FnFramesUptoSaid : Prop := fnFramesUptoRow.holds Tryd.pinned (OpenSpec.upto fnFramesSpec)

/-- 'laws.FnExactCodeWord', WHERE WHAT IT READS IS OF BULK AT MOST 1048576: true; the input reads as it did. -/
def fnExactCodeWordUptoRow : OpenClaim := { program := "ytlohjeidaemejaadoor", sum := "8c8e796454f8e284ff0d58eabff23cb3c6c937896a3ce91c0e0e30453b7124e1", func := "loop.example/g00684/laws.FnExactCodeWord", spec := "fnExactCodeWord", named := ["loop.example/g00684/impl.codeWords"], apart := false, laid := [("loop.example/g00684/impl.codeWords", laid_loop_example_g00684_impl_codeWords)], narrowed := true }
def FnExactCodeWordUptoSaid : Prop := fnExactCodeWordUptoRow.holds Tryd.pinned (OpenSpec.upto fnExactCodeWordSpec)

/-- 'laws.FnExactCodeOf', WHERE WHAT IT READS IS OF BULK AT MOST 1048576: true; the input reads as it did. -/
def fnExactCodeOfUptoRow : OpenClaim := { program := "ytlohjeidaemejaadoor", sum := "8c8e796454f8e284ff0d58eabff23cb3c6c937896a3ce91c0e0e30453b7124e1", func := "loop.example/g00684/laws.FnExactCodeOf", spec := "fnExactCodeOf", named := ["loop.example/g00684/impl.codeWords"], apart := false, laid := [("loop.example/g00684/impl.codeWords", laid_loop_example_g00684_impl_codeWords)], narrowed := true }
def FnExactCodeOfUptoSaid : Prop := fnExactCodeOfUptoRow.holds Tryd.pinned (OpenSpec.upto fnExactCodeOfSpec)

/-- 'laws.FnExactPutNumber', WHERE WHAT IT READS IS OF BULK AT MOST 1048576: true; the input reads as it did. -/
def fnExactPutNumberUptoRow : OpenClaim := { program := "ytlohjeidaemejaadoor", sum := "8c8e796454f8e284ff0d58eabff23cb3c6c937896a3ce91c0e0e30453b7124e1", func := "loop.example/g00684/laws.FnExactPutNumber", spec := "fnExactPutNumber", inPlace := ["internal/reflectlite.TypeOf"], unfollowed := true, recurses := true, named := ["loop.example/g00684/impl.errRange", "loop.example/g00684/impl.errEnd"], ifaces := true, apart := false, laid := [("loop.example/g00684/impl.errRange", laid_loop_example_g00684_impl_errRange), ("loop.example/g00684/impl.errEnd", laid_loop_example_g00684_impl_errEnd)], narrowed := true }
def FnExactPutNumberUptoSaid : Prop := fnExactPutNumberUptoRow.holds Tryd.pinned (OpenSpec.upto fnExactPutNumberSpec)

/-- 'laws.FnExactTakeNumber', WHERE WHAT IT READS IS OF BULK AT MOST 1048576: true; the input reads as it did. -/
def fnExactTakeNumberUptoRow : OpenClaim := { program := "ytlohjeidaemejaadoor", sum := "8c8e796454f8e284ff0d58eabff23cb3c6c937896a3ce91c0e0e30453b7124e1", func := "loop.example/g00684/laws.FnExactTakeNumber", spec := "fnExactTakeNumber", inPlace := ["internal/reflectlite.TypeOf"], unfollowed := true, recurses := true, named := ["loop.example/g00684/impl.errRange", "loop.example/g00684/impl.errEnd"], ifaces := true, apart := false, laid := [("loop.example/g00684/impl.errRange", laid_loop_example_g00684_impl_errRange), ("loop.example/g00684/impl.errEnd", laid_loop_example_g00684_impl_errEnd)], narrowed := true }
def FnExactTakeNumberUptoSaid : Prop := fnExactTakeNumberUptoRow.holds Tryd.pinned (OpenSpec.upto fnExactTakeNumberSpec)

/-- 'laws.FnExactFrameText', WHERE WHAT IT READS IS OF BULK AT MOST 1048576: true; the input reads as it did. -/
def fnExactFrameTextUptoRow : OpenClaim := { program := "ytlohjeidaemejaadoor", sum := "8c8e796454f8e284ff0d58eabff23cb3c6c937896a3ce91c0e0e30453b7124e1", func := "loop.example/g00684/laws.FnExactFrameText", spec := "fnExactFrameText", inPlace := ["internal/reflectlite.TypeOf"], unfollowed := true, recurses := true, named := ["loop.example/g00684/impl.errRange", "loop.example/g00684/impl.errEnd"], ifaces := true, apart := false, laid := [("loop.example/g00684/impl.errRange", laid_loop_example_g00684_impl_errRange), ("loop.example/g00684/impl.errEnd", laid_loop_example_g00684_impl_errEnd)], narrowed := true }
def FnExactFrameTextUptoSaid : Prop := fnExactFrameTextUptoRow.holds Tryd.pinned (OpenSpec.upto fnExactFrameTextSpec)

/-- 'laws.FnExactReadFrame', WHERE WHAT IT READS IS OF BULK AT MOST 1048576: true; the input reads as it did. -/
def fnExactReadFrameUptoRow : OpenClaim := { program := "ytlohjeidaemejaadoor", sum := "8c8e796454f8e284ff0d58eabff23cb3c6c937896a3ce91c0e0e30453b7124e1", func := "loop.example/g00684/laws.FnExactReadFrame", spec := "fnExactReadFrame", inPlace := ["internal/reflectlite.TypeOf"], unfollowed := true, recurses := true, named := ["loop.example/g00684/impl.errRange", "loop.example/g00684/impl.errEnd"], ifaces := true, apart := false, laid := [("loop.example/g00684/impl.errRange", laid_loop_example_g00684_impl_errRange), ("loop.example/g00684/impl.errEnd", laid_loop_example_g00684_impl_errEnd)], narrowed := true }
def FnExactReadFrameUptoSaid : Prop := fnExactReadFrameUptoRow.holds Tryd.pinned (OpenSpec.upto fnExactReadFrameSpec)

end Rows
end Go.Proofs.YtlohjeidaemejaaDoor
