/- The exact law of VerifyCode. -/
import Derived.Test.YtpdnkcfphjbbfaaDoorSpec5
import Derived.Test.YtpdnkcfphjbbfaaDoorMatchL
namespace Go.Proofs.YtpdnkcfphjbbfaaDoor
open Go.ChangeShapes Go.WideShapes Go.ChangeAt Go.RowKit
end Go.Proofs.YtpdnkcfphjbbfaaDoor
