/- The exact law of VerifyCode. -/
import Derived.Test.YthhmhglgjeaefaaDoorSpec5
import Derived.Test.YthhmhglgjeaefaaDoorMatchL
namespace Go.Proofs.YthhmhglgjeaefaaDoor
open Go.ChangeShapes Go.WideShapes Go.ChangeAt Go.RowKit
end Go.Proofs.YthhmhglgjeaefaaDoor
