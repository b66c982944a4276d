/- The exact law of VerifyCode. -/
import Derived.Test.YtpdnkcfphjbbfaaGreatDoorSpec5
import Derived.Test.YtpdnkcfphjbbfaaGreatDoorMatchL
namespace Go.Proofs.YtpdnkcfphjbbfaaGreatDoor
open Go.ChangeShapes Go.WideShapes Go.ChangeAt Go.RowKit
end Go.Proofs.YtpdnkcfphjbbfaaGreatDoor
