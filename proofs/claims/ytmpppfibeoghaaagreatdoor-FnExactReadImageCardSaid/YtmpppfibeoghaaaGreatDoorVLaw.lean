/- The exact law of VerifyCode. -/
import Derived.Test.YtmpppfibeoghaaaGreatDoorSpec5
import Derived.Test.YtmpppfibeoghaaaGreatDoorMatchL
namespace Go.Proofs.YtmpppfibeoghaaaGreatDoor
open Go.ChangeShapes Go.WideShapes Go.ChangeAt Go.RowKit
end Go.Proofs.YtmpppfibeoghaaaGreatDoor
