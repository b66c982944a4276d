/- l00Digits: a number's digits. -/
import Derived.Test.YtpdnkcfphjbbfaaRows
import Derived.WalkKit
import Derived.ProofKit
import Derived.OpenShut
import Derived.Handy
import Derived.Below
import Derived.IntWalk
import Derived.WalkSmall
import Derived.WalkSpells
import Derived.Laws.OwnMore
import Derived.Laws.NewBlocks
import Derived.Lib.Hide
import Derived.Lib.ItoaLen
import Derived.Deep.RegionWith
import Derived.Outline
import Derived.Test.YtpdnkcfphjbbfaaOwn
namespace Go.Proofs.Ytpdnkcfphjbbfaa
open Go.ChangeShapes Go.WideShapes Go.ChangeAt Go.RowKit
theorem below_from {B C : Nat} {w w1 : World} {n : Nat} (hb : Below C (w.drewN n) w1) (h : B ≤ C) : Below B w w1 := have g := hb.mono h; ⟨g.os, g.tape, g.output, g.size, g.block⟩
theorem dcell {W w1 : World} (hb : Below W.heap.size W w1) : (∀ b o, b < W.heap.size → w1.cell? ⟨b, o, none⟩ = W.cell? ⟨b, o, none⟩) := fun b o h => hb.cell (p := ⟨b, o, none⟩) h
theorem ret_s2 {a b : List UInt8} (h : a = b) : Ending.returned (.string ⟨a.toArray⟩) = .returned (.string ⟨b.toArray⟩) := by rw [h]
end Go.Proofs.Ytpdnkcfphjbbfaa
