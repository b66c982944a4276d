/- l00Digits: a number's digits. -/
import Derived.Test.YtppgknjpbfopjaaGreatDoorRows
import Derived.WalkKit
import Derived.ProofKit
import Derived.OpenShut
import Derived.Handy
import Derived.Below
import Derived.IntWalk
import Derived.WalkSmall
import Derived.WalkSpells
import Derived.Laws.OwnMore
import Derived.Laws.NewBlocks
import Derived.Lib.Hide
import Derived.Lib.ItoaLen
import Derived.Deep.RegionWith
import Derived.Outline
import Derived.Test.YtppgknjpbfopjaaGreatDoorOwn
namespace Go.Proofs.YtppgknjpbfopjaaGreatDoor
open Go.ChangeShapes Go.WideShapes Go.ChangeAt Go.RowKit
theorem below_from {B C : Nat} {w w1 : World} {n : Nat} (hb : Below C (w.drewN n) w1) (h : B ≤ C) : Below B w w1 := have g := hb.mono h; ⟨g.os, g.tape, g.output, g.size, g.block⟩
theorem dcell {W w1 : World} (hb : Below W.heap.size W w1) : (∀ b o, b < W.heap.size → w1.cell? ⟨b, o, none⟩ = W.cell? ⟨b, o, none⟩) := fun b o h => hb.cell (p := ⟨b, o, none⟩) h
theorem one_str (b : Nat) (z : Int) (w1 : World) (h0 : 0 ≤ z) (h1 : z ≤ 255) (hc : w1.cell? ⟨b, 0, none⟩ = some (.int .u8 z)) : (convert 46 9 (.slice (some ⟨b, 0, none⟩) 1 1)).run Tryz.prog w1 = .ok (.string ⟨#[UInt8.ofNat z.toNat]⟩) w1 := by
  have := run_convert_bytes_back (P := Tryz.prog) w1 46 9 5 ⟨b, 0, none⟩ 1 [UInt8.ofNat z.toNat] Tryz.underlying46 Tryz.underlying5 Tryz.underlying9 (fun j hj => by
    have : j = 0 := by simp at hj; omega
    subst this
    rw [show ((⟨b, 0, none⟩ : Addr).add 0) = ⟨b, 0, none⟩ from rfl, hc]
    simp
    omega)
  simpa using this
theorem ret_s2 {a b : List UInt8} (h : a = b) : Ending.returned (.string ⟨a.toArray⟩) = .returned (.string ⟨b.toArray⟩) := by rw [h]
end Go.Proofs.YtppgknjpbfopjaaGreatDoor
