/- CostOf, InstrOK and what they rest on, of impl and of spec. -/
import Derived.Test.YtppgknjpbfopjaaGreatDoorOps
import Derived.IntWalk
import Derived.WalkSmall
import Derived.Deep.QuietTactic
import Derived.BigQuiet
namespace Go.Proofs.YtppgknjpbfopjaaGreatDoor
open Go.ChangeShapes Go.WideShapes Go.ChangeAt Go.RowKit
theorem ret_ii' {a b c d : Int} (h : a = b) (g : c = d) : Ending.returned (.tuple #[.int .i64 a, .int .i64 c]) = .returned (.tuple #[.int .i64 b, .int .i64 d]) := by rw [h, g]
def costF (n : Int) : Int := if opB n = true then opTk n.toNat else 0
def costC (n : Int) : Int := if opB n = true then 0 else 11
theorem costF_in {k : Nat} (h : 1 ≤ k) (g : k ≤ 26) : costF (k : Int) = opTk k ∧ costC (k : Int) = 0 := by unfold costF costC; rw [if_pos (opB_in h g), if_pos (opB_in h g)]; exact ⟨rfl, rfl⟩
theorem costF_out {n : Int} (h : opB n = false) : costF n = 0 ∧ costC n = 11 := by unfold costF costC; rw [if_neg (by rw [h]; simp), if_neg (by rw [h]; simp)]; exact ⟨rfl, rfl⟩
theorem op26 {k : Nat} (h1 : 1 ≤ k) (h2 : k ≤ 26) : k = 1 ∨ k = 2 ∨ k = 3 ∨ k = 4 ∨ k = 5 ∨ k = 6 ∨ k = 7 ∨ k = 8 ∨ k = 9 ∨ k = 10 ∨ k = 11 ∨ k = 12 ∨ k = 13 ∨ k = 14 ∨ k = 15 ∨ k = 16 ∨ k = 17 ∨ k = 18 ∨ k = 19 ∨ k = 20 ∨ k = 21 ∨ k = 22 ∨ k = 23 ∨ k = 24 ∨ k = 25 ∨ k = 26 := by omega
set_option maxHeartbeats 1000000 in
theorem l02Cost_any (k : Nat) (h1 : 1 ≤ k) (h2 : k ≤ 26) (w : World) : Calls Tryz.prog 146 #[.int .i64 (k : Int)] w fun e w' => e = .returned (.int .i64 (opTk k)) ∧ w = w' := by
  have hk := op26 h1 h2
  clear h1 h2
  rcases hk with rfl | rfl | rfl | rfl | rfl | rfl | rfl | rfl | rfl | rfl | rfl | rfl | rfl | rfl | rfl | rfl | rfl | rfl | rfl | rfl | rfl | rfl | rfl | rfl | rfl | rfl
  all_goals
    go_enter Tryz.func146, Tryz.ntmps146
    go_wp2
    go_ret
    exact ⟨rfl, rfl⟩
def opHas (k : Nat) : Bool := decide (0 < opHi k)
set_option maxHeartbeats 1000000 in
theorem l02Has_any (k : Nat) (h1 : 1 ≤ k) (h2 : k ≤ 26) (w : World) : Calls Tryz.prog 167 #[.int .i64 (k : Int)] w fun e w' => e = .returned (.tuple #[.int .i64 (opLo k), .int .i64 (opHi k), .bool (opHas k)]) ∧ w = w' := by
  have hk := op26 h1 h2
  clear h1 h2
  rcases hk with rfl | rfl | rfl | rfl | rfl | rfl | rfl | rfl | rfl | rfl | rfl | rfl | rfl | rfl | rfl | rfl | rfl | rfl | rfl | rfl | rfl | rfl | rfl | rfl | rfl | rfl
  all_goals
    go_enter Tryz.func167, Tryz.ntmps167
    go_wp2
    go_ret3
    exact ⟨rfl, rfl⟩
theorem hasOperand_any (k : Nat) (h : k ≤ 26) (w : World) (ht : OpTab w) : Calls Tryz.prog 198 #[.int .i64 (k : Int)] w fun e w' => e = .returned (.bool (opHas k)) ∧ w = w' := by
  have hc := (ht k (by omega)).2.2.2
  have h3 : k < 27 := by omega
  clear ht
  go_enter Tryz.func198, Tryz.ntmps198
  go_wp2
  go_ret
  exact ⟨rfl, rfl⟩
end Go.Proofs.YtppgknjpbfopjaaGreatDoor
