/- A walk of impl's verifier: the innermost structure, the floor, the level. -/
import Derived.Test.YtbbhoaljldgjeaaDoorWalk
import Derived.RegionDies
namespace Go.Proofs.YtbbhoaljldgjeaaDoor
open Go.ChangeShapes Go.WideShapes Go.ChangeAt Go.RowKit
set_option linter.unusedVariables false
theorem innermost_ok (p g m c : Nat) (hm : m + 1 ≤ 100) (w : World) (h : w.cell? ⟨p, 4, none⟩ = some (.slice (some ⟨g, 0, none⟩) (m + 1) c)) :
    Calls Tryd.prog 84 #[.pointer (some ⟨p, 0, none⟩)] w fun e w' => e = .returned (.pointer (some ⟨g, m * 3, none⟩)) ∧ ∃ q, w' = w.drewN q := by
  go_enter Tryd.func84, Tryd.ntmps84
  go_wp2_with (go_at_call 85; refine (require_ok _ _ _).mono ?_; rintro e w' ⟨rfl, rfl⟩)
  go_region
  go_wp2
  go_ret
  exact ⟨by simp, _, rfl⟩
theorem innermost_no (p c : Nat) (a : Option Addr) (i : Int) (w : World) (h : w.cell? ⟨p, 4, none⟩ = some (.slice a 0 c)) (h2 : w.cell? ⟨p, 2, none⟩ = some (.int .i64 i)) :
    Calls Tryd.prog 84 #[.pointer (some ⟨p, 0, none⟩)] w fun e w' => e = Off i 14 ∧ w = w' := by
  go_enter Tryd.func84, Tryd.ntmps84
  go_wp2_with (go_at_call 85; refine (require_no _ _ i _ h2).mono ?_; rintro e w' ⟨rfl, rfl⟩)
  exact ⟨rfl, rfl, rfl⟩
theorem floor_none (p c : Nat) (a : Option Addr) (w : World) (h : w.cell? ⟨p, 4, none⟩ = some (.slice a 0 c)) :
    Calls Tryd.prog 110 #[.pointer (some ⟨p, 0, none⟩)] w fun e w' => e = .returned (.int .i64 0) ∧ ∃ q, w' = w.drewN q := by
  go_enter Tryd.func110, Tryd.ntmps110
  go_wp2
  go_ret
  exact ⟨rfl, 0, rfl⟩
theorem floor_some (p g m c : Nat) (k : Int) (hm : m + 1 ≤ 100) (w : World) (h : w.cell? ⟨p, 4, none⟩ = some (.slice (some ⟨g, 0, none⟩) (m + 1) c)) (hk : w.cell? ⟨g, m * 3 + 1, none⟩ = some (.int .i64 k)) :
    Calls Tryd.prog 110 #[.pointer (some ⟨p, 0, none⟩)] w fun e w' => e = .returned (.int .i64 k) ∧ ∃ q, w' = w.drewN q := by
  have h1 : ((m : Int) + 1 == 0) = false := by rw [beq_eq_false_iff_ne]; omega
  go_enter Tryd.func110, Tryd.ntmps110
  go_wp2_with (go_at_call 84; refine (innermost_ok p g m c hm _ h).mono ?_; rintro e w' ⟨rfl, q, rfl⟩)
  go_ret
  exact ⟨rfl, q, rfl⟩
theorem level_ok (p g m n cs : Nat) (a : Option Addr) (w : World) (h : w.cell? ⟨p, 3, none⟩ = some (.slice a n cs)) (hk : w.cell? ⟨g, m + 1, none⟩ = some (.int .i64 n)) :
    Calls Tryd.prog 111 #[.pointer (some ⟨p, 0, none⟩), .pointer (some ⟨g, m, none⟩)] w fun e w' => e = .returned (.tuple #[]) ∧ ∃ q, w' = w.drewN q := by
  go_enter Tryd.func111, Tryd.ntmps111
  go_quiet ((go_at_call 85; exact Calls.quiet_of_same ((require_ok _ _ _).mono fun _ _ ⟨a, b⟩ => ⟨a, b.symm⟩)))
  go_wp2
  go_end0
  exact ⟨rfl, _, rfl⟩
theorem level_no (p g m n cs : Nat) (a : Option Addr) (k i : Int) (hkn : (n : Int) ≠ k) (w : World) (h : w.cell? ⟨p, 3, none⟩ = some (.slice a n cs)) (hk : w.cell? ⟨g, m + 1, none⟩ = some (.int .i64 k)) (h2 : w.cell? ⟨p, 2, none⟩ = some (.int .i64 i)) :
    Calls Tryd.prog 111 #[.pointer (some ⟨p, 0, none⟩), .pointer (some ⟨g, m, none⟩)] w fun e w' => e = Off i 13 ∧ ∃ q, w' = w.drewN q := by
  have hb : ((n : Int) == k) = false := by rw [beq_eq_false_iff_ne]; exact hkn
  clear hkn
  go_enter Tryd.func111, Tryd.ntmps111
  go_region_dies
  all_goals
    refine Calls.mono (require_no _ _ i _ (by exact h2)) ?_
    rintro e w' ⟨rfl, rfl⟩
    exact ⟨rfl, rfl, 1, rfl⟩
end Go.Proofs.YtbbhoaljldgjeaaDoor
