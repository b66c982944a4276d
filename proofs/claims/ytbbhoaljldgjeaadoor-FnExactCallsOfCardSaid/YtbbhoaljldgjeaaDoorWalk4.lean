/- A walk of impl's verifier: what an instruction names; its effect. -/
import Derived.Test.YtbbhoaljldgjeaaDoorWalk3
import Derived.Test.YtbbhoaljldgjeaaDoorInsOK
namespace Go.Proofs.YtbbhoaljldgjeaaDoor
open Go.ChangeShapes Go.WideShapes Go.ChangeAt Go.RowKit
set_option linter.unusedVariables false
theorem bel_dn {B : Nat} {a w : World} (h : Below B a w) (q : Nat) : Below B a (w.drewN q) := ⟨h.os, h.tape, h.output, h.size, h.block⟩
theorem find_plain (p : Nat) (o y : Int) (w : World) (h19 : (o == 19) = false) (h20 : (o == 20) = false) (h26 : (o == 26) = false) :
    Calls Tryd.prog 91 #[.pointer (some ⟨p, 0, none⟩), .agg #[.int .i64 o, .int .i64 y]] w fun e w' => e = .returned (.tuple #[]) ∧ Below w.heap.size w w' := by
  go_enter Tryd.func91, Tryd.ntmps91
  go_wp2
  go_end0
  exact ⟨rfl, (Below.refl _ _).alloc (Nat.le_refl _) _⟩
theorem find_block_ok (p n c : Nat) (k : Option Addr) (o y : Int) (ho : o = 19 ∨ o = 20) (hy : y < n) (w : World) (hp : p < w.heap.size) (h0 : w.cell? ⟨p, 0, none⟩ = some (.slice k n c)) :
    Calls Tryd.prog 91 #[.pointer (some ⟨p, 0, none⟩), .agg #[.int .i64 o, .int .i64 y]] w fun e w' => e = .returned (.tuple #[]) ∧ Below w.heap.size w w' := by
  have hd : decide (y < (n : Int)) = true := decide_eq_true (by omega)
  rcases ho with rfl | rfl
  all_goals
    go_enter Tryd.func91, Tryd.ntmps91
    go_wp2
    go_quiet ((go_at_call 85; exact Calls.quiet_of_same ((require_ok _ _ _).mono fun _ _ ⟨a, b⟩ => ⟨a, b.symm⟩)))
    go_wp2
    go_end0
    exact ⟨rfl, bel_dn ((Below.refl _ _).alloc (Nat.le_refl _) _) _⟩
set_option maxHeartbeats 1000000 in
theorem find_block_no (p n c : Nat) (k : Option Addr) (o y i : Int) (ho : o = 19 ∨ o = 20) (hy : (n : Int) ≤ y) (w : World) (hp : p < w.heap.size) (h0 : w.cell? ⟨p, 0, none⟩ = some (.slice k n c)) (h2 : w.cell? ⟨p, 2, none⟩ = some (.int .i64 i)) :
    Calls Tryd.prog 91 #[.pointer (some ⟨p, 0, none⟩), .agg #[.int .i64 o, .int .i64 y]] w fun e w' => e = Off i 5 ∧ Below w.heap.size w w' := by
  have hd : decide (y < (n : Int)) = false := decide_eq_false (by omega)
  rcases ho with rfl | rfl
  all_goals
    go_enter Tryd.func91, Tryd.ntmps91
    go_wp2
    go_region_dies
    all_goals
      refine Calls.mono (require_no _ _ i _ (by exact (((Below.refl w.heap.size w).alloc (Nat.le_refl _) _).cell (p := ⟨p, 2, none⟩) hp).trans h2)) ?_
      rintro e w' ⟨rfl, rfl⟩
      exact ⟨rfl, rfl, bel_dn ((Below.refl _ _).alloc (Nat.le_refl _) _) 1⟩
theorem find_call_ok (p : Nat) (y r : Int) (hy : y < r) (w : World) (hp : p < w.heap.size) (h1 : w.cell? ⟨p, 1, none⟩ = some (.int .i64 r)) :
    Calls Tryd.prog 91 #[.pointer (some ⟨p, 0, none⟩), .agg #[.int .i64 26, .int .i64 y]] w fun e w' => e = .returned (.tuple #[]) ∧ Below w.heap.size w w' := by
  have hd : decide (y < r) = true := decide_eq_true hy
  clear hy
  go_enter Tryd.func91, Tryd.ntmps91
  go_wp2
  go_quiet ((go_at_call 85; exact Calls.quiet_of_same ((require_ok _ _ _).mono fun _ _ ⟨a, b⟩ => ⟨a, b.symm⟩)))
  go_wp2
  go_end0
  exact ⟨rfl, bel_dn ((Below.refl _ _).alloc (Nat.le_refl _) _) _⟩
theorem find_call_no (p : Nat) (y r i : Int) (hy : r ≤ y) (w : World) (hp : p < w.heap.size) (h1 : w.cell? ⟨p, 1, none⟩ = some (.int .i64 r)) (h2 : w.cell? ⟨p, 2, none⟩ = some (.int .i64 i)) :
    Calls Tryd.prog 91 #[.pointer (some ⟨p, 0, none⟩), .agg #[.int .i64 26, .int .i64 y]] w fun e w' => e = Off i 15 ∧ Below w.heap.size w w' := by
  have hd : decide (y < r) = false := decide_eq_false (by omega)
  clear hy
  go_enter Tryd.func91, Tryd.ntmps91
  go_wp2
  go_region_dies
  all_goals
    refine Calls.mono (require_no _ _ i _ (by exact (((Below.refl w.heap.size w).alloc (Nat.le_refl _) _).cell (p := ⟨p, 2, none⟩) hp).trans h2)) ?_
    rintro e w' ⟨rfl, rfl⟩
    exact ⟨rfl, rfl, bel_dn ((Below.refl _ _).alloc (Nat.le_refl _) _) 1⟩
end Go.Proofs.YtbbhoaljldgjeaaDoor
