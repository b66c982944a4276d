/- TaskOK of impl and of spec; the law TaskOK. -/
import Derived.Test.YtmpppfibeoghaaaGreatDoorTsk
namespace Go.Proofs.YtmpppfibeoghaaaGreatDoor
open Go.ChangeShapes Go.WideShapes Go.ChangeAt Go.RowKit
set_option linter.unusedVariables false
def tkIn (n a b : Int) : Bool := decide (a ≤ n ∧ n ≤ b)
def tkB (z : TT) : Bool :=
  decide (1 ≤ z.p ∧ z.p ≤ 5000 ∧ 1 ≤ z.d ∧ z.d ≤ 5000 ∧ 0 ≤ z.r ∧ z.r ≤ 5 ∧ ((z.k = 1 ∧ z.i = 0 ∧ z.q = 1 ∧ z.d ≤ z.p) ∨ (z.k = 2 ∧ 0 ≤ z.i ∧ z.i ≤ 7 ∧ 1 ≤ z.q ∧ z.q ≤ 4)))
theorem tkIn_any (n a b : Int) (w : World) : Calls Tryz.prog 125 #[.int .i64 n, .int .i64 a, .int .i64 b] w fun e w' => e = .returned (.bool (tkIn n a b)) ∧ w = w' := by
  by_cases h1 : a ≤ n <;> by_cases h2 : n ≤ b
  all_goals
    have H : Hid (tkIn n a b = _) := Lib.hid (show decide (a ≤ n ∧ n ≤ b) = _ by first | exact decide_eq_false (by omega) | exact decide_eq_true (by omega))
    go_enter Tryz.func125, Tryz.ntmps125
    go_wp2
    go_ret
    exact ⟨by rw [H.out]; rfl, rfl⟩
theorem tkIn_is {n a b : Int} {q : Bool} (h : tkIn n a b = q) (w : World) : Calls Tryz.prog 125 #[.int .i64 n, .int .i64 a, .int .i64 b] w fun e w' => e = .returned (.bool q) ∧ w = w' := h ▸ tkIn_any n a b w
def tkT (n : Int) : Bool := tkIn n 1 5000
theorem isTaskTime_any (n : Int) (w : World) : Calls Tryz.prog 142 #[.int .i64 n] w fun e w' => e = .returned (.bool (tkT n)) ∧ w = w' := by
  by_cases h1 : 1 ≤ n <;> by_cases h2 : n ≤ 5000
  all_goals
    have H : Hid (tkT n = _) := Lib.hid (show decide (1 ≤ n ∧ n ≤ 5000) = _ by first | exact decide_eq_false (by omega) | exact decide_eq_true (by omega))
    go_enter Tryz.func142, Tryz.ntmps142
    go_wp2
    go_ret
    exact ⟨by rw [H.out]; rfl, rfl⟩
set_option maxHeartbeats 2000000 in
theorem taskOK_any (z : TT) (w : World) : Calls Tryz.prog 106 #[tV z] w fun e w' => e = .returned (.bool (tkB z)) ∧ Below w.heap.size w w' := by
  obtain ⟨k, p, d, i, q, r⟩ := z
  have Hb := Lib.hid (dbox w (tO ⟨k, p, d, i, q, r⟩ 78))
  go_enter Tryz.func106, Tryz.ntmps106
  go_wp2_with (go_at_call 142; refine (isTaskTime_any _ _).mono ?_; rintro e w' ⟨rfl, rfl⟩)
  all_goals (go_ret; refine ⟨rb_eq ?_, dbox _ _⟩; clear Hb; unfold tkB; unfold tkT tkIn at *; rw [Bool.eq_iff_iff]; simp_all; try omega)
set_option maxHeartbeats 2000000 in
theorem specTaskOK_any (z : TT) (w : World) : Calls Tryz.prog 80 #[tV z] w fun e w' => e = .returned (.bool (tkB z)) ∧ Below w.heap.size w w' := by
  obtain ⟨k, p, d, i, q, r⟩ := z
  have Hb := Lib.hid (dbox w (tO ⟨k, p, d, i, q, r⟩ 78))
  go_enter Tryz.func80, Tryz.ntmps80
  go_wp2_with (go_at_call 125; refine (tkIn_any _ _ _ _).mono ?_; rintro e w' ⟨rfl, rfl⟩)
  all_goals (go_ret; refine ⟨rb_eq ?_, dbox _ _⟩; clear Hb; unfold tkB; unfold tkIn at *; rw [Bool.eq_iff_iff]; simp_all; try omega)
end Go.Proofs.YtmpppfibeoghaaaGreatDoor
