/- TaskOK of impl and of spec; the law TaskOK. -/
import Derived.Test.YtpdnkcfphjbbfaaTsk
namespace Go.Proofs.Ytpdnkcfphjbbfaa
open Go.ChangeShapes Go.WideShapes Go.ChangeAt Go.RowKit
set_option linter.unusedVariables false
def tkIn (n a b : Int) : Bool := decide (a ≤ n ∧ n ≤ b)
def tkB (z : TT) : Bool :=
  decide (1 ≤ z.p ∧ z.p ≤ 5000 ∧ 1 ≤ z.d ∧ z.d ≤ 5000 ∧ 0 ≤ z.r ∧ z.r ≤ 5 ∧ ((z.k = 1 ∧ z.i = 0 ∧ z.q = 1 ∧ z.d ≤ z.p) ∨ (z.k = 2 ∧ 0 ≤ z.i ∧ z.i ≤ 7 ∧ 1 ≤ z.q ∧ z.q ≤ 4)))
theorem tkIn_any (n a b : Int) (w : World) : Calls Try.prog 13 #[.int .i64 n, .int .i64 a, .int .i64 b] w fun e w' => e = .returned (.bool (tkIn n a b)) ∧ w = w' := by
  by_cases h1 : a ≤ n <;> by_cases h2 : n ≤ b
  all_goals
    have H : Hid (tkIn n a b = _) := Lib.hid (show decide (a ≤ n ∧ n ≤ b) = _ by first | exact decide_eq_false (by omega) | exact decide_eq_true (by omega))
    go_enter Try.func13, Try.ntmps13
    go_wp2
    go_ret
    exact ⟨by rw [H.out]; rfl, rfl⟩
theorem tkIn_is {n a b : Int} {q : Bool} (h : tkIn n a b = q) (w : World) : Calls Try.prog 13 #[.int .i64 n, .int .i64 a, .int .i64 b] w fun e w' => e = .returned (.bool q) ∧ w = w' := h ▸ tkIn_any n a b w
def tkT (n : Int) : Bool := tkIn n 1 5000
theorem isTaskTime_any (n : Int) (w : World) : Calls Try.prog 14 #[.int .i64 n] w fun e w' => e = .returned (.bool (tkT n)) ∧ w = w' := by
  by_cases h1 : 1 ≤ n <;> by_cases h2 : n ≤ 5000
  all_goals
    have H : Hid (tkT n = _) := Lib.hid (show decide (1 ≤ n ∧ n ≤ 5000) = _ by first | exact decide_eq_false (by omega) | exact decide_eq_true (by omega))
    go_enter Try.func14, Try.ntmps14
    go_wp2
    go_ret
    exact ⟨by rw [H.out]; rfl, rfl⟩
set_option maxHeartbeats 2000000 in
theorem taskOK_any (z : TT) (w : World) : Calls Try.prog 7 #[tV z] w fun e w' => e = .returned (.bool (tkB z)) ∧ Below w.heap.size w w' := by
  obtain ⟨k, p, d, i, q, r⟩ := z
  have Hb := Lib.hid (dbox w (tO ⟨k, p, d, i, q, r⟩ 25))
  go_enter Try.func7, Try.ntmps7
  go_wp2_with (go_at_call 14; refine (isTaskTime_any _ _).mono ?_; rintro e w' ⟨rfl, rfl⟩)
  all_goals (go_ret; refine ⟨rb_eq ?_, dbox _ _⟩; clear Hb; unfold tkB; unfold tkT tkIn at *; rw [Bool.eq_iff_iff]; simp_all; try omega)
set_option maxHeartbeats 2000000 in
theorem specTaskOK_any (z : TT) (w : World) : Calls Try.prog 5 #[tV z] w fun e w' => e = .returned (.bool (tkB z)) ∧ Below w.heap.size w w' := by
  obtain ⟨k, p, d, i, q, r⟩ := z
  have Hb := Lib.hid (dbox w (tO ⟨k, p, d, i, q, r⟩ 25))
  go_enter Try.func5, Try.ntmps5
  go_wp2_with (go_at_call 13; refine (tkIn_any _ _ _ _).mono ?_; rintro e w' ⟨rfl, rfl⟩)
  all_goals (go_ret; refine ⟨rb_eq ?_, dbox _ _⟩; clear Hb; unfold tkB; unfold tkIn at *; rw [Bool.eq_iff_iff]; simp_all; try omega)
theorem FnExactTaskOK_came (cs : Array Value) (W : World) (h : Came Try.prog W 23 cs.toList) : Calls Try.prog 3 #[.agg cs] W fun e w' => e = .returned (.bool true) ∧ Below W.heap.size W w' := by
  obtain ⟨z, hz⟩ := came_tt h
  obtain ⟨l⟩ := cs
  simp only at hz
  subst hz
  clear h
  have HX := Lib.hid (Bx.start W (tO z 23))
  have HT := Lib.hid (fun w => toTask_cp z w)
  have HS := Lib.hid (fun w => specTaskOK_any z w)
  have HI := Lib.hid (fun w => taskOK_any z w)
  obtain ⟨k, p, d, i, q, r⟩ := z
  change Calls Try.prog 3 #[tV ⟨k, p, d, i, q, r⟩] W _
  generalize tkB _ = R at *
  have e1 : (R != R) = false := by simp
  go_enter Try.func3, Try.ntmps3
  go_wp2_with fail
  refine Calls.mono (HT.out _) ?_
  rintro e w1 ⟨rfl, hb1⟩
  have HX := Lib.hid (HX.out.to hb1)
  clear hb1
  have c0 := cell_of_row w1 W.heap.size 0 _ _ _ HX.out.box
  have c1 := cell_of_row w1 W.heap.size 1 _ _ _ HX.out.box
  have c2 := cell_of_row w1 W.heap.size 2 _ _ _ HX.out.box
  have c3 := cell_of_row w1 W.heap.size 3 _ _ _ HX.out.box
  have c4 := cell_of_row w1 W.heap.size 4 _ _ _ HX.out.box
  have c5 := cell_of_row w1 W.heap.size 5 _ _ _ HX.out.box
  go_wp2_with fail
  refine Calls.mono (HS.out _) ?_
  rintro e w2 ⟨rfl, hb1⟩
  have HX := Lib.hid (HX.out.to hb1)
  clear hb1 c0 c1 c2 c3 c4 c5
  have c0 := cell_of_row w2 W.heap.size 0 _ _ _ HX.out.box
  have c1 := cell_of_row w2 W.heap.size 1 _ _ _ HX.out.box
  have c2 := cell_of_row w2 W.heap.size 2 _ _ _ HX.out.box
  have c3 := cell_of_row w2 W.heap.size 3 _ _ _ HX.out.box
  have c4 := cell_of_row w2 W.heap.size 4 _ _ _ HX.out.box
  have c5 := cell_of_row w2 W.heap.size 5 _ _ _ HX.out.box
  go_wp2_with fail
  refine Calls.mono (HT.out _) ?_
  rintro e w3 ⟨rfl, hb1⟩
  have HX := Lib.hid (HX.out.to hb1)
  clear hb1 c0 c1 c2 c3 c4 c5
  go_wp2_with fail
  refine Calls.mono (HI.out _) ?_
  rintro e w4 ⟨rfl, hb1⟩
  have HX := Lib.hid (HX.out.to hb1)
  clear hb1
  go_wp2
  go_ret
  exact ⟨rfl, HX.out.bel⟩
end Go.Proofs.Ytpdnkcfphjbbfaa
