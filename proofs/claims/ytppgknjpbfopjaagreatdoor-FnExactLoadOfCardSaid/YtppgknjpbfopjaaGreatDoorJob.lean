/- What a job takes: impl's jobCost and JobCost, spec's l09Job and JobCost. (Written by tools/gen_job.py.) -/
import Derived.Test.YtppgknjpbfopjaaGreatDoorCst3
import Derived.Test.YtppgknjpbfopjaaGreatDoorHeld
namespace Go.Proofs.YtppgknjpbfopjaaGreatDoor
open Go.ChangeShapes Go.WideShapes Go.ChangeAt Go.RowKit
set_option linter.unusedVariables false
def jobS (a : SM) : SM := beh (beh (one 1 false) a) (one 1 false)
def jobF (a : SM) : SM × Int := if smOK a = true then (jobS a, 0) else (sm0, 1)
theorem one1_ok : (one 1 false).ok := one_ok (by omega) false
theorem jobS_ok {a : SM} (h : a.ok) : (jobS a).ok := beh_ok (beh_ok one1_ok h) one1_ok
theorem jb_keep {w1 w2 : World} {k : Nat} {Q : Obj} (h : w1.heap[k]? = some Q) (g : Below w1.heap.size w1 w2) : w2.heap[k]? = some Q := (g.block _ (Array.getElem?_eq_some_iff.1 h).1).trans h
set_option maxHeartbeats 1000000 in
theorem jobCost_any (a : SM) (ha : a.ok) (w : World) : Calls Tryz.prog 97 #[smV a] w fun e w' => e = .returned (smV (jobS a)) ∧ Below w.heap.size w w' := by
  have HD := Lib.hid (duo_new w #[.int .i64 a.t, .int .i64 a.n, .int .i64 a.h, .int .i64 a.l, .int .i64 a.i] #[.int .i64 0, .int .i64 0, .int .i64 0, .int .i64 0, .int .i64 0] 81 81)
  have HO1 := Lib.hid one1_ok
  have HA := Lib.hid ha
  have HR : Hid (jobS a = beh (beh (one 1 false) a) (one 1 false)) := Lib.hid rfl
  clear ha
  go_enter Tryz.func97, Tryz.ntmps97
  go_wp2_with fail
  refine Calls.mono (oneCost_any _ _ _) ?_
  rintro e w1 ⟨rfl, hb1⟩
  have HD := Lib.hid (HD.out.bel hb1)
  clear hb1
  generalize one 1 false = o at *
  go_wp2_with fail
  have HX3 := Lib.hid (heap_alloc_new w1 (smO o))
  have HX1 := Lib.hid (bl_al HD.out.1 (smO o))
  have HX2 := Lib.hid (bl_al HD.out.2.1 (smO o))
  have HB := Lib.hid (HD.out.2.2.alloc HD.out.2.2.size (smO o))
  clear HD
  generalize hG : w1.heap.size = g at *
  clear hG
  generalize w1.alloc (smO o) = W2 at *
  have HSW : Hid (Below W2.heap.size W2 W2.drew) := Lib.hid (Below.refl _ _).drew
  refine wp_region_hl 5 (fun X => Below W2.heap.size W2 X) (by kernel_rfl) rfl rfl (by kernel_rfl) ?_
  refine hl_take (v := ?v0) 0 rfl (by kernel_rfl) (fun _ _ _ h => h) (Or.inl ⟨by rfl, ?hy0⟩) HSW.out ?rest0
  case hy0 =>
    intro X hSw
    have hk := jb_keep HX3.out hSw
    have q0 := cell_of_row X _ 0 _ _ _ hk
    have q1 := cell_of_row X _ 1 _ _ _ hk
    have q2 := cell_of_row X _ 2 _ _ _ hk
    have q3 := cell_of_row X _ 3 _ _ _ hk
    have q4 := cell_of_row X _ 4 _ _ _ hk
    clear hk
    go_simp <;> with_reducible rfl
  try simp only [Act.put, List.setIfInBounds_toArray, List.set_cons_zero, List.set_cons_succ]
  refine hl_take (v := ?v1) 1 rfl (by kernel_rfl) (fun _ _ _ h => h) (Or.inl ⟨by rfl, ?hy1⟩) HSW.out ?rest1
  case hy1 =>
    intro X hSw
    have hk := jb_keep HX1.out hSw
    have q0 := cell_of_row X _ 0 _ _ _ hk
    have q1 := cell_of_row X _ 1 _ _ _ hk
    have q2 := cell_of_row X _ 2 _ _ _ hk
    have q3 := cell_of_row X _ 3 _ _ _ hk
    have q4 := cell_of_row X _ 4 _ _ _ hk
    clear hk
    go_simp <;> with_reducible rfl
  try simp only [Act.put, List.setIfInBounds_toArray, List.set_cons_zero, List.set_cons_succ]
  refine hl_take (v := ?v3) 3 rfl (by kernel_rfl) (fun _ _ _ h => h) (Or.inl ⟨by rfl, ?hy3⟩) HSW.out ?rest3
  case hy3 =>
    intro X hSw
    have hk := jb_keep HX3.out hSw
    have q0 := cell_of_row X _ 0 _ _ _ hk
    have q1 := cell_of_row X _ 1 _ _ _ hk
    have q2 := cell_of_row X _ 2 _ _ _ hk
    have q3 := cell_of_row X _ 3 _ _ _ hk
    have q4 := cell_of_row X _ 4 _ _ _ hk
    clear hk
    go_simp <;> with_reducible rfl
  try simp only [Act.put, List.setIfInBounds_toArray, List.set_cons_zero, List.set_cons_succ]
  refine hl_one 2 rfl (by kernel_rfl) (fun K hK => ?_)
  go_simp
  refine Calls.mono (behind_any o a HO1.out HA.out _) ?_
  rintro e w7 ⟨rfl, hb7⟩
  refine hK.out _ _ (HSW.out.trans (hb7.mono HSW.out.size)) ?_
  have HS7 := Lib.hid (HSW.out.trans (hb7.mono HSW.out.size))
  clear hK hb7
  try simp only [Act.put, List.setIfInBounds_toArray, List.set_cons_zero, List.set_cons_succ]
  refine hl_one 4 rfl (by kernel_rfl) (fun K hK => ?_)
  go_simp
  refine Calls.mono (behind_any (beh o a) o (beh_ok HO1.out HA.out) HO1.out _) ?_
  rintro e w8 ⟨rfl, hb8⟩
  refine hK.out _ _ (HS7.out.trans (hb8.mono HS7.out.size)) ?_
  have HS8 := Lib.hid (HS7.out.trans (hb8.mono HS7.out.size))
  clear hK hb8
  try simp only [Act.put, List.setIfInBounds_toArray, List.set_cons_zero, List.set_cons_succ]
  have k2 := jb_keep HX2.out HS8.out
  obtain ⟨⟨c0, c1, c2, c3, c4⟩, ⟨f0, f1, f2, f3, f4⟩, -⟩ := sm_cells k2
  have HB8 := Lib.hid (HB.out.trans (HS8.out.mono HB.out.size))
  clear k2 HO1 HA HX1 HX2 HX3 HSW HS7
  refine hl_done (by kernel_rfl) ?_
  go_simp
  go_wp2
  refine bodyPost_ret (v := smV (beh (beh o a) o)) (by simp [results, Tryz.results97, go_sem, c0, c1, c2, c3, c4]) rfl ⟨by rw [HR.out], ?_⟩
  exact sm_set5 HB8.out (w.heap.size + 1) (by omega) _
set_option maxHeartbeats 1000000 in
theorem l09Job_any (a : SM) (ha : a.ok) (w : World) : Calls Tryz.prog 52 #[smV a] w fun e w' => e = .returned (smV (jobS a)) ∧ Below w.heap.size w w' := by
  have HD := Lib.hid (duo_new w #[.int .i64 a.t, .int .i64 a.n, .int .i64 a.h, .int .i64 a.l, .int .i64 a.i] #[.int .i64 0, .int .i64 0, .int .i64 0, .int .i64 0, .int .i64 0] 81 81)
  have HO1 := Lib.hid one1_ok
  have HA := Lib.hid ha
  have HR : Hid (jobS a = beh (beh (one 1 false) a) (one 1 false)) := Lib.hid rfl
  have HONE := Lib.hid (fun X => l05One_any 1 false X)
  clear ha
  go_enter Tryz.func52, Tryz.ntmps52
  generalize one 1 false = o at *
  have HX1 := Lib.hid HD.out.1
  have HX2 := Lib.hid HD.out.2.1
  have HB := Lib.hid HD.out.2.2
  clear HD
  go_wp2_with fail
  generalize (w.alloc (.cells #[.int .i64 a.t, .int .i64 a.n, .int .i64 a.h, .int .i64 a.l, .int .i64 a.i] 81)).alloc (.cells #[.int .i64 0, .int .i64 0, .int .i64 0, .int .i64 0, .int .i64 0] 81) = W2 at *
  have HSW : Hid (Below W2.heap.size W2 W2.drew) := Lib.hid (Below.refl _ _).drew
  refine wp_region_hl 5 (fun X => Below W2.heap.size W2 X) (by kernel_rfl) rfl rfl (by kernel_rfl) ?_
  refine hl_take (v := ?v1) 1 rfl (by kernel_rfl) (fun _ _ _ h => h) (Or.inl ⟨by rfl, ?hy1⟩) HSW.out ?rest1
  case hy1 =>
    intro X hSw
    have hk := jb_keep HX1.out hSw
    have q0 := cell_of_row X _ 0 _ _ _ hk
    have q1 := cell_of_row X _ 1 _ _ _ hk
    have q2 := cell_of_row X _ 2 _ _ _ hk
    have q3 := cell_of_row X _ 3 _ _ _ hk
    have q4 := cell_of_row X _ 4 _ _ _ hk
    clear hk
    go_simp <;> with_reducible rfl
  try simp only [Act.put, List.setIfInBounds_toArray, List.set_cons_zero, List.set_cons_succ]
  refine hl_one 0 rfl (by kernel_rfl) (fun K hK => ?_)
  go_simp
  refine Calls.mono (HONE.out _) ?_
  rintro e w5 ⟨rfl, hb5⟩
  refine hK.out _ _ (HSW.out.trans (hb5.mono HSW.out.size)) ?_
  have HS5 := Lib.hid (HSW.out.trans (hb5.mono HSW.out.size))
  clear hK hb5
  try simp only [Act.put, List.setIfInBounds_toArray, List.set_cons_zero, List.set_cons_succ]
  refine hl_one 2 rfl (by kernel_rfl) (fun K hK => ?_)
  go_simp
  refine Calls.mono (l05Behind_any o a HO1.out HA.out _) ?_
  rintro e w6 ⟨rfl, hb6⟩
  refine hK.out _ _ (HS5.out.trans (hb6.mono HS5.out.size)) ?_
  have HS6 := Lib.hid (HS5.out.trans (hb6.mono HS5.out.size))
  clear hK hb6
  try simp only [Act.put, List.setIfInBounds_toArray, List.set_cons_zero, List.set_cons_succ]
  refine hl_one 3 rfl (by kernel_rfl) (fun K hK => ?_)
  go_simp
  refine Calls.mono (HONE.out _) ?_
  rintro e w7 ⟨rfl, hb7⟩
  refine hK.out _ _ (HS6.out.trans (hb7.mono HS6.out.size)) ?_
  have HS7 := Lib.hid (HS6.out.trans (hb7.mono HS6.out.size))
  clear hK hb7
  try simp only [Act.put, List.setIfInBounds_toArray, List.set_cons_zero, List.set_cons_succ]
  refine hl_one 4 rfl (by kernel_rfl) (fun K hK => ?_)
  go_simp
  refine Calls.mono (l05Behind_any (beh o a) o (beh_ok HO1.out HA.out) HO1.out _) ?_
  rintro e w8 ⟨rfl, hb8⟩
  refine hK.out _ _ (HS7.out.trans (hb8.mono HS7.out.size)) ?_
  have HS8 := Lib.hid (HS7.out.trans (hb8.mono HS7.out.size))
  clear hK hb8
  try simp only [Act.put, List.setIfInBounds_toArray, List.set_cons_zero, List.set_cons_succ]
  have k2 := jb_keep HX2.out HS8.out
  obtain ⟨⟨c0, c1, c2, c3, c4⟩, ⟨f0, f1, f2, f3, f4⟩, -⟩ := sm_cells k2
  have HB8 := Lib.hid (HB.out.trans (HS8.out.mono HB.out.size))
  clear k2 HO1 HA HX1 HX2 HSW HS7 HS6 HS5 HONE
  refine hl_done (by kernel_rfl) ?_
  go_simp
  go_wp2
  refine bodyPost_ret (v := smV (beh (beh o a) o)) (by simp [results, Tryz.results52, go_sem, c0, c1, c2, c3, c4]) rfl ⟨by rw [HR.out], ?_⟩
  exact sm_set5 HB8.out (w.heap.size + 1) (by omega) _
end Go.Proofs.YtppgknjpbfopjaaGreatDoor
