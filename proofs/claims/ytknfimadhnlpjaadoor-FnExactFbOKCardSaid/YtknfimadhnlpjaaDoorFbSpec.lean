/- One step of a function block, as spec has it. -/
import Derived.Test.YtknfimadhnlpjaaDoorFbState
namespace Go.Proofs.YtknfimadhnlpjaaDoor
open Go.ChangeShapes Go.WideShapes Go.ChangeAt Go.RowKit
theorem fb_b2 (O O' : Obj) (w : World) : Below w.heap.size w ((w.alloc O).alloc O') := ((Below.refl w.heap.size w).alloc (Nat.le_refl _) _).alloc (by simp) _
theorem fb_rv {a b : Value} {c d : Bool} (h : a = b) (g : c = d) : Ending.returned (.tuple #[a, .bool c]) = .returned (.tuple #[b, .bool d]) := by rw [h, g]
theorem fb_ev {k s s' c c' : Int} {o : Bool} (h : s = s') (g : c = c') : fbE k o s c = fbE k o s' c' := by rw [h, g]
set_option maxHeartbeats 1000000 in
theorem l03Timer_any (o a : Bool) (s c n now : Int) (hs : 0 ≤ s ∧ s ≤ 2147483647) (hn : -2147483648 ≤ n ∧ n ≤ 2147483647) (hw : 0 ≤ now ∧ now ≤ 2147483647) (w : World) :
    Calls Tryd.prog 45 #[fbE 1 o s c, .bool a, .int .i64 n, .int .i64 now] w fun e w' => e = .returned (.tuple #[fbE 1 a (tmS o a s now) (tmC o a s n now), .bool (tmQ o a s n now)]) ∧ Below w.heap.size w w' := by
  cases a
  · go_enter Tryd.func45, Tryd.ntmps45
    go_wp2
    refine bodyPost_ret (v := .tuple #[fbE 1 false 0 0, .bool false]) (by simp [results, Tryd.results45, go_sem]) rfl ⟨rfl, fb_b2 _ _ w⟩
  · cases o
    all_goals
      go_enter Tryd.func45, Tryd.ntmps45
      go_wp2
    all_goals
      go_region
      go_wp2
      refine bodyPost_ret (v := .tuple #[fbE 1 true (tmS _ true s now) (tmC _ true s n now), .bool (tmQ _ true s n now)]) ?_ rfl ⟨rfl, ?_⟩
      · simp [results, Tryd.results45, go_sem, tmS, tmC, tmQ]
        try omega
      · exact fb_dn (fb_b2 _ _ w) 1
set_option maxHeartbeats 1000000 in
theorem l03Counter_any (o a b : Bool) (c n : Int) (hc : 0 ≤ c ∧ c ≤ 2147483647) (hn : -2147483648 ≤ n ∧ n ≤ 2147483647) (w : World) :
    Calls Tryd.prog 46 #[fbE 2 o 0 c, .bool a, .bool b, .int .i64 n] w fun e w' => e = .returned (.tuple #[fbE 2 a 0 (ctC o a b c), .bool (ctQ o a b c n)]) ∧ Below w.heap.size w w' := by
  cases a <;> cases o <;> cases b
  all_goals
    go_enter Tryd.func46, Tryd.ntmps46
    go_wp2
  all_goals
    go_region
    go_wp2
    refine bodyPost_ret (v := .tuple #[fbE 2 _ 0 (ctC _ _ _ c), .bool (ctQ _ _ _ c n)]) ?_ rfl ⟨rfl, ?_⟩
    · simp [results, Tryd.results46, go_sem, ctC, ctQ]
      try omega
    · exact fb_dn (fb_b2 _ _ w) 1
/-- What a step of a valid block gives. -/
def stepV (k : Int) (o : Bool) (s c : Int) (a b : Bool) (n now : Int) : (Int × Bool × Int × Int) × Bool :=
  if k = 1 then ((1, a, tmS o a s now, tmC o a s n now), tmQ o a s n now) else if k = 2 then ((2, a, 0, ctC o a b c), ctQ o a b c n)
  else if k = 3 then ((3, a, 0, 0), a && !o) else ((4, laF o a b, 0, 0), laF o a b)
abbrev tupE (f : Int × Bool × Int × Int) : Value := fbE f.1 f.2.1 f.2.2.1 f.2.2.2
theorem fb_kinds {k : Int} {o : Bool} {s c : Int} (h : fbOKB k o s c = true) : (k = 1 ∧ (0 ≤ s ∧ s ≤ 2147483647) ∧ (0 ≤ c ∧ c ≤ 2147483647)) ∨ (k = 2 ∧ s = 0 ∧ (0 ≤ c ∧ c ≤ 2147483647)) ∨ (k = 3 ∧ s = 0 ∧ c = 0) ∨ (k = 4 ∧ s = 0 ∧ c = 0) := by
  unfold fbOKB fbIn at h
  split at h
  · simp at h
    omega
  · split at h
    · simp at h
      omega
    · split at h
      · simp at h
        omega
      · cases h
set_option maxHeartbeats 1000000 in
theorem l03Step_any (k : Int) (o : Bool) (s c : Int) (a b : Bool) (n now : Int) (hv : fbOKB k o s c = true) (hn : -2147483648 ≤ n ∧ n ≤ 2147483647) (hw : 0 ≤ now ∧ now ≤ 2147483647) (w : World) :
    Calls Tryd.prog 38 #[fbE k o s c, .bool a, .bool b, .int .i64 n, .int .i64 now] w fun e w' => e = .returned (.tuple #[tupE (stepV k o s c a b n now).1, .bool (stepV k o s c a b n now).2]) ∧ Below w.heap.size w w' := by
  rcases fb_kinds hv with ⟨rfl, hs, hc⟩ | ⟨rfl, rfl, hc⟩ | ⟨rfl, rfl, rfl⟩ | ⟨rfl, rfl, rfl⟩
  · have HC := Lib.hid (l03Timer_any o a s c n now hs hn hw)
    have Hb := Lib.hid (fb_b2 (fbO 1 o s c) (fbO 0 false 0 0) w)
    clear hv
    go_enter Tryd.func38, Tryd.ntmps38
    go_wp2_with fail
    refine (HC.out _).mono ?_
    rintro e w1 ⟨rfl, hb1⟩
    have Hb1 := Lib.hid (Hb.out.trans (hb1.mono Hb.out.size))
    obtain ⟨k1, k2, hz1⟩ := fb_keep2 hb1
    obtain ⟨d0, d1, d2, d3⟩ := fb_cells k2
    obtain ⟨q0, q1, q2, q3⟩ := fb_blk k2
    clear hb1 k1 k2
    go_wp2
    refine bodyPost_ret (v := .tuple #[fbE 1 a (tmS o a s now) (tmC o a s n now), .bool (tmQ o a s n now)]) (by simp [results, Tryd.results38, go_sem, d0, d1, d2, d3]) rfl ⟨rfl, ?_⟩
    exact fb_b4 Hb1.out (by omega)
  · have HC := Lib.hid (l03Counter_any o a b c n hc hn)
    have Hb := Lib.hid (fb_b2 (fbO 2 o 0 c) (fbO 0 false 0 0) w)
    clear hv
    go_enter Tryd.func38, Tryd.ntmps38
    go_wp2_with fail
    refine (HC.out _).mono ?_
    rintro e w1 ⟨rfl, hb1⟩
    have Hb1 := Lib.hid (Hb.out.trans (hb1.mono Hb.out.size))
    obtain ⟨k1, k2, hz1⟩ := fb_keep2 hb1
    obtain ⟨d0, d1, d2, d3⟩ := fb_cells k2
    obtain ⟨q0, q1, q2, q3⟩ := fb_blk k2
    clear hb1 k1 k2
    go_wp2
    refine bodyPost_ret (v := .tuple #[fbE 2 a 0 (ctC o a b c), .bool (ctQ o a b c n)]) (by simp [results, Tryd.results38, go_sem, d0, d1, d2, d3]) rfl ⟨rfl, ?_⟩
    exact fb_b4 Hb1.out (by omega)
  · clear hv
    cases a <;> cases o
    all_goals
      go_enter Tryd.func38, Tryd.ntmps38
      go_wp2
      refine bodyPost_ret (v := .tuple #[fbE 3 _ 0 0, .bool _]) (by simp [results, Tryd.results38, go_sem]; exact ⟨rfl, rfl⟩) rfl ⟨rfl, ?_⟩
      exact fb_b2 _ _ w
  · clear hv
    cases a <;> cases o <;> cases b
    all_goals
      go_enter Tryd.func38, Tryd.ntmps38
      go_wp2
      go_region
      go_wp2
      refine bodyPost_ret (v := .tuple #[fbE 4 _ 0 0, .bool _]) (by simp [results, Tryd.results38, go_sem]; exact ⟨rfl, rfl⟩) rfl ⟨rfl, ?_⟩
      exact fb_dn (fb_b2 _ _ w) 1
end Go.Proofs.YtknfimadhnlpjaaDoor
