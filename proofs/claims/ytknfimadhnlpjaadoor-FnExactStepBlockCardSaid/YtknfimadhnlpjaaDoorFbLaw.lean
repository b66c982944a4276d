/- StepBlock of impl and of spec; the exact laws of function blocks. -/
import Derived.Test.YtknfimadhnlpjaaDoorFbSpec
namespace Go.Proofs.YtknfimadhnlpjaaDoor
open Go.ChangeShapes Go.WideShapes Go.ChangeAt Go.RowKit
/-- What StepBlock answers. -/
def stepR (k : Int) (o : Bool) (s c : Int) (a b : Bool) (n now : Int) : (Int × Bool × Int × Int) × Bool × Int :=
  if fbOKB k o s c = true then (if (inI32 n && fbIn now 0 2147483647) = true then ((stepV k o s c a b n now).1, (stepV k o s c a b n now).2, 0) else ((0, false, 0, 0), false, 4)) else ((0, false, 0, 0), false, 1)
def stepE (r : (Int × Bool × Int × Int) × Bool × Int) : Value := .tuple #[tupE r.1, .bool r.2.1, .int .i64 r.2.2]
theorem fb_b5 {w w1 : World} {b : Nat} {x0 x1 x2 x3 : Value} (h : Below w.heap.size w w1) (g : w.heap.size ≤ b) : Below w.heap.size w ((((w1.setCell ⟨b, 0, none⟩ x0).setCell ⟨b, 1, none⟩ x1).setCell ⟨b, 2, none⟩ x2).setCell ⟨b, 3, none⟩ x3) := fb_b4 h g
theorem stepR_ok {k : Int} {o : Bool} {s c : Int} {a b : Bool} {n now : Int} (h : fbOKB k o s c = true) (h1 : inI32 n = true) (h2 : fbIn now 0 2147483647 = true) : stepR k o s c a b n now = ((stepV k o s c a b n now).1, (stepV k o s c a b n now).2, 0) := by
  unfold stepR
  rw [if_pos h, if_pos (by rw [h1, h2]; rfl)]
theorem stepR_bad {k : Int} {o : Bool} {s c : Int} {a b : Bool} {n now : Int} (h : fbOKB k o s c = false) : stepR k o s c a b n now = ((0, false, 0, 0), false, 1) := by
  unfold stepR
  rw [if_neg (by rw [h]; simp)]
theorem stepR_out {k : Int} {o : Bool} {s c : Int} {a b : Bool} {n now : Int} (h : fbOKB k o s c = true) (h1 : (inI32 n && fbIn now 0 2147483647) = false) : stepR k o s c a b n now = ((0, false, 0, 0), false, 4) := by
  unfold stepR
  rw [if_pos h, if_neg (by rw [h1]; simp)]
set_option maxHeartbeats 1000000 in
theorem stepBlock_any (k : Int) (o : Bool) (s c : Int) (a b : Bool) (n now : Int) (w : World) (ht : FbTab w) :
    Calls Tryd.prog 13 #[fbE k o s c, .bool a, .bool b, .int .i64 n, .int .i64 now] w fun e w' => e = .returned (stepE (stepR k o s c a b n now)) ∧ Below w.heap.size w w' := by
  cases hk : fbOKB k o s c
  · rw [stepR_bad hk]
    have HK := Lib.hid hk
    have Hb := Lib.hid (fb_b2 (fbO k o s c) (fbO 0 false 0 0) w)
    have Ht := Lib.hid (ht.below Hb.out (Nat.le_refl _))
    clear hk ht
    go_enter Tryd.func13, Tryd.ntmps13
    go_wp2_with fail
    refine (fbOK_is HK.out _ Ht.out).mono ?_
    rintro e w1 ⟨rfl, hb1⟩
    have Hb1 := Lib.hid (Hb.out.trans (hb1.mono Hb.out.size))
    obtain ⟨k1, k2, hz1⟩ := fb_keep2 hb1
    obtain ⟨d0, d1, d2, d3⟩ := fb_cells k2
    obtain ⟨q0, q1, q2, q3⟩ := fb_blk k2
    clear hb1 k1 k2
    go_wp2
    refine bodyPost_ret (v := .tuple #[fbE 0 false 0 0, .bool false, .int .i64 1]) (by simp [results, Tryd.results13, go_sem, d0, d1, d2, d3]) rfl ⟨rfl, ?_⟩
    exact fb_b4 Hb1.out (by omega)
  · cases hr : (inI32 n && fbIn now 0 2147483647)
    · rw [stepR_out hk hr]
      have HK := Lib.hid hk
      have Hb := Lib.hid (fb_b2 (fbO k o s c) (fbO 0 false 0 0) w)
      have Ht := Lib.hid (ht.below Hb.out (Nat.le_refl _))
      clear hk ht
      cases h1 : inI32 n
      · have H1 := Lib.hid h1
        clear hr h1
        go_enter Tryd.func13, Tryd.ntmps13
        go_wp2_with fail
        refine (fbOK_is HK.out _ Ht.out).mono ?_
        rintro e w1 ⟨rfl, hb1⟩
        have Hb1 := Lib.hid (Hb.out.trans (hb1.mono Hb.out.size))
        obtain ⟨k1, k2, hz1⟩ := fb_keep2 hb1
        obtain ⟨d0, d1, d2, d3⟩ := fb_cells k2
        obtain ⟨q0, q1, q2, q3⟩ := fb_blk k2
        clear hb1 k1 k2
        go_wp2_with (go_at_call 27; refine (fb_isValue_is H1.out _).mono ?_; rintro e w' ⟨rfl, rfl⟩)
        refine bodyPost_ret (v := .tuple #[fbE 0 false 0 0, .bool false, .int .i64 4]) (by simp [results, Tryd.results13, go_sem, d0, d1, d2, d3]) rfl ⟨rfl, ?_⟩
        exact fb_b4 Hb1.out (by omega)
      · have H1 := Lib.hid h1
        have H2 : Hid (fbIn now 0 2147483647 = false) := Lib.hid (by rw [h1] at hr; simpa using hr)
        clear hr h1
        go_enter Tryd.func13, Tryd.ntmps13
        go_wp2_with fail
        refine (fbOK_is HK.out _ Ht.out).mono ?_
        rintro e w1 ⟨rfl, hb1⟩
        have Hb1 := Lib.hid (Hb.out.trans (hb1.mono Hb.out.size))
        obtain ⟨k1, k2, hz1⟩ := fb_keep2 hb1
        obtain ⟨d0, d1, d2, d3⟩ := fb_cells k2
        obtain ⟨q0, q1, q2, q3⟩ := fb_blk k2
        clear hb1 k1 k2
        go_wp2_with first | (go_at_call 27; refine (fb_isValue_is H1.out _).mono ?_; rintro e w' ⟨rfl, rfl⟩) | (go_at_call 28; refine (isTime_is H2.out _).mono ?_; rintro e w' ⟨rfl, rfl⟩)
        refine bodyPost_ret (v := .tuple #[fbE 0 false 0 0, .bool false, .int .i64 4]) (by simp [results, Tryd.results13, go_sem, d0, d1, d2, d3]) rfl ⟨rfl, ?_⟩
        exact fb_b4 Hb1.out (by omega)
    · simp only [Bool.and_eq_true] at hr
      rw [stepR_ok hk hr.1 hr.2]
      have hk' := hk
      rcases fb_kinds hk with ⟨rfl, hs, hc⟩ | ⟨rfl, rfl, hc⟩ | ⟨rfl, rfl, rfl⟩ | ⟨rfl, rfl, rfl⟩
      · exact stepBlock_timer o a b s c n now hk' hr.1 hr.2 w ht
      · exact stepBlock_counter o a b c n now hk' hr.1 hr.2 w ht
      · exact stepBlock_edge o a b n now hr.1 hr.2 w ht
      · exact stepBlock_latch o a b n now hr.1 hr.2 w ht
theorem fb_l01Int (n : Int) (w : World) : Calls Tryd.prog 37 #[.int .i64 n] w fun e w' => e = .returned (.bool (inI32 n)) ∧ w = w' := by
  go_enter Tryd.func37, Tryd.ntmps37
  go_wp2_with (go_at_call 36; refine (fbIn_any _ _ _ _).mono ?_; rintro e w' ⟨rfl, rfl⟩)
  go_ret
  exact ⟨rfl, rfl⟩
theorem fb_l01Int_is {n : Int} {b : Bool} (h : inI32 n = b) (w : World) : Calls Tryd.prog 37 #[.int .i64 n] w fun e w' => e = .returned (.bool b) ∧ w = w' := h ▸ fb_l01Int n w
theorem fbIn_is {n a c : Int} {b : Bool} (h : fbIn n a c = b) (w : World) : Calls Tryd.prog 36 #[.int .i64 n, .int .i64 a, .int .i64 c] w fun e w' => e = .returned (.bool b) ∧ w = w' := h ▸ fbIn_any n a c w
set_option maxHeartbeats 1000000 in
theorem specStepBlock_any (k : Int) (o : Bool) (s c : Int) (a b : Bool) (n now : Int) (w : World) :
    Calls Tryd.prog 23 #[fbE k o s c, .bool a, .bool b, .int .i64 n, .int .i64 now] w fun e w' => e = .returned (stepE (stepR k o s c a b n now)) ∧ Below w.heap.size w w' := by
  cases hk : fbOKB k o s c
  · rw [stepR_bad hk]
    have HK := Lib.hid hk
    have Hb := Lib.hid (fb_b2 (fbO k o s c) (fbO 0 false 0 0) w)
    clear hk
    go_enter Tryd.func23, Tryd.ntmps23
    go_wp2_with fail
    refine (specFbOK_is HK.out _).mono ?_
    rintro e w1 ⟨rfl, hb1⟩
    have Hb1 := Lib.hid (Hb.out.trans (hb1.mono Hb.out.size))
    obtain ⟨k1, k2, hz1⟩ := fb_keep2 hb1
    obtain ⟨d0, d1, d2, d3⟩ := fb_cells k2
    obtain ⟨q0, q1, q2, q3⟩ := fb_blk k2
    clear hb1 k1 k2
    go_wp2
    refine bodyPost_ret (v := .tuple #[fbE 0 false 0 0, .bool false, .int .i64 1]) (by simp [results, Tryd.results23, go_sem, d0, d1, d2, d3]) rfl ⟨rfl, ?_⟩
    exact fb_b4 Hb1.out (by omega)
  · cases hr : (inI32 n && fbIn now 0 2147483647)
    · rw [stepR_out hk hr]
      have HK := Lib.hid hk
      have Hb := Lib.hid (fb_b2 (fbO k o s c) (fbO 0 false 0 0) w)
      clear hk
      cases h1 : inI32 n
      · have H1 := Lib.hid h1
        clear hr h1
        go_enter Tryd.func23, Tryd.ntmps23
        go_wp2_with fail
        refine (specFbOK_is HK.out _).mono ?_
        rintro e w1 ⟨rfl, hb1⟩
        have Hb1 := Lib.hid (Hb.out.trans (hb1.mono Hb.out.size))
        obtain ⟨k1, k2, hz1⟩ := fb_keep2 hb1
        obtain ⟨d0, d1, d2, d3⟩ := fb_cells k2
        obtain ⟨q0, q1, q2, q3⟩ := fb_blk k2
        clear hb1 k1 k2
        go_wp2_with (go_at_call 37; refine (fb_l01Int_is H1.out _).mono ?_; rintro e w' ⟨rfl, rfl⟩)
        refine bodyPost_ret (v := .tuple #[fbE 0 false 0 0, .bool false, .int .i64 4]) (by simp [results, Tryd.results23, go_sem, d0, d1, d2, d3]) rfl ⟨rfl, ?_⟩
        exact fb_b4 Hb1.out (by omega)
      · have H1 := Lib.hid h1
        have H2 : Hid (fbIn now 0 2147483647 = false) := Lib.hid (by rw [h1] at hr; simpa using hr)
        clear hr h1
        go_enter Tryd.func23, Tryd.ntmps23
        go_wp2_with fail
        refine (specFbOK_is HK.out _).mono ?_
        rintro e w1 ⟨rfl, hb1⟩
        have Hb1 := Lib.hid (Hb.out.trans (hb1.mono Hb.out.size))
        obtain ⟨k1, k2, hz1⟩ := fb_keep2 hb1
        obtain ⟨d0, d1, d2, d3⟩ := fb_cells k2
        obtain ⟨q0, q1, q2, q3⟩ := fb_blk k2
        clear hb1 k1 k2
        go_wp2_with first | (go_at_call 37; refine (fb_l01Int_is H1.out _).mono ?_; rintro e w' ⟨rfl, rfl⟩) | (go_at_call 36; refine (fbIn_is H2.out _).mono ?_; rintro e w' ⟨rfl, rfl⟩)
        refine bodyPost_ret (v := .tuple #[fbE 0 false 0 0, .bool false, .int .i64 4]) (by simp [results, Tryd.results23, go_sem, d0, d1, d2, d3]) rfl ⟨rfl, ?_⟩
        exact fb_b4 Hb1.out (by omega)
    · simp only [Bool.and_eq_true] at hr
      rw [stepR_ok hk hr.1 hr.2]
      have HC := Lib.hid (fun w => l03Step_any k o s c a b n now hk (inI32_bd hr.1) (of_decide_eq_true hr.2) w)
      have HK := Lib.hid hk
      have H1 := Lib.hid hr.1
      have H2 := Lib.hid hr.2
      have Hb := Lib.hid (fb_b2 (fbO k o s c) (fbO 0 false 0 0) w)
      clear hk hr
      generalize stepV k o s c a b n now = V at *
      obtain ⟨⟨k', o', s', c'⟩, q⟩ := V
      go_enter Tryd.func23, Tryd.ntmps23
      go_wp2_with fail
      refine (specFbOK_is HK.out _).mono ?_
      rintro e w1 ⟨rfl, hb1⟩
      have Hb1 := Lib.hid (Hb.out.trans (hb1.mono Hb.out.size))
      obtain ⟨k1, k2, hz1⟩ := fb_keep2 hb1
      obtain ⟨c0, c1, c2, c3⟩ := fb_cells k1
      have K2 := Lib.hid k2
      clear hb1 k1 k2
      go_wp2_with first | (go_at_call 37; refine (fb_l01Int_is H1.out _).mono ?_; rintro e w' ⟨rfl, rfl⟩) | (go_at_call 36; refine (fbIn_is H2.out _).mono ?_; rintro e w' ⟨rfl, rfl⟩)
      refine (HC.out _).mono ?_
      rintro e w2 ⟨rfl, hb2⟩
      have k2 := (hb2.block (w.heap.size + 1) hz1).trans K2.out
      have hz2 := hb2.size
      have Hb2 := Lib.hid (Hb1.out.trans (hb2.mono Hb1.out.size))
      obtain ⟨d0, d1, d2, d3⟩ := fb_cells k2
      obtain ⟨q0, q1, q2, q3⟩ := fb_blk k2
      have hz3 : w.heap.size + 1 < w2.heap.size := by omega
      clear hb2 k2 c0 c1 c2 c3 hz1 hz2
      go_wp2
      refine bodyPost_ret (v := .tuple #[fbE k' o' s' c', .bool q, .int .i64 0]) (by simp [results, Tryd.results23, go_sem, d0, d1, d2, d3, hz3]) rfl ⟨rfl, ?_⟩
      have h4 := fb_b4 (x0 := .int .i64 k') (x1 := .bool o') (x2 := .int .i64 s') (x3 := .int .i64 c') Hb2.out (Nat.le_succ w.heap.size)
      exact h4.alloc h4.size _
theorem eqFb_same (k : Int) (o : Bool) (s c : Int) (w : World) : Calls Tryd.prog 24 #[fbE k o s c, fbE k o s c] w fun e w' => e = .returned (.bool true) ∧ Below w.heap.size w w' := by
  go_enter Tryd.func24, Tryd.ntmps24
  go_wp2
  go_ret
  exact ⟨rfl, fb_b2 _ _ w⟩
abbrev lfO (k : Int) (o : Bool) (s c : Int) : Obj := .cells #[.int .i64 k, .bool o, .int .i64 s, .int .i64 c] 38
theorem cLawFb : Tryd.prog.cellsOf 38 = 4 := by kernel_rfl
theorem four_of {α : Type} {l : List α} (h : l.length = 4) : ∃ x y z u, l = [x, y, z, u] := by
  match l, h with
  | [x, y, z, u], _ => exact ⟨x, y, z, u, rfl⟩
theorem came_struct4 {P : Program} {W : World} {t : TypeId} {cs : Array Value} {f0 f1 f2 f3 : Field} (ht : P.underlying t = some (.struct #[f0, f1, f2, f3])) (hc : P.cellsOf t = 4)
    (o : f0.offset = 0 ∧ f1.offset = 1 ∧ f2.offset = 2 ∧ f3.offset = 3) (g : P.cellsOf f0.type = 1 ∧ P.cellsOf f1.type = 1 ∧ P.cellsOf f2.type = 1 ∧ P.cellsOf f3.type = 1) (h : Came P W t cs.toList) :
    ∃ x y z u, cs = #[x, y, z, u] ∧ Came P W f0.type [x] ∧ Came P W f1.type [y] ∧ Came P W f2.type [z] ∧ Came P W f3.type [u] := by
  obtain ⟨hl, hf⟩ := came_struct ht h
  obtain ⟨l⟩ := cs
  obtain ⟨x, y, z, u, rfl⟩ := four_of (hl.trans hc)
  have h0 := hf 0 f0 rfl
  have h1 := hf 1 f1 rfl
  have h2 := hf 2 f2 rfl
  have h3 := hf 3 f3 rfl
  rw [o.1, g.1] at h0
  rw [o.2.1, g.2.1] at h1
  rw [o.2.2.1, g.2.2.1] at h2
  rw [o.2.2.2, g.2.2.2] at h3
  exact ⟨x, y, z, u, rfl, h0, h1, h2, h3⟩
theorem came_fb {W : World} {cs : Array Value} (h : Came Tryd.prog W 38 cs.toList) : ∃ (k : Int) (o : Bool) (s c : Int), cs = #[.int .i64 k, .bool o, .int .i64 s, .int .i64 c] ∧ (Lit.int .i64 k).wf = true ∧ (Lit.int .i64 s).wf = true ∧ (Lit.int .i64 c).wf = true := by
  obtain ⟨x, y, z, u, rfl, h0, h1, h2, h3⟩ := came_struct4 Tryd.underlying38 cLawFb ⟨rfl, rfl, rfl, rfl⟩ ⟨cFbI, cFbB, cFbI, cFbI⟩ h
  obtain ⟨k, e0, w0⟩ := came_int Tryd.underlying3 h0
  obtain ⟨o, e1⟩ := came_bool Tryd.underlying4 h1
  obtain ⟨s, e2, w2⟩ := came_int Tryd.underlying3 h2
  obtain ⟨c, e3, w3⟩ := came_int Tryd.underlying3 h3
  simp only [List.cons.injEq, and_true] at e0 e1 e2 e3
  subst e0 e1 e2 e3
  exact ⟨k, o, s, c, rfl, w0, w2, w3⟩
theorem lf_b0 (k : Int) (o : Bool) (s c : Int) (w : World) : Below w.heap.size w (w.alloc (lfO k o s c)) := (Below.refl w.heap.size w).alloc (Nat.le_refl _) _
theorem FnExactFbOK_walk (k : Int) (o : Bool) (s c : Int) (w : World) (ht : FbTab w) : Calls Tryd.prog 6 #[fbE k o s c] w fun e w' => e = .returned (.bool true) ∧ Below w.heap.size w w' := by
  have Hb := Lib.hid (lf_b0 k o s c w)
  have Ht := Lib.hid ht
  clear ht
  go_enter Tryd.func6, Tryd.ntmps6
  go_wp2_with fail
  refine (toFb_any _ _ _ _ _).mono ?_
  rintro e w1 ⟨rfl, hb1⟩
  have K1 := Lib.hid (fb_keep hb1)
  have Hb1 := Lib.hid (Hb.out.trans (hb1.mono Hb.out.size))
  have hz1 := hb1.size
  clear hb1
  go_wp2_with fail
  refine (specFbOK_any _ _ _ _ _).mono ?_
  rintro e w2 ⟨rfl, hb2⟩
  have K2 := Lib.hid ((hb2.block w.heap.size (by simp at hz1; omega)).trans K1.out)
  have Hb2 := Lib.hid (Hb1.out.trans (hb2.mono Hb1.out.size))
  obtain ⟨c0, c1, c2, c3⟩ := fb_cells K2.out
  clear hb2
  go_wp2_with fail
  refine (toFb_any _ _ _ _ _).mono ?_
  rintro e w3 ⟨rfl, hb3⟩
  have Hb3 := Lib.hid (Hb2.out.trans (hb3.mono Hb2.out.size))
  clear hb3 c0 c1 c2 c3
  go_wp2_with fail
  refine (fbOK_any _ _ _ _ _ (Ht.out.below Hb3.out (Nat.le_refl _))).mono ?_
  rintro e w4 ⟨rfl, hb4⟩
  have Hb4 := Lib.hid (Hb3.out.trans (hb4.mono Hb3.out.size))
  clear hb4
  go_wp2
  go_ret
  exact ⟨rfl, Hb4.out⟩
theorem FnExactFbOK_came (cs : Array Value) (W : World) (h : Came Tryd.prog W 38 cs.toList) (ht : FbTab W) : Calls Tryd.prog 6 #[.agg cs] W fun e w' => e = .returned (.bool true) ∧ Below W.heap.size W w' := by
  obtain ⟨k, o, s, c, e, _, _, _⟩ := came_fb h
  subst e
  exact FnExactFbOK_walk k o s c W ht
theorem FnExactValueOf_walk (k : Int) (o : Bool) (s c : Int) (w : World) (ht : FbTab w) : Calls Tryd.prog 9 #[fbE k o s c] w fun e w' => e = .returned (.bool true) ∧ Below w.heap.size w w' := by
  have Hb := Lib.hid (lf_b0 k o s c w)
  have Ht := Lib.hid ht
  clear ht
  go_enter Tryd.func9, Tryd.ntmps9
  go_wp2_with fail
  refine (toFb_any _ _ _ _ _).mono ?_
  rintro e w1 ⟨rfl, hb1⟩
  have K1 := Lib.hid (fb_keep hb1)
  have Hb1 := Lib.hid (Hb.out.trans (hb1.mono Hb.out.size))
  have hz1 := hb1.size
  clear hb1
  go_wp2_with fail
  refine (specValueOf_any _ _ _ _ _).mono ?_
  rintro e w2 ⟨rfl, hb2⟩
  have K2 := Lib.hid ((hb2.block w.heap.size (by simp at hz1; omega)).trans K1.out)
  have Hb2 := Lib.hid (Hb1.out.trans (hb2.mono Hb1.out.size))
  obtain ⟨c0, c1, c2, c3⟩ := fb_cells K2.out
  clear hb2
  go_wp2_with fail
  refine (toFb_any _ _ _ _ _).mono ?_
  rintro e w3 ⟨rfl, hb3⟩
  have Hb3 := Lib.hid (Hb2.out.trans (hb3.mono Hb2.out.size))
  clear hb3 c0 c1 c2 c3
  go_wp2_with fail
  refine (valueOf_any _ _ _ _ _ (Ht.out.below Hb3.out (Nat.le_refl _))).mono ?_
  rintro e w4 ⟨rfl, hb4⟩
  have Hb4 := Lib.hid (Hb3.out.trans (hb4.mono Hb3.out.size))
  clear hb4
  go_wp2
  go_ret
  exact ⟨rfl, Hb4.out⟩
theorem FnExactValueOf_came (cs : Array Value) (W : World) (h : Came Tryd.prog W 38 cs.toList) (ht : FbTab W) : Calls Tryd.prog 9 #[.agg cs] W fun e w' => e = .returned (.bool true) ∧ Below W.heap.size W w' := by
  obtain ⟨k, o, s, c, e, _, _, _⟩ := came_fb h
  subst e
  exact FnExactValueOf_walk k o s c W ht
theorem FnExactTakesOf_came (n : Int) (W : World) (_ : (Lit.int .i64 n).wf = true) (ht : FbTab W) : Calls Tryd.prog 7 #[.int .i64 n] W fun e w' => e = .returned (.bool true) ∧ Below W.heap.size W w' := by
  have Ht := Lib.hid ht
  clear ht
  go_enter Tryd.func7, Tryd.ntmps7
  go_wp2_with first | (go_at_call 20; refine (specTakesOf_any _ _).mono ?_; rintro e w1 ⟨rfl, hb1⟩; have Hb1 := Lib.hid hb1; clear hb1) | (go_at_call 19; refine (takesOf_any _ _ (Ht.out.below Hb1.out (Nat.le_refl _))).mono ?_; rintro e w' ⟨rfl, rfl⟩)
  go_ret
  exact ⟨rfl, Hb1.out⟩
set_option maxHeartbeats 1000000 in
theorem FnExactStepBlock_walk (k : Int) (o : Bool) (s c : Int) (a b : Bool) (n now : Int) (w : World) (ht : FbTab w) : Calls Tryd.prog 8 #[fbE k o s c, .bool a, .bool b, .int .i64 n, .int .i64 now] w fun e w' => e = .returned (.bool true) ∧ Below w.heap.size w w' := by
  have Hb := Lib.hid (lf_b0 k o s c w)
  have Ht := Lib.hid ht
  have HI := Lib.hid (fun w ht => stepBlock_any k o s c a b n now w ht)
  have HS := Lib.hid (fun w => specStepBlock_any k o s c a b n now w)
  clear ht
  generalize stepR k o s c a b n now = V at *
  obtain ⟨⟨k', o', s', c'⟩, q, r⟩ := V
  have HI : Hid (∀ w, FbTab w → Calls Tryd.prog 13 #[fbE k o s c, .bool a, .bool b, .int .i64 n, .int .i64 now] w fun e w' => e = .returned (.tuple #[fbE k' o' s' c', .bool q, .int .i64 r]) ∧ Below w.heap.size w w') := Lib.hid HI.out
  have HS : Hid (∀ w, Calls Tryd.prog 23 #[fbE k o s c, .bool a, .bool b, .int .i64 n, .int .i64 now] w fun e w' => e = .returned (.tuple #[fbE k' o' s' c', .bool q, .int .i64 r]) ∧ Below w.heap.size w w') := Lib.hid HS.out
  go_enter Tryd.func8, Tryd.ntmps8
  go_wp2_with fail
  refine (toFb_any _ _ _ _ _).mono ?_
  rintro e w1 ⟨rfl, hb1⟩
  have K1 := Lib.hid (fb_keep hb1)
  have Hb1 := Lib.hid (Hb.out.trans (hb1.mono Hb.out.size))
  have hz1 := hb1.size
  clear hb1
  go_wp2_with fail
  refine (HS.out _).mono ?_
  rintro e w2 ⟨rfl, hb2⟩
  have K2 := Lib.hid ((hb2.block w.heap.size (by simp at hz1; omega)).trans K1.out)
  have Hb2 := Lib.hid (Hb1.out.trans (hb2.mono Hb1.out.size))
  have hz2 : w.heap.size < w2.heap.size := by have := hb2.size; simp at hz1; omega
  obtain ⟨c0, c1, c2, c3⟩ := fb_cells K2.out
  clear hb2
  go_wp2_with fail
  refine (toFb_any _ _ _ _ _).mono ?_
  rintro e w3 ⟨rfl, hb3⟩
  have Hb3 := Lib.hid (Hb2.out.trans ((Below.refl w2.heap.size w2).alloc (Nat.le_refl _) (fbO k' o' s' c') |>.trans (hb3.mono (by simp)) |>.mono Hb2.out.size))
  have K3 := Lib.hid ((hb3.block w2.heap.size (by simp)).trans (heap_alloc_new w2 _))
  have hz3 := hb3.size
  clear hb3 c0 c1 c2 c3
  go_wp2_with fail
  refine (HI.out _ (Ht.out.below Hb3.out (Nat.le_refl _))).mono ?_
  rintro e w4 ⟨rfl, hb4⟩
  have K4 := Lib.hid ((hb4.block w2.heap.size (by simp at hz3; omega)).trans K3.out)
  have Hb4 := Lib.hid (Hb3.out.trans (hb4.mono Hb3.out.size))
  have hz4 : w2.heap.size < w4.heap.size := by have := hb4.size; simp at hz3; omega
  obtain ⟨c0, c1, c2, c3⟩ := fb_cells K4.out
  clear hb4
  go_wp2_with fail
  refine (eqFb_same _ _ _ _ _).mono ?_
  rintro e w5 ⟨rfl, hb5⟩
  have Hb5 := Lib.hid (Hb4.out.trans ((Below.refl w4.heap.size w4).alloc (Nat.le_refl _) (fbO k' o' s' c') |>.trans (hb5.mono (by simp)) |>.mono Hb4.out.size))
  clear hb5 c0 c1 c2 c3
  go_wp2
  go_ret
  exact ⟨rfl, Hb5.out⟩
theorem FnExactStepBlock_came (cs : Array Value) (a b : Bool) (n now : Int) (W : World) (h : Came Tryd.prog W 38 cs.toList) (_ : (Lit.int .i64 n).wf = true) (_ : (Lit.int .i64 now).wf = true) (ht : FbTab W) : Calls Tryd.prog 8 #[.agg cs, .bool a, .bool b, .int .i64 n, .int .i64 now] W fun e w' => e = .returned (.bool true) ∧ Below W.heap.size W w' := by
  obtain ⟨k, o, s, c, e, _, _, _⟩ := came_fb h
  subst e
  exact FnExactStepBlock_walk k o s c a b n now W ht
end Go.Proofs.YtknfimadhnlpjaaDoor
