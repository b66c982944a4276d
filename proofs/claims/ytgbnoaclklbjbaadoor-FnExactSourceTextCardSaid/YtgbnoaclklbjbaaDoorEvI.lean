/- SourceOK of impl and of spec. (Written by tools/gen_evi.py.) -/
import Derived.Test.YtgbnoaclklbjbaaDoorEvP
namespace Go.Proofs.YtgbnoaclklbjbaaDoor
open Go.ChangeShapes Go.WideShapes Go.ChangeAt Go.RowKit
set_option linter.unusedVariables false
theorem tk_is {z : TT} {q : Bool} (h : tkB z = q) (w : World) : Calls Tryd.prog 35 #[tV z] w fun e w' => e = .returned (.bool q) ∧ Below w.heap.size w w' := h ▸ taskOK_any z w
theorem stk_is {z : TT} {q : Bool} (h : tkB z = q) (w : World) : Calls Tryd.prog 33 #[tV z] w fun e w' => e = .returned (.bool q) ∧ Below w.heap.size w w' := h ▸ specTaskOK_any z w
theorem last_no {l : Int} (h : lastB l = false) : l ≠ -1 ∧ timeB l = false := by
  have := of_decide_eq_false h
  exact ⟨by omega, decide_eq_false (by omega)⟩
theorem last_yes {l : Int} (h : lastB l = true) (g : l ≠ -1) : timeB l = true := by
  have := of_decide_eq_true h
  exact decide_eq_true (by omega)
theorem last_in {l : Int} : tkIn l (-1) 2147483647 = lastB l := rfl
theorem row5 (w : World) (a d t s p : Int) : Lies (w.alloc (.cells #[.int .i64 a, .int .i64 d, .int .i64 t, .int .i64 s, .int .i64 p] 3)) (some ⟨w.heap.size, 0, none⟩) (kC [a, d, t, s, p]) :=
  lies_own (World.ownsRow_lit (base := w.heap.size) (e := 3) (size := 1) w #[.int .i64 a, .int .i64 d, .int .i64 t, .int .i64 s, .int .i64 p] 5 (Nat.le_refl _) (by decide) rfl)
theorem sok_1 {x : ST} {z : TT} (h : tkB z = false) : sOK x z = false := by unfold sOK; rw [h]; rfl
theorem sok_2 {x : ST} {z : TT} (h : tkB z = true) (h2 : lastB x.l = false) : sOK x z = false := by unfold sOK; rw [h, h2]; rfl
theorem sok_2' {x : ST} {z : TT} (h2 : lastB x.l = false) : sOK x z = false := by unfold sOK; rw [h2]; simp
theorem sok_3 {x : ST} {z : TT} (h3 : cntB x = false) : sOK x z = false := by unfold sOK; rw [h3]; simp
theorem sok_4 {x : ST} {z : TT} (h3 : ¬ (x.q.length : Int) ≤ z.q) : sOK x z = false := by unfold sOK; rw [decide_eq_false h3]; simp
theorem sok_5 {x : ST} {z : TT} (h : tkB z = true) (h2 : lastB x.l = true) (h3 : cntB x = true) (h4 : (x.q.length : Int) ≤ z.q) : sOK x z = qB x.q x.l := by unfold sOK; rw [h, h2, h3, decide_eq_true h4]; simp

set_option maxHeartbeats 2000000 in
theorem sourceOK_any (x : ST) (z : TT) (b : Option Addr) (c : Nat) (hm : x.q.length ≤ maxLen) (w : World) (hz : Lies w b (kC x.q)) :
    Calls Tryd.prog 21 #[sV x b c, tV z] w fun e w' => e = .returned (.bool (sOK x z)) ∧ Below w.heap.size w w' := by
  have HX := Lib.hid (Bx2.start w (sO x b c 30) (tO z 32))
  have HZ := Lib.hid hz
  have H1 := Lib.hid (@sok_1 x z)
  have H2 := Lib.hid (@sok_2' x z)
  have H3 := Lib.hid (@sok_3 x z)
  have H4 := Lib.hid (@sok_4 x z)
  have H5 := Lib.hid (@sok_5 x z)
  have HCN : Hid (cntB x = [x.a, x.d, x.t, x.s, x.p].all timeB) := Lib.hid rfl
  have HQ := Lib.hid (fun w hz => queueOK_any x.q x.l b c hm w hz)
  generalize sOK x z = R at *
  generalize cntB x = CB at *
  obtain ⟨l, a, d, t, s, p, q⟩ := x
  obtain ⟨zk, zp, zd, zi, zq, zr⟩ := z
  have hm' := hm
  unfold maxLen at hm'
  simp only at HZ H1 H2 H3 H4 H5 HCN HQ hm hm'
  have HX : Hid (Bx2 w (.cells #[.int .i64 l, .int .i64 a, .int .i64 d, .int .i64 t, .int .i64 s, .int .i64 p, .slice b q.length c] 30) (.cells #[.int .i64 zk, .int .i64 zp, .int .i64 zd, .int .i64 zi, .int .i64 zq, .int .i64 zr] 32) ((w.alloc (.cells #[.int .i64 l, .int .i64 a, .int .i64 d, .int .i64 t, .int .i64 s, .int .i64 p, .slice b q.length c] 30)).alloc (.cells #[.int .i64 zk, .int .i64 zp, .int .i64 zd, .int .i64 zi, .int .i64 zq, .int .i64 zr] 32))) := HX
  show Calls Tryd.prog 21 #[.agg #[.int .i64 l, .int .i64 a, .int .i64 d, .int .i64 t, .int .i64 s, .int .i64 p, .slice b q.length c], .agg #[.int .i64 zk, .int .i64 zp, .int .i64 zd, .int .i64 zi, .int .i64 zq, .int .i64 zr]] w (fun e w' => e = .returned (.bool R) ∧ Below w.heap.size w w')
  clear hz
  generalize hn : q.length = n at *
  have HN := Lib.hid hn
  clear hn hm
  cases ht : tkB ⟨zk, zp, zd, zi, zq, zr⟩
  · have HT := Lib.hid ht
    have HR := Lib.hid (H1.out ht)
    clear ht
    go_enter Tryd.func21, Tryd.ntmps21
    go_wp2_with fail
    refine Calls.mono (tk_is (z := ⟨zk, zp, zd, zi, zq, zr⟩) HT.out _) ?_
    rintro e w1 ⟨rfl, hb⟩
    have HX := Lib.hid (HX.out.to hb)
    clear hb
    go_wp2
    go_ret
    exact ⟨by rw [HR.out]; rfl, HX.out.bel⟩
  cases hl : lastB l
  · have HT := Lib.hid ht
    have HR := Lib.hid (H2.out hl)
    have hl1 := (last_no hl).1
    have HL := Lib.hid (last_no hl).2
    have hb1 : (l == -1) = false := by simpa using hl1
    clear ht hl
    go_enter Tryd.func21, Tryd.ntmps21
    go_wp2_with fail
    refine Calls.mono (tk_is (z := ⟨zk, zp, zd, zi, zq, zr⟩) HT.out _) ?_
    rintro e w1 ⟨rfl, hb⟩
    have HX := Lib.hid (HX.out.to hb)
    clear hb
    have c0 := cell_of_row w1 w.heap.size 0 _ _ _ HX.out.box
    go_wp2_with (go_at_call 36; refine (isTime_is HL.out _).mono ?_; rintro e w' ⟨rfl, rfl⟩)
    go_ret
    exact ⟨by rw [HR.out]; rfl, HX.out.bel⟩
  have HT := Lib.hid ht
  have HL := Lib.hid hl
  have HLY := Lib.hid (last_yes hl)
  clear ht hl
  by_cases hl1 : l = -1
  · skip
    subst hl1
    clear HLY
    cases CB
    · skip
      have HR := Lib.hid (H3.out rfl)
      go_enter Tryd.func21, Tryd.ntmps21
      go_wp2_with fail
      refine Calls.mono (tk_is (z := ⟨zk, zp, zd, zi, zq, zr⟩) HT.out _) ?_
      rintro e w1 ⟨rfl, hb⟩
      have HX := Lib.hid (HX.out.to hb)
      clear hb
      have HEV := Lib.hid (everyTime_any [a, d, t, s, p] (some ⟨w1.heap.size, 0, none⟩) 5 (by unfold maxLen; simp) _ (row5 w1 a d t s p))
      rw [← HCN.out] at HEV
      have HX2 := Lib.hid (HX.out.to (dbox w1 (.cells #[.int .i64 a, .int .i64 d, .int .i64 t, .int .i64 s, .int .i64 p] 3)))
      have c0 := cell_of_row w1 w.heap.size 0 _ _ _ HX.out.box
      have c1 := cell_of_row w1 w.heap.size 1 _ _ _ HX.out.box
      have c2 := cell_of_row w1 w.heap.size 2 _ _ _ HX.out.box
      have c3 := cell_of_row w1 w.heap.size 3 _ _ _ HX.out.box
      have c4 := cell_of_row w1 w.heap.size 4 _ _ _ HX.out.box
      have c5 := cell_of_row w1 w.heap.size 5 _ _ _ HX.out.box
      go_wp2_with fail
      refine Calls.mono HEV.out ?_
      rintro e w' ⟨rfl, rfl⟩
      go_wp2
      go_ret
      exact ⟨by rw [HR.out]; rfl, HX2.out.bel⟩
    · skip
      by_cases hq : (n : Int) ≤ zq
      · have HR := Lib.hid (H5.out HT.out HL.out rfl hq)
        go_enter Tryd.func21, Tryd.ntmps21
        go_wp2_with fail
        refine Calls.mono (tk_is (z := ⟨zk, zp, zd, zi, zq, zr⟩) HT.out _) ?_
        rintro e w1 ⟨rfl, hb⟩
        have HX := Lib.hid (HX.out.to hb)
        clear hb
        have HEV := Lib.hid (everyTime_any [a, d, t, s, p] (some ⟨w1.heap.size, 0, none⟩) 5 (by unfold maxLen; simp) _ (row5 w1 a d t s p))
        rw [← HCN.out] at HEV
        have HX2 := Lib.hid (HX.out.to (dbox w1 (.cells #[.int .i64 a, .int .i64 d, .int .i64 t, .int .i64 s, .int .i64 p] 3)))
        have c0 := cell_of_row w1 w.heap.size 0 _ _ _ HX.out.box
        have c1 := cell_of_row w1 w.heap.size 1 _ _ _ HX.out.box
        have c2 := cell_of_row w1 w.heap.size 2 _ _ _ HX.out.box
        have c3 := cell_of_row w1 w.heap.size 3 _ _ _ HX.out.box
        have c4 := cell_of_row w1 w.heap.size 4 _ _ _ HX.out.box
        have c5 := cell_of_row w1 w.heap.size 5 _ _ _ HX.out.box
        go_wp2_with fail
        refine Calls.mono HEV.out ?_
        rintro e w' ⟨rfl, rfl⟩
        clear c0 c1 c2 c3 c4 c5
        have c0 := cell_of_row (w1.alloc (.cells #[.int .i64 a, .int .i64 d, .int .i64 t, .int .i64 s, .int .i64 p] 3)) w.heap.size 0 _ _ _ HX2.out.box
        have c6 := cell_of_row (w1.alloc (.cells #[.int .i64 a, .int .i64 d, .int .i64 t, .int .i64 s, .int .i64 p] 3)) w.heap.size 6 _ _ _ HX2.out.box
        have t4 := cell_of_row (w1.alloc (.cells #[.int .i64 a, .int .i64 d, .int .i64 t, .int .i64 s, .int .i64 p] 3)) (w.heap.size + 1) 4 _ _ _ HX2.out.box2
        go_wp2_with fail
        refine Calls.mono (HQ.out _ (HZ.out.below HX2.out.bel (Nat.le_refl _))) ?_
        rintro e w' ⟨rfl, rfl⟩
        go_wp2
        go_ret
        exact ⟨by rw [HR.out]; rfl, HX2.out.bel⟩
      · have HR := Lib.hid (H4.out hq)
        have hq' : (zq : Int) < n := by omega
        go_enter Tryd.func21, Tryd.ntmps21
        go_wp2_with fail
        refine Calls.mono (tk_is (z := ⟨zk, zp, zd, zi, zq, zr⟩) HT.out _) ?_
        rintro e w1 ⟨rfl, hb⟩
        have HX := Lib.hid (HX.out.to hb)
        clear hb
        have HEV := Lib.hid (everyTime_any [a, d, t, s, p] (some ⟨w1.heap.size, 0, none⟩) 5 (by unfold maxLen; simp) _ (row5 w1 a d t s p))
        rw [← HCN.out] at HEV
        have HX2 := Lib.hid (HX.out.to (dbox w1 (.cells #[.int .i64 a, .int .i64 d, .int .i64 t, .int .i64 s, .int .i64 p] 3)))
        have c0 := cell_of_row w1 w.heap.size 0 _ _ _ HX.out.box
        have c1 := cell_of_row w1 w.heap.size 1 _ _ _ HX.out.box
        have c2 := cell_of_row w1 w.heap.size 2 _ _ _ HX.out.box
        have c3 := cell_of_row w1 w.heap.size 3 _ _ _ HX.out.box
        have c4 := cell_of_row w1 w.heap.size 4 _ _ _ HX.out.box
        have c5 := cell_of_row w1 w.heap.size 5 _ _ _ HX.out.box
        go_wp2_with fail
        refine Calls.mono HEV.out ?_
        rintro e w' ⟨rfl, rfl⟩
        clear c0 c1 c2 c3 c4 c5
        have c0 := cell_of_row (w1.alloc (.cells #[.int .i64 a, .int .i64 d, .int .i64 t, .int .i64 s, .int .i64 p] 3)) w.heap.size 0 _ _ _ HX2.out.box
        have c6 := cell_of_row (w1.alloc (.cells #[.int .i64 a, .int .i64 d, .int .i64 t, .int .i64 s, .int .i64 p] 3)) w.heap.size 6 _ _ _ HX2.out.box
        have t4 := cell_of_row (w1.alloc (.cells #[.int .i64 a, .int .i64 d, .int .i64 t, .int .i64 s, .int .i64 p] 3)) (w.heap.size + 1) 4 _ _ _ HX2.out.box2
        go_wp2
        go_ret
        exact ⟨by rw [HR.out]; rfl, HX2.out.bel⟩
  · skip
    have hb1 : (l == -1) = false := by simpa using hl1
    have HTL := Lib.hid (HLY.out hl1)
    cases CB
    · skip
      have HR := Lib.hid (H3.out rfl)
      go_enter Tryd.func21, Tryd.ntmps21
      go_wp2_with fail
      refine Calls.mono (tk_is (z := ⟨zk, zp, zd, zi, zq, zr⟩) HT.out _) ?_
      rintro e w1 ⟨rfl, hb⟩
      have HX := Lib.hid (HX.out.to hb)
      clear hb
      have HEV := Lib.hid (everyTime_any [a, d, t, s, p] (some ⟨w1.heap.size, 0, none⟩) 5 (by unfold maxLen; simp) _ (row5 w1 a d t s p))
      rw [← HCN.out] at HEV
      have HX2 := Lib.hid (HX.out.to (dbox w1 (.cells #[.int .i64 a, .int .i64 d, .int .i64 t, .int .i64 s, .int .i64 p] 3)))
      have c0 := cell_of_row w1 w.heap.size 0 _ _ _ HX.out.box
      have c1 := cell_of_row w1 w.heap.size 1 _ _ _ HX.out.box
      have c2 := cell_of_row w1 w.heap.size 2 _ _ _ HX.out.box
      have c3 := cell_of_row w1 w.heap.size 3 _ _ _ HX.out.box
      have c4 := cell_of_row w1 w.heap.size 4 _ _ _ HX.out.box
      have c5 := cell_of_row w1 w.heap.size 5 _ _ _ HX.out.box
      go_wp2_with fail
      refine Calls.mono (isTime_is HTL.out _) ?_
      rintro e w' ⟨rfl, rfl⟩
      go_wp2_with fail
      refine Calls.mono HEV.out ?_
      rintro e w' ⟨rfl, rfl⟩
      go_wp2
      go_ret
      exact ⟨by rw [HR.out]; rfl, HX2.out.bel⟩
    · skip
      by_cases hq : (n : Int) ≤ zq
      · have HR := Lib.hid (H5.out HT.out HL.out rfl hq)
        go_enter Tryd.func21, Tryd.ntmps21
        go_wp2_with fail
        refine Calls.mono (tk_is (z := ⟨zk, zp, zd, zi, zq, zr⟩) HT.out _) ?_
        rintro e w1 ⟨rfl, hb⟩
        have HX := Lib.hid (HX.out.to hb)
        clear hb
        have HEV := Lib.hid (everyTime_any [a, d, t, s, p] (some ⟨w1.heap.size, 0, none⟩) 5 (by unfold maxLen; simp) _ (row5 w1 a d t s p))
        rw [← HCN.out] at HEV
        have HX2 := Lib.hid (HX.out.to (dbox w1 (.cells #[.int .i64 a, .int .i64 d, .int .i64 t, .int .i64 s, .int .i64 p] 3)))
        have c0 := cell_of_row w1 w.heap.size 0 _ _ _ HX.out.box
        have c1 := cell_of_row w1 w.heap.size 1 _ _ _ HX.out.box
        have c2 := cell_of_row w1 w.heap.size 2 _ _ _ HX.out.box
        have c3 := cell_of_row w1 w.heap.size 3 _ _ _ HX.out.box
        have c4 := cell_of_row w1 w.heap.size 4 _ _ _ HX.out.box
        have c5 := cell_of_row w1 w.heap.size 5 _ _ _ HX.out.box
        go_wp2_with fail
        refine Calls.mono (isTime_is HTL.out _) ?_
        rintro e w' ⟨rfl, rfl⟩
        go_wp2_with fail
        refine Calls.mono HEV.out ?_
        rintro e w' ⟨rfl, rfl⟩
        clear c0 c1 c2 c3 c4 c5
        have c0 := cell_of_row (w1.alloc (.cells #[.int .i64 a, .int .i64 d, .int .i64 t, .int .i64 s, .int .i64 p] 3)) w.heap.size 0 _ _ _ HX2.out.box
        have c6 := cell_of_row (w1.alloc (.cells #[.int .i64 a, .int .i64 d, .int .i64 t, .int .i64 s, .int .i64 p] 3)) w.heap.size 6 _ _ _ HX2.out.box
        have t4 := cell_of_row (w1.alloc (.cells #[.int .i64 a, .int .i64 d, .int .i64 t, .int .i64 s, .int .i64 p] 3)) (w.heap.size + 1) 4 _ _ _ HX2.out.box2
        go_wp2_with fail
        refine Calls.mono (HQ.out _ (HZ.out.below HX2.out.bel (Nat.le_refl _))) ?_
        rintro e w' ⟨rfl, rfl⟩
        go_wp2
        go_ret
        exact ⟨by rw [HR.out]; rfl, HX2.out.bel⟩
      · have HR := Lib.hid (H4.out hq)
        have hq' : (zq : Int) < n := by omega
        go_enter Tryd.func21, Tryd.ntmps21
        go_wp2_with fail
        refine Calls.mono (tk_is (z := ⟨zk, zp, zd, zi, zq, zr⟩) HT.out _) ?_
        rintro e w1 ⟨rfl, hb⟩
        have HX := Lib.hid (HX.out.to hb)
        clear hb
        have HEV := Lib.hid (everyTime_any [a, d, t, s, p] (some ⟨w1.heap.size, 0, none⟩) 5 (by unfold maxLen; simp) _ (row5 w1 a d t s p))
        rw [← HCN.out] at HEV
        have HX2 := Lib.hid (HX.out.to (dbox w1 (.cells #[.int .i64 a, .int .i64 d, .int .i64 t, .int .i64 s, .int .i64 p] 3)))
        have c0 := cell_of_row w1 w.heap.size 0 _ _ _ HX.out.box
        have c1 := cell_of_row w1 w.heap.size 1 _ _ _ HX.out.box
        have c2 := cell_of_row w1 w.heap.size 2 _ _ _ HX.out.box
        have c3 := cell_of_row w1 w.heap.size 3 _ _ _ HX.out.box
        have c4 := cell_of_row w1 w.heap.size 4 _ _ _ HX.out.box
        have c5 := cell_of_row w1 w.heap.size 5 _ _ _ HX.out.box
        go_wp2_with fail
        refine Calls.mono (isTime_is HTL.out _) ?_
        rintro e w' ⟨rfl, rfl⟩
        go_wp2_with fail
        refine Calls.mono HEV.out ?_
        rintro e w' ⟨rfl, rfl⟩
        clear c0 c1 c2 c3 c4 c5
        have c0 := cell_of_row (w1.alloc (.cells #[.int .i64 a, .int .i64 d, .int .i64 t, .int .i64 s, .int .i64 p] 3)) w.heap.size 0 _ _ _ HX2.out.box
        have c6 := cell_of_row (w1.alloc (.cells #[.int .i64 a, .int .i64 d, .int .i64 t, .int .i64 s, .int .i64 p] 3)) w.heap.size 6 _ _ _ HX2.out.box
        have t4 := cell_of_row (w1.alloc (.cells #[.int .i64 a, .int .i64 d, .int .i64 t, .int .i64 s, .int .i64 p] 3)) (w.heap.size + 1) 4 _ _ _ HX2.out.box2
        go_wp2
        go_ret
        exact ⟨by rw [HR.out]; rfl, HX2.out.bel⟩
set_option maxHeartbeats 2000000 in
theorem specSourceOK_any (x : ST) (z : TT) (b : Option Addr) (c : Nat) (hm : x.q.length ≤ maxLen) (w : World) (hz : Lies w b (kC x.q)) :
    Calls Tryd.prog 18 #[sV x b c, tV z] w fun e w' => e = .returned (.bool (sOK x z)) ∧ Below w.heap.size w w' := by
  have HX := Lib.hid (Bx2.start w (sO x b c 30) (tO z 32))
  have HZ := Lib.hid hz
  have H1 := Lib.hid (@sok_1 x z)
  have H2 := Lib.hid (@sok_2' x z)
  have H3 := Lib.hid (@sok_3 x z)
  have H4 := Lib.hid (@sok_4 x z)
  have H5 := Lib.hid (@sok_5 x z)
  have HCN : Hid (cntB x = [x.a, x.d, x.t, x.s, x.p].all timeB) := Lib.hid rfl
  have HQ := Lib.hid (trivial)
  generalize sOK x z = R at *
  generalize cntB x = CB at *
  obtain ⟨l, a, d, t, s, p, q⟩ := x
  obtain ⟨zk, zp, zd, zi, zq, zr⟩ := z
  have hm' := hm
  unfold maxLen at hm'
  simp only at HZ H1 H2 H3 H4 H5 HCN HQ hm hm'
  have HX : Hid (Bx2 w (.cells #[.int .i64 l, .int .i64 a, .int .i64 d, .int .i64 t, .int .i64 s, .int .i64 p, .slice b q.length c] 30) (.cells #[.int .i64 zk, .int .i64 zp, .int .i64 zd, .int .i64 zi, .int .i64 zq, .int .i64 zr] 32) ((w.alloc (.cells #[.int .i64 l, .int .i64 a, .int .i64 d, .int .i64 t, .int .i64 s, .int .i64 p, .slice b q.length c] 30)).alloc (.cells #[.int .i64 zk, .int .i64 zp, .int .i64 zd, .int .i64 zi, .int .i64 zq, .int .i64 zr] 32))) := HX
  show Calls Tryd.prog 18 #[.agg #[.int .i64 l, .int .i64 a, .int .i64 d, .int .i64 t, .int .i64 s, .int .i64 p, .slice b q.length c], .agg #[.int .i64 zk, .int .i64 zp, .int .i64 zd, .int .i64 zi, .int .i64 zq, .int .i64 zr]] w (fun e w' => e = .returned (.bool R) ∧ Below w.heap.size w w')
  clear hz
  generalize hn : q.length = n at *
  have HN := Lib.hid hn
  clear hn hm
  have HR5 := Lib.hid (row5 ((w.alloc (.cells #[.int .i64 l, .int .i64 a, .int .i64 d, .int .i64 t, .int .i64 s, .int .i64 p, .slice b n c] 30)).alloc (.cells #[.int .i64 zk, .int .i64 zp, .int .i64 zd, .int .i64 zi, .int .i64 zq, .int .i64 zr] 32)) a d t s p)
  have HX := Lib.hid (HX.out.to (dbox _ (.cells #[.int .i64 a, .int .i64 d, .int .i64 t, .int .i64 s, .int .i64 p] 3)))
  have HKN := Lib.hid (fun j (h : j < [a, d, t, s, p].length) (g : timeB ([a, d, t, s, p].getD j 0) = false) => HCN.out.trans (ev_no timeB 0 h g))
  have HKY := Lib.hid (fun h => HCN.out.trans (ev_yes timeB 0 (l := [a, d, t, s, p]) h))
  have HQN := Lib.hid (fun i => @qB_no q l i)
  have HQY := Lib.hid (fun h => @qB_yes q l h)
  obtain ⟨L5, hL5⟩ : ∃ L5 : List Int, L5 = [a, d, t, s, p] := ⟨_, rfl⟩
  have HL5 : Hid (L5.length = 5) := Lib.hid (by rw [hL5]; rfl)
  rw [← hL5] at HR5 HKN HKY
  clear hL5 HCN HQ
  go_enter Tryd.func18, Tryd.ntmps18
  go_wp2
  rw [show (w.heap.size + 1 + 1) = w.heap.size + 2 from rfl] at *
  go_loop [6] (fun i => ∃ j : Nat, j ≤ 5 ∧ i = .int .i64 j ∧ Hid (∀ k, k < j → timeB (L5.getD k 0) = true)) (fun i => 5 - (intOf i).toNat)
  case atStart => exact ⟨0, Nat.zero_le _, rfl, Lib.hid (by intro q hq; omega)⟩
  case round =>
    obtain ⟨j, hj, rfl, hr⟩ := hrel
    by_cases hlt : j < 5
    · obtain ⟨b5, o5, e5, hbl, hcs⟩ := HR5.out.open (by rw [kC_len, HL5.out]; omega)
      simp at e5
      obtain ⟨rfl, rfl⟩ := e5
      have c0 := kind_at hcs (i := j) (by rw [HL5.out]; exact hlt)
      rw [Nat.zero_add] at c0
      clear hcs hbl
      cases hk : timeB (L5.getD j 0)
      · have HR := Lib.hid (H3.out (HKN.out j (by rw [HL5.out]; exact hlt) hk))
        have HC : Hid (tkIn (L5.getD j 0) 0 2147483647 = false) := Lib.hid hk
        clear hk
        generalize L5.getD j 0 = y at *
        go_wp2_with (go_at_call 32; refine (tkIn_is HC.out _).mono ?_; rintro e w' ⟨rfl, rfl⟩)
        go_ret
        exact ⟨by rw [HR.out]; rfl, HX.out.bel⟩
      · have HC : Hid (tkIn (L5.getD j 0) 0 2147483647 = true) := Lib.hid hk
        have HN2 : Hid (∀ k, k < j + 1 → timeB (L5.getD k 0) = true) := Lib.hid (fun k hk => by
          by_cases e : k = j
          · rw [e]; exact HC.out
          · exact hr.out k (by omega))
        clear hk
        generalize L5.getD j 0 = y at *
        go_wp2_with (go_at_call 32; refine (tkIn_is HC.out _).mono ?_; rintro e w' ⟨rfl, rfl⟩)
        go_round
        case rel => exact ⟨j + 1, by omega, by go_num, HN2⟩
        case measure => simp [intOf]; omega
    obtain rfl : j = 5 := by omega
    have HCB := Lib.hid (HKY.out (by rw [HL5.out]; exact hr.out))
    clear hr HKN HKY HR5 HL5 hlt hj
    cases ht : tkB ⟨zk, zp, zd, zi, zq, zr⟩
    · have HR := Lib.hid (H1.out ht)
      have HT := Lib.hid ht
      clear ht
      go_wp2_with fail
      refine Calls.mono (stk_is (z := ⟨zk, zp, zd, zi, zq, zr⟩) HT.out _) ?_
      rintro e w1 ⟨rfl, hb⟩
      have HX := Lib.hid (HX.out.to hb)
      clear hb
      go_wp2
      go_ret
      exact ⟨by rw [HR.out]; rfl, HX.out.bel⟩
    have HT := Lib.hid ht
    clear ht
    cases hl : lastB l
    · have HR := Lib.hid (H2.out hl)
      have HL : Hid (tkIn l (-1) 2147483647 = false) := Lib.hid hl
      clear hl
      go_wp2_with fail
      refine Calls.mono (stk_is (z := ⟨zk, zp, zd, zi, zq, zr⟩) HT.out _) ?_
      rintro e w1 ⟨rfl, hb⟩
      have HX := Lib.hid (HX.out.to hb)
      clear hb
      have c0 := cell_of_row w1 w.heap.size 0 _ _ _ HX.out.box
      go_wp2_with (go_at_call 32; refine (tkIn_is HL.out _).mono ?_; rintro e w' ⟨rfl, rfl⟩)
      go_ret
      exact ⟨by rw [HR.out]; rfl, HX.out.bel⟩
    have HL : Hid (tkIn l (-1) 2147483647 = true) := Lib.hid hl
    have HLB := Lib.hid hl
    clear hl
    by_cases hq : (n : Int) ≤ zq
    case neg =>
      have HR := Lib.hid (H4.out (by first | exact hq | omega))
      have hq' : (zq : Int) < n := by omega
      go_wp2_with fail
      refine Calls.mono (stk_is (z := ⟨zk, zp, zd, zi, zq, zr⟩) HT.out _) ?_
      rintro e w1 ⟨rfl, hb⟩
      have HX := Lib.hid (HX.out.to hb)
      clear hb
      have c0 := cell_of_row w1 w.heap.size 0 _ _ _ HX.out.box
      have c6 := cell_of_row w1 w.heap.size 6 _ _ _ HX.out.box
      have t4 := cell_of_row w1 (w.heap.size + 1) 4 _ _ _ HX.out.box2
      go_wp2_with (go_at_call 32; refine (tkIn_is HL.out _).mono ?_; rintro e w' ⟨rfl, rfl⟩)
      go_ret
      exact ⟨by rw [HR.out]; rfl, HX.out.bel⟩
    have HR := Lib.hid (H5.out HT.out HLB.out HCB.out hq)
    have hq' : ¬ (zq : Int) < n := by omega
    go_wp2_with fail
    refine Calls.mono (stk_is (z := ⟨zk, zp, zd, zi, zq, zr⟩) HT.out _) ?_
    rintro e w1 ⟨rfl, hb⟩
    have HX := Lib.hid (HX.out.to hb)
    clear hb H1 H2 H3 H4 H5
    have c0 := cell_of_row w1 w.heap.size 0 _ _ _ HX.out.box
    have c6 := cell_of_row w1 w.heap.size 6 _ _ _ HX.out.box
    have t4 := cell_of_row w1 (w.heap.size + 1) 4 _ _ _ HX.out.box2
    go_wp2_with (go_at_call 32; refine (tkIn_is HL.out _).mono ?_; rintro e w' ⟨rfl, rfl⟩)
    clear c0 c6 t4
    go_loopw [7] (fun i wr => ∃ j : Nat, j ≤ n ∧ i = .int .i64 j ∧ Hid (∀ k, k < j → qAt q l k = true) ∧ Hid (Bx2 w (.cells #[.int .i64 l, .int .i64 a, .int .i64 d, .int .i64 t, .int .i64 s, .int .i64 p, .slice b n c] 30) (.cells #[.int .i64 zk, .int .i64 zp, .int .i64 zd, .int .i64 zi, .int .i64 zq, .int .i64 zr] 32) wr)) (fun i _ => n - (intOf i).toNat)
    case atStart => exact ⟨0, Nat.zero_le _, rfl, Lib.hid (by intro q hq; omega), HX⟩
    case round =>
      obtain ⟨j, hj, rfl, hr, HX⟩ := hrel
      have c0 := cell_of_row wr w.heap.size 0 _ _ _ HX.out.box
      have c6 := cell_of_row wr w.heap.size 6 _ _ _ HX.out.box
      by_cases hlt : j < n
      case neg =>
        obtain rfl : j = n := by omega
        have HR2 := Lib.hid (HR.out.trans (HQY.out (by rw [HN.out]; exact hr.out)))
        go_wp2
        go_ret
        exact ⟨by rw [HR2.out]; rfl, HX.out.bel⟩
      obtain ⟨bb, bo, rfl, hbl, hcs⟩ := (HZ.out.below HX.out.bel (Nat.le_refl _)).open (by rw [kC_len, HN.out]; omega)
      have d0 := kind_at hcs (i := j) (by rw [HN.out]; exact hlt)
      have HE : Hid (qAt q l j = decide (prv q j < q.getD j 0 ∧ q.getD j 0 ≤ l)) := Lib.hid rfl
      have HPG := Lib.hid (prv_ge hr.out)
      have HND := Lib.hid (fun g => HR.out.trans (HQN.out _ (by rw [HN.out]; exact hlt) g))
      have HNX : Hid (qAt q l j = true → ∀ k, k < j + 1 → qAt q l k = true) := Lib.hid (fun h k hk => by
        by_cases e : k = j
        · rw [e]; exact h
        · exact hr.out k (by omega))
      cases hin : tkIn (q.getD j 0) 0 l
      · have HR2 := Lib.hid (HND.out (by
          rw [HE.out]
          have h1 := of_decide_eq_false hin
          have h2 := HPG.out
          exact decide_eq_false (by omega)))
        have HC := Lib.hid hin
        clear hin hcs HNX HND HPG HE
        generalize q.getD j 0 = y at *
        go_wp2_with fail
        go_quiet ((go_at_call 32; with_reducible refine Calls.mono (tkIn_is HC.out _) ?_; exact fun e w' h => ⟨h.1, _, h.2.symm⟩))
        go_wp2
        go_ret
        exact ⟨by rw [HR2.out]; rfl, bel_dn HX.out.bel _⟩
      have HC := Lib.hid hin
      have HIN := Lib.hid (of_decide_eq_true hin)
      clear hin
      by_cases hj0 : j = 0
      · have HN2 := Lib.hid (HNX.out (by rw [HE.out, hj0]; exact decide_eq_true ⟨show (-1 : Int) < _ by rw [hj0] at HIN; have := HIN.out.1; omega, by rw [hj0] at HIN; exact HIN.out.2⟩))
        have hg0 : ¬ (0 : Int) < (j : Int) := by omega
        have hg1 : decide ((0 : Int) < (j : Int)) = false := decide_eq_false hg0
        have hg2 : ¬ 0 < j := by omega
        have hg3 : decide (0 < j) = false := decide_eq_false hg2
        clear hcs HNX HND HPG HE HIN hj0
        generalize q.getD j 0 = y at *
        go_wp2_with fail
        go_quiet ((go_at_call 32; with_reducible refine Calls.mono (tkIn_is HC.out _) ?_; exact fun e w' h => ⟨h.1, _, h.2.symm⟩))
        go_wp2
        go_roundw
        case rel => exact ⟨j + 1, by omega, by go_num, HN2, Lib.hid ⟨bel_dn HX.out.bel _, HX.out.box, HX.out.box2⟩⟩
        case measure => simp [intOf]; omega
      obtain ⟨i, rfl⟩ : ∃ i, j = i + 1 := ⟨j - 1, by omega⟩
      have d1 := kind_at hcs (i := i) (by rw [HN.out]; omega)
      have hg0 : (0 : Int) < ((i + 1 : Nat) : Int) := by omega
      have hg1 : IntKind.i64.wrap (((i + 1 : Nat) : Int) - 1) = (i : Int) := by
        rw [IntWalk.i64_in _ (by omega)]; omega
      have HP : Hid (prv q (i + 1) = q.getD i 0) := Lib.hid rfl
      by_cases hle : q.getD (i + 1) 0 ≤ q.getD i 0
      · have HR2 := Lib.hid (HND.out (by rw [HE.out, HP.out]; exact decide_eq_false (by omega)))
        have hle' : decide (q.getD (i + 1) 0 ≤ q.getD i 0) = true := decide_eq_true hle
        clear hcs HNX HND HPG HE HIN HP
        generalize q.getD (i + 1) 0 = y at *
        generalize q.getD i 0 = y0 at *
        go_wp2_with fail
        go_quiet ((go_at_call 32; with_reducible refine Calls.mono (tkIn_is HC.out _) ?_; exact fun e w' h => ⟨h.1, _, h.2.symm⟩))
        go_wp2
        go_ret
        exact ⟨by rw [HR2.out]; rfl, bel_dn HX.out.bel _⟩
      · have HN2 := Lib.hid (HNX.out (by rw [HE.out, HP.out]; exact decide_eq_true ⟨by omega, HIN.out.2⟩))
        have hle' : decide (q.getD (i + 1) 0 ≤ q.getD i 0) = false := decide_eq_false hle
        clear hcs HNX HND HPG HE HIN HP
        generalize q.getD (i + 1) 0 = y at *
        generalize q.getD i 0 = y0 at *
        go_wp2_with fail
        go_quiet ((go_at_call 32; with_reducible refine Calls.mono (tkIn_is HC.out _) ?_; exact fun e w' h => ⟨h.1, _, h.2.symm⟩))
        go_wp2
        go_roundw
        case rel => exact ⟨i + 1 + 1, by omega, by go_num, HN2, Lib.hid ⟨bel_dn HX.out.bel _, HX.out.box, HX.out.box2⟩⟩
        case measure => simp [intOf]; omega
end Go.Proofs.YtgbnoaclklbjbaaDoor
