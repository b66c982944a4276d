/- TaskOK of impl and of spec; the law TaskOK. -/
import Derived.Test.YtppgknjpbfopjaaGreatDoorTsk
import Derived.Test.YtppgknjpbfopjaaGreatDoorPgm2
namespace Go.Proofs.YtppgknjpbfopjaaGreatDoor
open Go.ChangeShapes Go.WideShapes Go.ChangeAt Go.RowKit
set_option linter.unusedVariables false
def tkIn (n a b : Int) : Bool := decide (a ≤ n ∧ n ≤ b)
def tkB (z : TT) : Bool :=
  decide (1 ≤ z.p ∧ z.p ≤ 5000 ∧ 1 ≤ z.d ∧ z.d ≤ 5000 ∧ 0 ≤ z.r ∧ z.r ≤ 5 ∧ ((z.k = 1 ∧ z.i = 0 ∧ z.q = 1 ∧ z.d ≤ z.p) ∨ (z.k = 2 ∧ 0 ≤ z.i ∧ z.i ≤ 7 ∧ 1 ≤ z.q ∧ z.q ≤ 4)))
theorem tkIn_any (n a b : Int) (w : World) : Calls Tryz.prog 166 #[.int .i64 n, .int .i64 a, .int .i64 b] w fun e w' => e = .returned (.bool (tkIn n a b)) ∧ w = w' := by
  by_cases h1 : a ≤ n <;> by_cases h2 : n ≤ b
  all_goals
    have H : Hid (tkIn n a b = _) := Lib.hid (show decide (a ≤ n ∧ n ≤ b) = _ by first | exact decide_eq_false (by omega) | exact decide_eq_true (by omega))
    go_enter Tryz.func166, Tryz.ntmps166
    go_wp2
    go_ret
    exact ⟨by rw [H.out]; rfl, rfl⟩
theorem tkIn_is {n a b : Int} {q : Bool} (h : tkIn n a b = q) (w : World) : Calls Tryz.prog 166 #[.int .i64 n, .int .i64 a, .int .i64 b] w fun e w' => e = .returned (.bool q) ∧ w = w' := h ▸ tkIn_any n a b w
def tkT (n : Int) : Bool := tkIn n 1 5000
theorem isTaskTime_any (n : Int) (w : World) : Calls Tryz.prog 182 #[.int .i64 n] w fun e w' => e = .returned (.bool (tkT n)) ∧ w = w' := by
  by_cases h1 : 1 ≤ n <;> by_cases h2 : n ≤ 5000
  all_goals
    have H : Hid (tkT n = _) := Lib.hid (show decide (1 ≤ n ∧ n ≤ 5000) = _ by first | exact decide_eq_false (by omega) | exact decide_eq_true (by omega))
    go_enter Tryz.func182, Tryz.ntmps182
    go_wp2
    go_ret
    exact ⟨by rw [H.out]; rfl, rfl⟩
set_option maxHeartbeats 2000000 in
theorem taskOK_any (z : TT) (w : World) : Calls Tryz.prog 138 #[tV z] w fun e w' => e = .returned (.bool (tkB z)) ∧ Below w.heap.size w w' := by
  obtain ⟨k, p, d, i, q, r⟩ := z
  have Hb := Lib.hid (dbox w (tO ⟨k, p, d, i, q, r⟩ 77))
  go_enter Tryz.func138, Tryz.ntmps138
  go_wp2_with (go_at_call 182; refine (isTaskTime_any _ _).mono ?_; rintro e w' ⟨rfl, rfl⟩)
  all_goals (go_ret; refine ⟨rb_eq ?_, dbox _ _⟩; clear Hb; unfold tkB; unfold tkT tkIn at *; rw [Bool.eq_iff_iff]; simp_all; try omega)
set_option maxHeartbeats 2000000 in
theorem specTaskOK_any (z : TT) (w : World) : Calls Tryz.prog 113 #[tV z] w fun e w' => e = .returned (.bool (tkB z)) ∧ Below w.heap.size w w' := by
  obtain ⟨k, p, d, i, q, r⟩ := z
  have Hb := Lib.hid (dbox w (tO ⟨k, p, d, i, q, r⟩ 77))
  go_enter Tryz.func113, Tryz.ntmps113
  go_wp2_with (go_at_call 166; refine (tkIn_any _ _ _ _).mono ?_; rintro e w' ⟨rfl, rfl⟩)
  all_goals (go_ret; refine ⟨rb_eq ?_, dbox _ _⟩; clear Hb; unfold tkB; unfold tkIn at *; rw [Bool.eq_iff_iff]; simp_all; try omega)
end Go.Proofs.YtppgknjpbfopjaaGreatDoor
namespace Go.Proofs.YtppgknjpbfopjaaGreatDoor
open Go.ChangeShapes Go.WideShapes Go.ChangeAt Go.RowKit
set_option linter.unusedVariables false
/-- The first task that is wrong. -/
def tkGo (n : Int) : List TT → Nat → Int × Int
  | [], _ => (0, 0)
  | t :: r, j => if tkB t = false then ((j : Int), 10) else if t.r ≥ n then ((j : Int), 15) else tkGo n r (j + 1)
theorem tkGo_step {n : Int} {ts : List TT} {j : Nat} (h : j < ts.length) : tkGo n (ts.drop j) j = if tkB (ts.getD j t0) = false then ((j : Int), 10) else if (ts.getD j t0).r ≥ n then ((j : Int), 15) else tkGo n (ts.drop (j + 1)) (j + 1) := by
  have e : ts.getD j t0 = ts[j] := by simp [List.getD, h]
  rw [List.drop_eq_getElem_cons h, tkGo, e]
theorem tkGo_end {n : Int} {ts : List TT} {j : Nat} (h : ts.length ≤ j) : tkGo n (ts.drop j) j = (0, 0) := by rw [List.drop_eq_nil_of_le h]; rfl
def tkF (n : Int) (ts : List TT) : Int × Int := if ts.length = 0 then (0, 5) else if 5 < ts.length then (0, 6) else tkGo n ts 0
def ckF (D : Pgm) : Int × Int :=
  if (kindsB D.ks && (wellR D.rs && decide (D.n3 = 8))) = false then (0, 1) else if (allGo D.ks D.rs 0).2.2 ≠ 0 then ((allGo D.ks D.rs 0).1, (allGo D.ks D.rs 0).2.2) else tkF D.n1 D.ts
set_option maxHeartbeats 1000000 in
theorem checkTasks_any (ts : List TT) (a : Option Addr) (c : Nat) (n : Int) (hm : ts.length ≤ maxLen) (w : World) (hz : Lies w a (flat tC ts)) :
    Calls Tryz.prog 75 #[.slice a ts.length c, .int .i64 n] w fun e w' => e = .returned (.tuple #[.int .i64 (tkF n ts).1, .int .i64 (tkF n ts).2]) ∧ Below w.heap.size w w' := by
  unfold maxLen at hm
  have Hz := Lib.hid hz
  have HS := Lib.hid (fun j (h : j < ts.length) => tkGo_step (n := n) h)
  have HE := Lib.hid (fun j (h : ts.length ≤ j) => tkGo_end (n := n) h)
  clear hz
  by_cases h0 : ts.length = 0
  · have HR : Hid (tkF n ts = (0, 5)) := Lib.hid (if_pos h0)
    rw [h0]
    go_enter Tryz.func75, Tryz.ntmps75
    go_wp2
    go_ret2
    exact ⟨ret_ii (by rw [HR.out]) (by rw [HR.out]), Below.refl _ _⟩
  by_cases h5 : 5 < ts.length
  · have HR : Hid (tkF n ts = (0, 6)) := Lib.hid ((if_neg h0).trans (if_pos h5))
    clear Hz HS HE
    generalize ts.length = m at *
    go_enter Tryz.func75, Tryz.ntmps75
    go_wp2
    go_ret2
    exact ⟨ret_ii (by rw [HR.out]) (by rw [HR.out]), Below.refl _ _⟩
  have hR : tkF n ts = tkGo n (ts.drop 0) 0 := (if_neg h0).trans (if_neg h5)
  rw [hR]
  have HRR := Lib.hid (rfl : tkGo n (ts.drop 0) 0 = tkGo n (ts.drop 0) 0)
  generalize hq : tkGo n (ts.drop 0) 0 = R at HRR ⊢
  have HR : Hid (tkGo n (ts.drop 0) 0 = R) := Lib.hid hq
  clear HRR hq hR
  generalize hL : ts.length = m at *
  have HL := Lib.hid hL
  clear hL
  have e0 : ((m : Int) == 0) = false := by rw [beq_eq_false_iff_ne]; omega
  have e5 : decide ((5 : Int) < m) = false := decide_eq_false (by omega)
  go_enter Tryz.func75, Tryz.ntmps75
  go_wp2
  go_loopw [18] (fun i wr => ∃ j : Nat, j ≤ m ∧ i = .int .i64 j ∧ Hid (tkGo n (ts.drop j) j = R) ∧ Hid (Below w.heap.size w wr)) (fun i _ => m - (intOf i).toNat)
  case atStart => exact ⟨0, Nat.zero_le _, rfl, HR, Lib.hid (Below.refl _ _)⟩
  case round =>
    obtain ⟨j, hj, rfl, hr, hb⟩ := hrel
    by_cases hlt : j < m
    · obtain ⟨b, o, rfl, hbl, hcs⟩ := Hz.out.open (by rw [flat_len tC_len, HL.out]; omega)
      obtain ⟨q0, q1, q2, q3, q4, q5⟩ := C6.bel (tt_at hcs (i := j) (by rw [HL.out]; exact hlt)) hb.out hbl
      have hg := HS.out j hlt
      rw [hr.out] at hg
      have HT := Lib.hid (fun w => taskOK_any (ts.getD j t0) w)
      have HXa := Lib.hid (fun z : TT => hb.out.alloc hb.out.size (tO z 77))
      have HKa := Lib.hid (fun z : TT => heap_alloc_new wr (tO z 77))
      clear hcs
      generalize ts.getD j t0 = z at *
      cases hk : tkB z
      · rw [hk, if_pos rfl] at hg
        rw [hk] at HT
        have HG := Lib.hid hg
        clear hg hk hr
        go_wp2_with fail
        refine Calls.mono (HT.out _) ?_
        rintro e w2 ⟨rfl, hb2⟩
        have Hb2 := Lib.hid ((HXa.out z).trans (hb2.mono (HXa.out z).size))
        clear hb2 q0 q1 q2 q3 q4 q5
        go_wp2
        go_ret2
        exact ⟨ret_ii (by rw [HG.out]) (by rw [HG.out]), Hb2.out⟩
      · rw [hk, if_neg (by decide)] at hg
        rw [hk] at HT
        by_cases hr5 : z.r ≥ n
        · rw [if_pos hr5] at hg
          have HG := Lib.hid hg
          clear hg hk hr
          go_wp2_with fail
          refine Calls.mono (HT.out _) ?_
          rintro e w2 ⟨rfl, hb2⟩
          have Hb2 := Lib.hid ((HXa.out z).trans (hb2.mono (HXa.out z).size))
          have hc5 := cell_of_row w2 wr.heap.size 5 _ _ _ (blk_bel (HKa.out z) hb2)
          clear hb2 q0 q1 q2 q3 q4 q5
          go_wp2
          go_ret2
          exact ⟨ret_ii (by rw [HG.out]) (by rw [HG.out]), Hb2.out⟩
        · rw [if_neg hr5] at hg
          have HG := Lib.hid hg
          clear hg hk hr
          have hr6 : z.r < n := by omega
          clear hr5
          go_wp2_with fail
          refine Calls.mono (HT.out _) ?_
          rintro e w2 ⟨rfl, hb2⟩
          have Hb2 := Lib.hid ((HXa.out z).trans (hb2.mono (HXa.out z).size))
          have hc5 := cell_of_row w2 wr.heap.size 5 _ _ _ (blk_bel (HKa.out z) hb2)
          clear hb2 q0 q1 q2 q3 q4 q5
          go_wp2
          go_roundw
          case rel => exact ⟨j + 1, by omega, by go_num, Lib.hid HG.out.symm, Hb2⟩
          case measure => simp [intOf]; omega
    · obtain rfl : j = m := by omega
      have HG := Lib.hid (HE.out j (Nat.le_refl _))
      clear hlt
      go_wp2
      go_ret2
      exact ⟨ret_ii (by rw [← hr.out, HG.out]) (by rw [← hr.out, HG.out]), hb.out⟩
theorem ckF_bad {D : Pgm} (h : (kindsB D.ks && (wellR D.rs && decide (D.n3 = 8))) = false) : ckF D = (0, 1) := if_pos h
theorem ckF_ver {D : Pgm} (h : (kindsB D.ks && (wellR D.rs && decide (D.n3 = 8))) = true) (g : (allGo D.ks D.rs 0).2.2 ≠ 0) : ckF D = ((allGo D.ks D.rs 0).1, (allGo D.ks D.rs 0).2.2) := (if_neg (by rw [h]; decide)).trans (if_pos g)
theorem ckF_go {D : Pgm} (h : (kindsB D.ks && (wellR D.rs && decide (D.n3 = 8))) = true) (g : (allGo D.ks D.rs 0).2.2 = 0) : ckF D = tkF D.n1 D.ts := (if_neg (by rw [h]; decide)).trans (if_neg (fun q => q g))
theorem allF_go {ks : List Int} {ls : List (List Ins)} (h : kindsB ks = true) (g : wellR ls = true) : allF ls ks = allGo ks ls 0 := by
  have h1 : ks.length ≤ 8 := by
    unfold kindsB at h
    simp only [Bool.and_eq_true, decide_eq_true_iff] at h
    exact h.1
  have h2 := (wellR_all g).1
  unfold allF
  rw [if_neg (by omega), if_neg (by rw [h, g]; decide)]
set_option maxHeartbeats 1000000 in
theorem checkProgram_any (h : PH) (D : Pgm) (hm : D.le maxLen) (w : World) (ht : VTabs w) (hz : PLies w h D) :
    Calls Tryz.prog 27 #[pV h D] w fun e w' => e = .returned (.tuple #[.int .i64 (ckF D).1, .int .i64 (ckF D).2]) ∧ Below w.heap.size w w' := by
  have HX := Lib.hid (Bx.start w (pO h D 35))
  have HZ := Lib.hid hz
  have HT := Lib.hid (fun X (hb : Below w.heap.size w X) => ht.below hb (Nat.le_refl _))
  have HK := Lib.hid (fun w hz => kindsOK_any h.a0 h.c0 D.ks hm.h0 w hz)
  have HR := Lib.hid (fun w ht (hz : RL w h.a1 D.rs) => routinesOK_any h.a1 h.c1 D.rs hm.h1 hm.hr w ht hz.routs)
  have HV := Lib.hid (fun w ht (hz : RL w h.a1 D.rs) hy => verifyAll_any h.a1 h.c1 D.rs D.ks h.a0 h.c0 hm.h1 hm.hr hm.h0 w ht hz.routs hy)
  have HTK := Lib.hid (fun w hz => checkTasks_any D.ts h.a2 h.c2 D.n1 hm.h2 w hz)
  have HM3 : D.n3 ≤ 9223372036854775807 := hm.h3
  have HM1 : D.n1 ≤ 9223372036854775807 := hm.h1
  clear hz ht
  cases hk : kindsB D.ks
  · have HF := Lib.hid (ckF_bad (D := D) (by rw [hk]; rfl))
    rw [hk] at HK
    go_enter Tryz.func27, Tryz.ntmps27
    go_wp2_with (go_at_call 72; refine Calls.mono (HK.out _ (HZ.out.below HX.out.bel (Nat.le_refl _)).ks) ?_; rintro e w' ⟨rfl, rfl⟩)
    go_ret2
    exact ⟨ret_ii (by rw [HF.out]) (by rw [HF.out]), HX.out.bel⟩
  rw [hk] at HK
  cases hr : wellR D.rs
  · have HF := Lib.hid (ckF_bad (D := D) (by rw [hr, hk]; rfl))
    rw [hr] at HR
    go_enter Tryz.func27, Tryz.ntmps27
    go_wp2_with first | (go_at_call 72; refine Calls.mono (HK.out _ (HZ.out.below HX.out.bel (Nat.le_refl _)).ks) ?_; rintro e w' ⟨rfl, rfl⟩) | (go_at_call 73; refine Calls.mono (HR.out _ (HT.out _ HX.out.bel).op (HZ.out.below HX.out.bel (Nat.le_refl _)).rs) ?_; rintro e w2 ⟨rfl, hb2⟩; have HX := Lib.hid (HX.out.to hb2); clear hb2)
    go_ret2
    exact ⟨ret_ii (by rw [HF.out]) (by rw [HF.out]), HX.out.bel⟩
  rw [hr] at HR
  by_cases h8 : D.n3 = 8
  rotate_left
  · have HF := Lib.hid (ckF_bad (D := D) (by rw [hr, hk, decide_eq_false h8]; rfl))
    have e8 : ((D.n3 : Int) != 8) = true := by rw [bne_iff_ne]; omega
    go_enter Tryz.func27, Tryz.ntmps27
    go_wp2_with fail
    refine Calls.mono (HK.out _ (HZ.out.below HX.out.bel (Nat.le_refl _)).ks) ?_
    rintro e w1 ⟨rfl, rfl⟩
    go_wp2_with fail
    refine Calls.mono (HR.out _ (HT.out _ HX.out.bel).op (HZ.out.below HX.out.bel (Nat.le_refl _)).rs) ?_
    rintro e w2 ⟨rfl, hb2⟩
    have HX := Lib.hid (HX.out.to hb2)
    clear hb2
    have b3 := cell_of_row _ w.heap.size 3 _ _ _ HX.out.box
    go_wp2
    go_ret2
    exact ⟨ret_ii (by rw [HF.out]) (by rw [HF.out]), HX.out.bel⟩
  have e8 : ((D.n3 : Int) != 8) = false := by rw [bne_eq_false_iff_eq]; omega
  have hgood : (kindsB D.ks && (wellR D.rs && decide (D.n3 = 8))) = true := by rw [hr, hk, decide_eq_true h8]; rfl
  have HF1 := Lib.hid (fun g => ckF_ver (D := D) hgood g)
  have HF2 := Lib.hid (fun g => ckF_go (D := D) hgood g)
  rw [allF_go hk hr] at HV
  clear h8 hgood
  generalize allGo D.ks D.rs 0 = V at *
  obtain ⟨v1, v2, v3⟩ := V
  dsimp only at HV HF1 HF2
  by_cases h0 : v3 = 0
  · subst h0
    have HF := Lib.hid (HF2.out rfl)
    clear HF1 HF2
    generalize tkF D.n1 D.ts = R at *
    go_enter Tryz.func27, Tryz.ntmps27
    go_wp2_with fail
    refine Calls.mono (HK.out _ (HZ.out.below HX.out.bel (Nat.le_refl _)).ks) ?_
    rintro e w1 ⟨rfl, rfl⟩
    go_wp2_with fail
    refine Calls.mono (HR.out _ (HT.out _ HX.out.bel).op (HZ.out.below HX.out.bel (Nat.le_refl _)).rs) ?_
    rintro e w2 ⟨rfl, hb2⟩
    have HX := Lib.hid (HX.out.to hb2)
    clear hb2
    have b0 := cell_of_row _ w.heap.size 0 _ _ _ HX.out.box
    have b1 := cell_of_row _ w.heap.size 1 _ _ _ HX.out.box
    have b3 := cell_of_row _ w.heap.size 3 _ _ _ HX.out.box
    go_wp2_with fail
    refine Calls.mono (HV.out _ (HT.out _ HX.out.bel) (HZ.out.below HX.out.bel (Nat.le_refl _)).rs (HZ.out.below HX.out.bel (Nat.le_refl _)).ks) ?_
    rintro e w3 ⟨rfl, hb2⟩
    have HX := Lib.hid (HX.out.to hb2)
    clear hb2 b0 b1 b3
    have b1 := cell_of_row _ w.heap.size 1 _ _ _ HX.out.box
    have b2 := cell_of_row _ w.heap.size 2 _ _ _ HX.out.box
    go_wp2_with fail
    refine Calls.mono (HTK.out _ (HZ.out.below HX.out.bel (Nat.le_refl _)).ts) ?_
    rintro e w4 ⟨rfl, hb2⟩
    have HX := Lib.hid (HX.out.to hb2)
    clear hb2 b1 b2
    go_wp2
    go_ret2
    exact ⟨ret_ii (by rw [HF.out]) (by rw [HF.out]), HX.out.bel⟩
  · have HF := Lib.hid (HF1.out h0)
    have e3 : (v3 != 0) = true := by rw [bne_iff_ne]; exact h0
    clear HF1 HF2 h0
    go_enter Tryz.func27, Tryz.ntmps27
    go_wp2_with fail
    refine Calls.mono (HK.out _ (HZ.out.below HX.out.bel (Nat.le_refl _)).ks) ?_
    rintro e w1 ⟨rfl, rfl⟩
    go_wp2_with fail
    refine Calls.mono (HR.out _ (HT.out _ HX.out.bel).op (HZ.out.below HX.out.bel (Nat.le_refl _)).rs) ?_
    rintro e w2 ⟨rfl, hb2⟩
    have HX := Lib.hid (HX.out.to hb2)
    clear hb2
    have b0 := cell_of_row _ w.heap.size 0 _ _ _ HX.out.box
    have b1 := cell_of_row _ w.heap.size 1 _ _ _ HX.out.box
    have b3 := cell_of_row _ w.heap.size 3 _ _ _ HX.out.box
    go_wp2_with fail
    refine Calls.mono (HV.out _ (HT.out _ HX.out.bel) (HZ.out.below HX.out.bel (Nat.le_refl _)).rs (HZ.out.below HX.out.bel (Nat.le_refl _)).ks) ?_
    rintro e w3 ⟨rfl, hb2⟩
    have HX := Lib.hid (HX.out.to hb2)
    clear hb2 b0 b1 b3
    go_wp2
    go_ret2
    exact ⟨ret_ii (by rw [HF.out]) (by rw [HF.out]), HX.out.bel⟩
set_option maxHeartbeats 2000000 in
theorem l08Check_any (h : PH) (D : Pgm) (hm : D.le maxLen) (w : World) (hz : PLies w h D) :
    Calls Tryz.prog 60 #[pV h D] w fun e w' => e = .returned (.tuple #[.int .i64 (ckF D).1, .int .i64 (ckF D).2]) ∧ Below w.heap.size w w' := by
  have HX := Lib.hid (Bx.start w (pO h D 35))
  have HZ := Lib.hid hz
  have HK := Lib.hid (fun w hz => l04Kinds_any h.a0 h.c0 D.ks hm.h0 w hz)
  have HR := Lib.hid (fun w (hz : RL w h.a1 D.rs) => l04Routines_any h.a1 h.c1 D.rs hm.h1 hm.hr w hz.routs)
  have HV := Lib.hid (fun hkb hwr w (hz : RL w h.a1 D.rs) hy => l04All_any h.a1 h.c1 D.rs D.ks h.a0 h.c0 hkb hwr w hz.routs hy)
  have HM3 : D.n3 ≤ 9223372036854775807 := hm.h3
  have HM2 : D.n2 ≤ 9223372036854775807 := hm.h2
  have HM1 : D.n1 ≤ 9223372036854775807 := hm.h1
  clear hz
  cases hk : kindsB D.ks
  · have HF := Lib.hid (ckF_bad (D := D) (by rw [hk]; rfl))
    rw [hk] at HK
    go_enter Tryz.func60, Tryz.ntmps60
    go_wp2_with (go_at_call 110; refine Calls.mono (HK.out _ (HZ.out.below HX.out.bel (Nat.le_refl _)).ks) ?_; rintro e w' ⟨rfl, rfl⟩)
    go_ret2
    exact ⟨ret_ii (by rw [HF.out]) (by rw [HF.out]), HX.out.bel⟩
  rw [hk] at HK
  cases hr : wellR D.rs
  · have HF := Lib.hid (ckF_bad (D := D) (by rw [hr, hk]; rfl))
    rw [hr] at HR
    go_enter Tryz.func60, Tryz.ntmps60
    go_wp2_with fail
    refine Calls.mono (HK.out _ (HZ.out.below HX.out.bel (Nat.le_refl _)).ks) ?_
    rintro e w1 ⟨rfl, rfl⟩
    go_wp2_with fail
    refine Calls.mono (HR.out _ (HZ.out.below HX.out.bel (Nat.le_refl _)).rs) ?_
    rintro e w2 ⟨rfl, hb2⟩
    have HX := Lib.hid (HX.out.to hb2)
    clear hb2
    go_wp2
    go_ret2
    exact ⟨ret_ii (by rw [HF.out]) (by rw [HF.out]), HX.out.bel⟩
  rw [hr] at HR
  by_cases h8 : D.n3 = 8
  rotate_left
  · have HF := Lib.hid (ckF_bad (D := D) (by rw [hr, hk, decide_eq_false h8]; rfl))
    have e8 : ((D.n3 : Int) != 8) = true := by rw [bne_iff_ne]; omega
    go_enter Tryz.func60, Tryz.ntmps60
    go_wp2_with fail
    refine Calls.mono (HK.out _ (HZ.out.below HX.out.bel (Nat.le_refl _)).ks) ?_
    rintro e w1 ⟨rfl, rfl⟩
    go_wp2_with fail
    refine Calls.mono (HR.out _ (HZ.out.below HX.out.bel (Nat.le_refl _)).rs) ?_
    rintro e w2 ⟨rfl, hb2⟩
    have HX := Lib.hid (HX.out.to hb2)
    clear hb2
    have b3 := cell_of_row _ w.heap.size 3 _ _ _ HX.out.box
    go_wp2
    go_ret2
    exact ⟨ret_ii (by rw [HF.out]) (by rw [HF.out]), HX.out.bel⟩
  have e8 : ((D.n3 : Int) != 8) = false := by rw [bne_eq_false_iff_eq]; omega
  have hgood : (kindsB D.ks && (wellR D.rs && decide (D.n3 = 8))) = true := by rw [hr, hk, decide_eq_true h8]; rfl
  have HF1 := Lib.hid (fun g => ckF_ver (D := D) hgood g)
  have HF2 := Lib.hid (fun g => ckF_go (D := D) hgood g)
  have HV := Lib.hid (HV.out hk hr)
  clear h8 hgood
  generalize allGo D.ks D.rs 0 = V at *
  obtain ⟨v1, v2, v3⟩ := V
  dsimp only at HV HF1 HF2
  by_cases h0 : v3 = 0
  rotate_left
  · have HF := Lib.hid (HF1.out h0)
    have e3 : (v3 != 0) = true := by rw [bne_iff_ne]; exact h0
    clear HF1 HF2 h0
    go_enter Tryz.func60, Tryz.ntmps60
    go_wp2_with fail
    refine Calls.mono (HK.out _ (HZ.out.below HX.out.bel (Nat.le_refl _)).ks) ?_
    rintro e w1 ⟨rfl, rfl⟩
    go_wp2_with fail
    refine Calls.mono (HR.out _ (HZ.out.below HX.out.bel (Nat.le_refl _)).rs) ?_
    rintro e w2 ⟨rfl, hb2⟩
    have HX := Lib.hid (HX.out.to hb2)
    clear hb2
    have b0 := cell_of_row _ w.heap.size 0 _ _ _ HX.out.box
    have b1 := cell_of_row _ w.heap.size 1 _ _ _ HX.out.box
    have b3 := cell_of_row _ w.heap.size 3 _ _ _ HX.out.box
    go_wp2_with fail
    refine Calls.mono (HV.out _ (HZ.out.below HX.out.bel (Nat.le_refl _)).rs (HZ.out.below HX.out.bel (Nat.le_refl _)).ks) ?_
    rintro e w3 ⟨rfl, hb2⟩
    have HX := Lib.hid (HX.out.to hb2)
    clear hb2 b0 b1 b3
    go_wp2
    go_ret2
    exact ⟨ret_ii (by rw [HF.out]) (by rw [HF.out]), HX.out.bel⟩
  subst h0
  have hF := HF2.out rfl
  clear HF1 HF2
  by_cases g0 : D.n2 = 0
  · have HF : Hid (ckF D = (0, 5)) := Lib.hid (hF.trans (if_pos g0))
    have e0 : ((D.n2 : Int) == 0) = true := by rw [beq_iff_eq]; omega
    clear g0 hF
    go_enter Tryz.func60, Tryz.ntmps60
    go_wp2_with fail
    refine Calls.mono (HK.out _ (HZ.out.below HX.out.bel (Nat.le_refl _)).ks) ?_
    rintro e w1 ⟨rfl, rfl⟩
    go_wp2_with fail
    refine Calls.mono (HR.out _ (HZ.out.below HX.out.bel (Nat.le_refl _)).rs) ?_
    rintro e w2 ⟨rfl, hb2⟩
    have HX := Lib.hid (HX.out.to hb2)
    clear hb2
    have b0 := cell_of_row _ w.heap.size 0 _ _ _ HX.out.box
    have b1 := cell_of_row _ w.heap.size 1 _ _ _ HX.out.box
    have b3 := cell_of_row _ w.heap.size 3 _ _ _ HX.out.box
    go_wp2_with fail
    refine Calls.mono (HV.out _ (HZ.out.below HX.out.bel (Nat.le_refl _)).rs (HZ.out.below HX.out.bel (Nat.le_refl _)).ks) ?_
    rintro e w3 ⟨rfl, hb2⟩
    have HX := Lib.hid (HX.out.to hb2)
    clear hb2 b0 b1 b3
    have b2 := cell_of_row _ w.heap.size 2 _ _ _ HX.out.box
    go_wp2
    go_ret2
    exact ⟨ret_ii (by rw [HF.out]) (by rw [HF.out]), HX.out.bel⟩
  have e0 : ((D.n2 : Int) == 0) = false := by rw [beq_eq_false_iff_ne]; omega
  by_cases g5 : 5 < D.n2
  · have HF : Hid (ckF D = (0, 6)) := Lib.hid (hF.trans ((if_neg g0).trans (if_pos g5)))
    go_enter Tryz.func60, Tryz.ntmps60
    go_wp2_with fail
    refine Calls.mono (HK.out _ (HZ.out.below HX.out.bel (Nat.le_refl _)).ks) ?_
    rintro e w1 ⟨rfl, rfl⟩
    go_wp2_with fail
    refine Calls.mono (HR.out _ (HZ.out.below HX.out.bel (Nat.le_refl _)).rs) ?_
    rintro e w2 ⟨rfl, hb2⟩
    have HX := Lib.hid (HX.out.to hb2)
    clear hb2
    have b0 := cell_of_row _ w.heap.size 0 _ _ _ HX.out.box
    have b1 := cell_of_row _ w.heap.size 1 _ _ _ HX.out.box
    have b3 := cell_of_row _ w.heap.size 3 _ _ _ HX.out.box
    go_wp2_with fail
    refine Calls.mono (HV.out _ (HZ.out.below HX.out.bel (Nat.le_refl _)).rs (HZ.out.below HX.out.bel (Nat.le_refl _)).ks) ?_
    rintro e w3 ⟨rfl, hb2⟩
    have HX := Lib.hid (HX.out.to hb2)
    clear hb2 b0 b1 b3
    have b2 := cell_of_row _ w.heap.size 2 _ _ _ HX.out.box
    go_wp2
    go_ret2
    exact ⟨ret_ii (by rw [HF.out]) (by rw [HF.out]), HX.out.bel⟩
  have e5 : decide ((5 : Int) < D.n2) = false := decide_eq_false (by omega)
  have hT : ckF D = tkGo D.n1 (D.ts.drop 0) 0 := hF.trans ((if_neg g0).trans (if_neg g5))
  rw [hT]
  have HS := Lib.hid (fun j (h : j < D.ts.length) => tkGo_step (n := (D.n1 : Int)) h)
  have HE := Lib.hid (fun j (h : D.ts.length ≤ j) => tkGo_end (n := (D.n1 : Int)) h)
  have HL : Hid (D.ts.length = D.n2) := Lib.hid rfl
  generalize hq : tkGo D.n1 (D.ts.drop 0) 0 = R
  have HR2 : Hid (tkGo D.n1 (D.ts.drop 0) 0 = R) := Lib.hid hq
  clear hq hT hF g0
  go_enter Tryz.func60, Tryz.ntmps60
  go_wp2_with fail
  refine Calls.mono (HK.out _ (HZ.out.below HX.out.bel (Nat.le_refl _)).ks) ?_
  rintro e w1 ⟨rfl, rfl⟩
  go_wp2_with fail
  refine Calls.mono (HR.out _ (HZ.out.below HX.out.bel (Nat.le_refl _)).rs) ?_
  rintro e w2 ⟨rfl, hb2⟩
  have HX := Lib.hid (HX.out.to hb2)
  clear hb2
  have b0 := cell_of_row _ w.heap.size 0 _ _ _ HX.out.box
  have b1 := cell_of_row _ w.heap.size 1 _ _ _ HX.out.box
  have b3 := cell_of_row _ w.heap.size 3 _ _ _ HX.out.box
  go_wp2_with fail
  refine Calls.mono (HV.out _ (HZ.out.below HX.out.bel (Nat.le_refl _)).rs (HZ.out.below HX.out.bel (Nat.le_refl _)).ks) ?_
  rintro e w3 ⟨rfl, hb2⟩
  have HX := Lib.hid (HX.out.to hb2)
  clear hb2 b0 b1 b3
  have b2 := cell_of_row _ w.heap.size 2 _ _ _ HX.out.box
  go_wp2
  go_loopw [7] (fun i wr => ∃ j : Nat, j ≤ D.n2 ∧ i = .int .i64 j ∧ Hid (tkGo D.n1 (D.ts.drop j) j = R) ∧ Hid (Bx w (pO h D 35) wr)) (fun i _ => D.n2 - (intOf i).toNat)
  case atStart => exact ⟨0, Nat.zero_le _, rfl, HR2, HX⟩
  case round =>
    clear b2 HX
    obtain ⟨j, hj, rfl, hr, HX⟩ := hrel
    have b1 := cell_of_row _ w.heap.size 1 _ _ _ HX.out.box
    have b2 := cell_of_row _ w.heap.size 2 _ _ _ HX.out.box
    by_cases hlt : j < D.n2
    · obtain ⟨b, o, ea, hbl, hcs⟩ := HZ.out.ts.open (by rw [flat_len tC_len, HL.out]; omega)
      have q := C6.bel (tt_at hcs (i := j) (by rw [HL.out]; exact hlt)) HX.out.bel hbl
      have hg := HS.out j (by rw [HL.out]; exact hlt)
      rw [hr.out] at hg
      have HT := Lib.hid (fun w => specTaskOK_any (D.ts.getD j t0) w)
      have HQ := Lib.hid (fun w2 (hb : Below wr.heap.size wr w2) => C6.bel q hb (Nat.lt_of_lt_of_le hbl HX.out.bel.size))
      rw [ea] at b2
      obtain ⟨q0, q1, q2, q3, q4, q5⟩ := q
      clear hcs
      generalize D.ts.getD j t0 = z at *
      cases hk : tkB z
      · rw [hk, if_pos rfl] at hg
        rw [hk] at HT
        have HG := Lib.hid hg
        clear hg hk hr ea
        go_wp2_with fail
        refine Calls.mono (HT.out _) ?_
        rintro e w2 ⟨rfl, hb2⟩
        have HX := Lib.hid (HX.out.to hb2)
        clear hb2 q0 q1 q2 q3 q4 q5 b1 b2
        go_wp2
        go_ret2
        exact ⟨ret_ii (by rw [HG.out]) (by rw [HG.out]), HX.out.bel⟩
      · rw [hk, if_neg (by decide)] at hg
        rw [hk] at HT
        by_cases hr5 : z.r ≥ D.n1
        · rw [if_pos hr5] at hg
          have HG := Lib.hid hg
          clear hg hk hr
          go_wp2_with fail
          refine Calls.mono (HT.out _) ?_
          rintro e w2 ⟨rfl, hb2⟩
          have HX := Lib.hid (HX.out.to hb2)
          obtain ⟨q0, q1, q2, q3, q4, q5⟩ := HQ.out w2 hb2
          clear hb2 b1 b2 q0 q1 q2 q3 q4
          have b1 := cell_of_row _ w.heap.size 1 _ _ _ HX.out.box
          have b2 := cell_of_row _ w.heap.size 2 _ _ _ HX.out.box
          rw [ea] at b2
          clear ea
          go_wp2
          go_quiet (fail)
          go_wp2
          go_ret2
          exact ⟨ret_ii (by rw [HG.out]) (by rw [HG.out]), bel_dn HX.out.bel _⟩
        · rw [if_neg hr5] at hg
          have HG := Lib.hid hg
          clear hg hk hr
          have hr6 : z.r < D.n1 := by omega
          clear hr5
          go_wp2_with fail
          refine Calls.mono (HT.out _) ?_
          rintro e w2 ⟨rfl, hb2⟩
          have HX := Lib.hid (HX.out.to hb2)
          obtain ⟨q0, q1, q2, q3, q4, q5⟩ := HQ.out w2 hb2
          clear hb2 b1 b2 q0 q1 q2 q3 q4
          have b1 := cell_of_row _ w.heap.size 1 _ _ _ HX.out.box
          have b2 := cell_of_row _ w.heap.size 2 _ _ _ HX.out.box
          rw [ea] at b2
          clear ea
          go_wp2
          go_quiet (fail)
          go_wp2
          go_roundw
          case rel => exact ⟨j + 1, by omega, by go_num, Lib.hid HG.out.symm, Lib.hid (HX.out.to (bel_dn (Below.refl _ _) _))⟩
          case measure => simp [intOf]; omega
    · obtain rfl : j = D.n2 := by omega
      have HG := Lib.hid (HE.out _ (Nat.le_of_eq HL.out))
      clear hlt
      go_wp2
      go_ret2
      exact ⟨ret_ii (by rw [← hr.out, HG.out]) (by rw [← hr.out, HG.out]), HX.out.bel⟩
end Go.Proofs.YtppgknjpbfopjaaGreatDoor
