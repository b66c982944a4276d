/- Which data are valid: DataOK of impl and of spec. (Written by tools/gen_datok.py.) -/
import Derived.Test.YtgiegppakoiaiaaDoorDat2
import Derived.Test.YtgiegppakoiaiaaDoorEvery2
namespace Go.Proofs.YtgiegppakoiaiaaDoor
open Go.ChangeShapes Go.WideShapes Go.ChangeAt Go.RowKit
set_option linter.unusedVariables false
def datB (D : Dat) : Bool := (decide (D.n0 = 16) && (D.gl.all inI32 && (decide (D.n1 ≤ 8) && (D.bl.all ftB && (decide (D.n2 = 8) && (decide (D.n3 = 8) && (decide (D.n4 = 8) && (decide (D.n5 = 8) && (decide (0 ≤ D.wr) && decide (D.wr ≤ 2147483647))))))))))
theorem dbox (w : World) (O : Obj) : Below w.heap.size w (w.alloc O) := (Below.refl w.heap.size w).alloc (Nat.le_refl _) O
set_option maxRecDepth 100000 in
set_option maxHeartbeats 4000000 in
theorem dataOK_any (h : DH) (D : Dat) (hm : D.le maxLen) (w : World) (ht : FbTab w) (hz : DLies w h D) :
    Calls Tryd.prog 17 #[dV h D] w fun e w' => e = .returned (.bool (datB D)) ∧ Below w.heap.size w w' := by
  have HA := Lib.hid (dbox w (dO h D 27))
  have HE0 := Lib.hid (everyVal_any D.gl h.a0 h.c0 hm.h0 (w.alloc (dO h D 27)) (hz.gl.below HA.out (Nat.le_refl _)))
  have HE1 := Lib.hid (everyFb_any D.bl h.a1 h.c1 hm.h1 (w.alloc (dO h D 27)) (ht.below HA.out (Nat.le_refl _)) (hz.bl.below HA.out (Nat.le_refl _)))
  obtain ⟨b0, b1, b2, b3, b4, b5⟩ := hm
  unfold maxLen at b0 b1 b2 b3 b4 b5
  have HD : datB D = (decide (D.n0 = 16) && (D.gl.all inI32 && (decide (D.n1 ≤ 8) && (D.bl.all ftB && (decide (D.n2 = 8) && (decide (D.n3 = 8) && (decide (D.n4 = 8) && (decide (D.n5 = 8) && (decide (0 ≤ D.wr) && decide (D.wr ≤ 2147483647)))))))))) := rfl
  generalize datB D = R at *
  have HD' := Lib.hid HD
  clear HD hz ht
  generalize D.gl.all inI32 = p at *
  generalize D.bl.all ftB = q at *
  cases p <;> cases q
  all_goals
    go_enter Tryd.func17, Tryd.ntmps17
    go_wp2_with first | (go_at_call 57; refine HE0.out.mono ?_; rintro e w' ⟨rfl, rfl⟩) | (go_at_call 59; refine HE1.out.mono ?_; rintro e w2 ⟨rfl, hb2⟩; have Hb2 := Lib.hid hb2; have hk := blk_bel (heap_alloc_new w (dO h D 27)) hb2; have q2 := cell_of_row w2 w.heap.size 2 _ _ _ hk; have q3 := cell_of_row w2 w.heap.size 3 _ _ _ hk; have q4 := cell_of_row w2 w.heap.size 4 _ _ _ hk; have q5 := cell_of_row w2 w.heap.size 5 _ _ _ hk; have q6 := cell_of_row w2 w.heap.size 6 _ _ _ hk; clear hk hb2)
  all_goals
    go_ret
    refine ⟨fb_rb ?_, ?_⟩
    · clear HE0 HE1
      rw [HD'.out, Bool.eq_iff_iff]
      simp
      try omega
    · first | exact HA.out | exact HA.out.trans (Hb2.out.mono HA.out.size)
theorem dk_l01Int (n : Int) (w : World) : Calls Tryd.prog 74 #[.int .i64 n] w fun e w' => e = .returned (.bool (inI32 n)) ∧ w = w' := by
  go_enter Tryd.func74, Tryd.ntmps74
  go_wp2_with (go_at_call 49; refine (fbIn_any _ _ _ _).mono ?_; rintro e w' ⟨rfl, rfl⟩)
  go_ret
  exact ⟨rfl, rfl⟩
theorem dk_l01Int_is {n : Int} {b : Bool} (h : inI32 n = b) (w : World) : Calls Tryd.prog 74 #[.int .i64 n] w fun e w' => e = .returned (.bool b) ∧ w = w' := h ▸ dk_l01Int n w
theorem dk_In {n a c : Int} {b : Bool} (h : fbIn n a c = b) (w : World) : Calls Tryd.prog 49 #[.int .i64 n, .int .i64 a, .int .i64 c] w fun e w' => e = .returned (.bool b) ∧ w = w' := h ▸ fbIn_any n a c w
theorem dk_Fb {z : FT} {b : Bool} (h : ftB z = b) (w : World) : Calls Tryd.prog 75 #[fV z] w fun e w' => e = .returned (.bool b) ∧ Below w.heap.size w w' := specFbOK_is h w
/-- The sizes and the count are in order. -/
def datS (D : Dat) : Prop := D.n0 = 16 ∧ D.n1 ≤ 8 ∧ D.n2 = 8 ∧ D.n3 = 8 ∧ D.n4 = 8 ∧ D.n5 = 8 ∧ fbIn D.wr 0 2147483647 = true
theorem datB_no {D : Dat} (h : ¬ datS D) : datB D = false := by
  cases e : datB D
  · rfl
  · unfold datB at e
    simp only [Bool.and_eq_true, decide_eq_true_iff] at e
    exact absurd ⟨e.1, e.2.2.1, e.2.2.2.2.1, e.2.2.2.2.2.1, e.2.2.2.2.2.2.1, e.2.2.2.2.2.2.2.1, decide_eq_true ⟨e.2.2.2.2.2.2.2.2.1, e.2.2.2.2.2.2.2.2.2⟩⟩ h
theorem datB_if {D : Dat} (h : datS D) : datB D = (D.gl.all inI32 && D.bl.all ftB) := by
  obtain ⟨h0, h1, h2, h3, h4, h5, h6⟩ := h
  have := of_decide_eq_true h6
  unfold datB
  rw [decide_eq_true h0, decide_eq_true h1, decide_eq_true h2, decide_eq_true h3, decide_eq_true h4, decide_eq_true h5, decide_eq_true this.1, decide_eq_true this.2]
  simp
/-- What a valid state's lists are. -/
theorem datB_parts {D : Dat} (h : datB D = true) : datS D ∧ D.gl.all inI32 = true ∧ D.bl.all ftB = true := by
  by_cases hs : datS D
  · rw [datB_if hs, Bool.and_eq_true] at h
    exact ⟨hs, h.1, h.2⟩
  · rw [datB_no hs] at h
    cases h
set_option maxRecDepth 100000 in
set_option maxHeartbeats 4000000 in
theorem specDataOK_any (h : DH) (D : Dat) (hm : D.le maxLen) (w : World) (hz : DLies w h D) :
    Calls Tryd.prog 31 #[dV h D] w fun e w' => e = .returned (.bool (datB D)) ∧ Below w.heap.size w w' := by
  obtain ⟨a0, a1, a2, a3, a4, a5, e0, e1, e2, e3, e4, e5⟩ := h
  have HA := Lib.hid (dbox w (dO ⟨a0, a1, a2, a3, a4, a5, e0, e1, e2, e3, e4, e5⟩ D 27))
  have HZ := Lib.hid hz
  obtain ⟨b0, b1, b2, b3, b4, b5⟩ := hm
  unfold maxLen at b0 b1 b2 b3 b4 b5
  have HNO := Lib.hid (@datB_no D)
  have HIF := Lib.hid (@datB_if D)
  have HX0 := Lib.hid (fun j (h : j < D.n0) (g : inI32 (D.gl.getD j 0) = false) => all_no inI32 0 (l := D.gl) h g)
  have HY0 := Lib.hid (fun h => all_yes inI32 0 (l := D.gl) h)
  have HX1 := Lib.hid (fun j (h : j < D.n1) (g : ftB (D.bl.getD j f0) = false) => all_no ftB f0 (l := D.bl) h g)
  have HY1 := Lib.hid (fun h => all_yes ftB f0 (l := D.bl) h)
  have HL0 : Hid (D.gl.length = D.n0) := Lib.hid rfl
  have HL1 : Hid (D.bl.length = D.n1) := Lib.hid rfl
  generalize datB D = R at *
  clear hz
  by_cases k0 : D.n0 = 16
  case neg =>
    have HR := Lib.hid (HNO.out (fun q => k0 q.1))
    have g0 : (((D.n0 : Nat) : Int) != 16) = true := by rw [bne_iff_ne]; omega
    go_enter Tryd.func31, Tryd.ntmps31
    go_wp2
    go_ret
    exact ⟨fb_rb (by rw [HR.out]), HA.out⟩
  have K0 := Lib.hid k0
  have g0 : (((D.n0 : Nat) : Int) != 16) = false := by rw [bne_eq_false_iff_eq]; omega
  clear k0
  by_cases k1 : D.n1 ≤ 8
  case neg =>
    have HR := Lib.hid (HNO.out (fun q => k1 q.2.1))
    go_enter Tryd.func31, Tryd.ntmps31
    go_wp2
    go_ret
    exact ⟨fb_rb (by rw [HR.out]), HA.out⟩
  have K1 := Lib.hid k1
  by_cases k2 : D.n2 = 8
  case neg =>
    have HR := Lib.hid (HNO.out (fun q => k2 q.2.2.1))
    have g2 : (((D.n2 : Nat) : Int) != 8) = true := by rw [bne_iff_ne]; omega
    go_enter Tryd.func31, Tryd.ntmps31
    go_wp2
    go_ret
    exact ⟨fb_rb (by rw [HR.out]), HA.out⟩
  have K2 := Lib.hid k2
  have g2 : (((D.n2 : Nat) : Int) != 8) = false := by rw [bne_eq_false_iff_eq]; omega
  clear k2
  by_cases k3 : D.n3 = 8
  case neg =>
    have HR := Lib.hid (HNO.out (fun q => k3 q.2.2.2.1))
    have g3 : (((D.n3 : Nat) : Int) != 8) = true := by rw [bne_iff_ne]; omega
    go_enter Tryd.func31, Tryd.ntmps31
    go_wp2
    go_ret
    exact ⟨fb_rb (by rw [HR.out]), HA.out⟩
  have K3 := Lib.hid k3
  have g3 : (((D.n3 : Nat) : Int) != 8) = false := by rw [bne_eq_false_iff_eq]; omega
  clear k3
  by_cases k4 : D.n4 = 8
  case neg =>
    have HR := Lib.hid (HNO.out (fun q => k4 q.2.2.2.2.1))
    have g4 : (((D.n4 : Nat) : Int) != 8) = true := by rw [bne_iff_ne]; omega
    go_enter Tryd.func31, Tryd.ntmps31
    go_wp2
    go_ret
    exact ⟨fb_rb (by rw [HR.out]), HA.out⟩
  have K4 := Lib.hid k4
  have g4 : (((D.n4 : Nat) : Int) != 8) = false := by rw [bne_eq_false_iff_eq]; omega
  clear k4
  by_cases k5 : D.n5 = 8
  case neg =>
    have HR := Lib.hid (HNO.out (fun q => k5 q.2.2.2.2.2.1))
    have g5 : (((D.n5 : Nat) : Int) != 8) = true := by rw [bne_iff_ne]; omega
    go_enter Tryd.func31, Tryd.ntmps31
    go_wp2
    go_ret
    exact ⟨fb_rb (by rw [HR.out]), HA.out⟩
  have K5 := Lib.hid k5
  have g5 : (((D.n5 : Nat) : Int) != 8) = false := by rw [bne_eq_false_iff_eq]; omega
  clear k5
  cases k6 : fbIn D.wr 0 2147483647
  · have HR := Lib.hid (HNO.out (fun q => by have := q.2.2.2.2.2.2; rw [k6] at this; cases this))
    have HC := Lib.hid k6
    clear k6
    go_enter Tryd.func31, Tryd.ntmps31
    go_wp2_with (go_at_call 49; refine (dk_In HC.out _).mono ?_; rintro e w' ⟨rfl, rfl⟩)
    go_ret
    exact ⟨fb_rb (by rw [HR.out]), HA.out⟩
  have HR := Lib.hid (HIF.out ⟨K0.out, K1.out, K2.out, K3.out, K4.out, K5.out, k6⟩)
  have HC := Lib.hid k6
  clear k6 HNO HIF
  go_enter Tryd.func31, Tryd.ntmps31
  go_wp2_with (go_at_call 49; refine (dk_In HC.out _).mono ?_; rintro e w' ⟨rfl, rfl⟩)
  go_loop [3] (fun i => ∃ j : Nat, j ≤ D.n0 ∧ i = .int .i64 j ∧ Hid (∀ q, q < j → inI32 (D.gl.getD q 0) = true)) (fun i => D.n0 - (intOf i).toNat)
  case atStart => exact ⟨0, Nat.zero_le _, rfl, Lib.hid (by intro q hq; omega)⟩
  case round =>
    obtain ⟨j, hj, rfl, hr⟩ := hrel
    by_cases hlt : j < D.n0
    · obtain ⟨b, o, rfl, hbl, hcs⟩ := HZ.out.gl.open (by rw [kC_len, HL0.out]; omega)
      have c0 := kind_at hcs (i := j) (by rw [HL0.out]; exact hlt)
      clear hcs
      cases hk : inI32 (D.gl.getD j 0)
      · have HR2 := Lib.hid (HX0.out j hlt hk)
        have HC := Lib.hid hk
        clear hk
        generalize D.gl.getD j 0 = z at *
        go_wp2_with (go_at_call 74; refine (dk_l01Int_is HC.out _).mono ?_; rintro e w' ⟨rfl, rfl⟩)
        go_ret
        exact ⟨fb_rb (by rw [HR.out, HR2.out]; rfl), HA.out⟩
      · have HC := Lib.hid hk
        have HN : Hid (∀ q, q < j + 1 → inI32 (D.gl.getD q 0) = true) := Lib.hid (fun q hq => by
          by_cases e : q = j
          · rw [e]; exact HC.out
          · exact hr.out q (by omega))
        clear hk
        generalize D.gl.getD j 0 = z at *
        go_wp2_with (go_at_call 74; refine (dk_l01Int_is HC.out _).mono ?_; rintro e w' ⟨rfl, rfl⟩)
        go_round
        case rel => exact ⟨j + 1, by omega, by go_num, HN⟩
        case measure => simp [intOf]; omega
    · obtain rfl : j = D.n0 := by omega
      have HR2 := Lib.hid (HY0.out hr.out)
      clear hlt
      go_wp2
      go_loopw [4] (fun i wr => ∃ j : Nat, j ≤ D.n1 ∧ i = .int .i64 j ∧ Hid (∀ q, q < j → ftB (D.bl.getD q f0) = true) ∧ Hid (Below (w.heap.size + 1) (w.alloc (dO ⟨a0, a1, a2, a3, a4, a5, e0, e1, e2, e3, e4, e5⟩ D 27)) wr)) (fun i _ => D.n1 - (intOf i).toNat)
      case atStart => exact ⟨0, Nat.zero_le _, rfl, Lib.hid (by intro q hq; omega), Lib.hid (Below.refl _ _)⟩
      case round =>
        obtain ⟨j, hj, rfl, hr1, hb⟩ := hrel
        have HBB := Lib.hid (HA.out.trans (hb.out.mono (Nat.le_succ _)))
        have hkk := (hb.out.block w.heap.size (Nat.lt_succ_self _)).trans (heap_alloc_new w (dO ⟨a0, a1, a2, a3, a4, a5, e0, e1, e2, e3, e4, e5⟩ D 27))
        have q1 := cell_of_row wr w.heap.size 1 _ _ _ hkk
        clear hkk
        by_cases hlt : j < D.n1
        · obtain ⟨b, o, rfl, hbl, hcs⟩ := HZ.out.bl.open (by rw [flat_len fC_len, HL1.out]; omega)
          have c4 : C4 b (o + j * 4) (D.bl.getD j f0) w := ft_at hcs (by rw [HL1.out]; exact hlt)
          obtain ⟨d0, d1, d2, d3⟩ := c4.bel HBB.out hbl
          clear hcs c4
          cases hk : ftB (D.bl.getD j f0)
          · have HR3 := Lib.hid (HX1.out j hlt hk)
            have HC := Lib.hid (fun w => dk_Fb hk w)
            clear hk
            generalize D.bl.getD j f0 = z at *
            go_wp2_with fail
            refine Calls.mono (HC.out _) ?_
            rintro e w2 ⟨rfl, hb2⟩
            have Hb2 := Lib.hid (HBB.out.trans (hb2.mono HBB.out.size))
            clear hb2
            go_wp2
            go_ret
            exact ⟨fb_rb (by rw [HR.out, HR3.out, Bool.and_false]), Hb2.out⟩
          · have HN : Hid (∀ q, q < j + 1 → ftB (D.bl.getD q f0) = true) := Lib.hid (fun q hq => by
              by_cases e : q = j
              · rw [e]; exact hk
              · exact hr1.out q (by omega))
            have HC := Lib.hid (fun w => dk_Fb hk w)
            clear hk
            generalize D.bl.getD j f0 = z at *
            go_wp2_with fail
            refine Calls.mono (HC.out _) ?_
            rintro e w2 ⟨rfl, hb2⟩
            have Hb2 := Lib.hid (hb.out.trans (hb2.mono (by have := hb.out.size; simpa using this)))
            clear hb2 d0 d1 d2 d3 q1
            go_wp2
            go_roundw
            case rel => exact ⟨j + 1, by omega, by go_num, HN, Hb2⟩
            case measure => simp [intOf]; omega
        · obtain rfl : j = D.n1 := by omega
          have HR3 := Lib.hid (HY1.out hr1.out)
          go_wp2
          go_ret
          exact ⟨fb_rb (by rw [HR.out, HR2.out, HR3.out]; rfl), HBB.out⟩
end Go.Proofs.YtgiegppakoiaiaaDoor
