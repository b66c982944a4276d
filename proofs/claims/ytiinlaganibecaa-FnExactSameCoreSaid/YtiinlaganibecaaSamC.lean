/- SameCore of impl and of spec. -/
import Derived.Test.YtiinlaganibecaaCor3
import Derived.Test.YtiinlaganibecaaEqI
namespace Go.Proofs.Ytiinlaganibecaa
open Go.ChangeShapes Go.WideShapes Go.ChangeAt Go.RowKit
set_option linter.unusedVariables false
def frB (f g : FM) : Bool := decide (f = g) && decide (f.2.2.length ≤ 4)
def frsB (l m : List FM) : Bool := decide (l = m) && l.all fun f => decide (f.2.2.length ≤ 4)
theorem frB_r {f g : FM} (h : f.1 ≠ g.1) : frB f g = false := by unfold frB; rw [decide_eq_false (fun e => h (by rw [e]))]; rfl
theorem frB_p {f g : FM} (h : f.2.1 ≠ g.2.1) : frB f g = false := by unfold frB; rw [decide_eq_false (fun e => h (by rw [e]))]; rfl
theorem frB_n {f g : FM} (h : ¬ f.2.2.length ≤ 4) : frB f g = false := by unfold frB; rw [decide_eq_false h, Bool.and_false]
theorem frB_l {f g : FM} (h1 : f.1 = g.1) (h2 : f.2.1 = g.2.1) (h3 : f.2.2.length ≤ 4) : frB f g = decide (f.2.2 = g.2.2) := by
  unfold frB
  rw [decide_eq_true h3, Bool.and_true]
  obtain ⟨a, b, c⟩ := f
  obtain ⟨a', b', c'⟩ := g
  simp only at h1 h2
  subst h1 h2
  simp
theorem frsB_len {l m : List FM} (h : l.length ≠ m.length) : frsB l m = false := by unfold frsB; rw [eql_len h]; rfl
theorem frsB_no {l m : List FM} {j : Nat} (hj : j < l.length) (h : frB (l.getD j fm0) (m.getD j fm0) = false) : frsB l m = false := by
  unfold frsB frB at *
  by_cases e : l = m
  · subst e
    rw [decide_eq_true rfl, Bool.true_and] at h
    rw [decide_eq_true rfl, Bool.true_and, List.all_eq_false]
    exact ⟨l.getD j fm0, by simp [List.getD, hj], by rw [h]; simp⟩
  · rw [decide_eq_false e]; rfl
theorem frsB_yes {l m : List FM} (hn : l.length = m.length) (h : ∀ j, j < l.length → frB (l.getD j fm0) (m.getD j fm0) = true) : frsB l m = true := by
  unfold frsB
  have h1 : ∀ j, j < l.length → l.getD j fm0 = m.getD j fm0 := fun j hj => by
    have := h j hj
    unfold frB at this
    rw [Bool.and_eq_true] at this
    exact of_decide_eq_true this.1
  rw [eql_yes fm0 hn h1, Bool.true_and, List.all_eq_true]
  intro f hf
  obtain ⟨j, hj, rfl⟩ := List.getElem_of_mem hf
  have := h j hj
  unfold frB at this
  rw [Bool.and_eq_true] at this
  simpa [List.getD, hj] using this.2
set_option maxRecDepth 100000 in
set_option maxHeartbeats 1000000 in
theorem sameFrame_any (f g : FM) (a b : Option Addr) (c d : Nat) (hl : f.2.2.length ≤ maxLen) (hm : g.2.2.length ≤ maxLen) (w : World) (hz : Lies w a (kC f.2.2)) (hy : Lies w b (kC g.2.2)) :
    Calls Try.prog 16 #[.agg #[.int .i64 f.1, .int .i64 f.2.1, .slice a f.2.2.length c], .agg #[.int .i64 g.1, .int .i64 g.2.1, .slice b g.2.2.length d]] w fun e w' => e = .returned (.bool (frB f g)) ∧ Below w.heap.size w w' := by
  have HE := Lib.hid (fun w hz hy => slEqI_any f.2.2 g.2.2 a b c d hl hm w hz hy)
  have HB := Lib.hid (Bx2.start w (.cells #[.int .i64 f.1, .int .i64 f.2.1, .slice a f.2.2.length c] 38) (.cells #[.int .i64 g.1, .int .i64 g.2.1, .slice b g.2.2.length d] 38))
  have HZ := Lib.hid hz
  have HY := Lib.hid hy
  have HFr := Lib.hid (@frB_r f g)
  have HFp := Lib.hid (@frB_p f g)
  have HFn := Lib.hid (@frB_n f g)
  have HFl := Lib.hid (@frB_l f g)
  clear hz hy hl hm
  generalize frB f g = R at *
  generalize decide (f.2.2 = g.2.2) = E at *
  generalize f.2.2.length = n at *
  generalize g.2.2.length = m at *
  generalize f.1 = r at *
  generalize g.1 = r' at *
  generalize f.2.1 = p at *
  generalize g.2.1 = p' at *
  by_cases h1 : r = r'
  case neg =>
    have HR := Lib.hid (HFr.out h1)
    have e1 : (r == r') = false := by rw [beq_eq_false_iff_ne]; exact h1
    clear h1
    go_enter Try.func16, Try.ntmps16
    go_wp2
    go_ret
    exact ⟨rb_eq HR.out.symm, HB.out.bel⟩
  by_cases h2 : p = p'
  case neg =>
    have HR := Lib.hid (HFp.out h2)
    have e1 : (r == r') = true := by rw [beq_iff_eq]; exact h1
    have e2 : (p == p') = false := by rw [beq_eq_false_iff_ne]; exact h2
    clear h1 h2
    go_enter Try.func16, Try.ntmps16
    go_wp2
    go_ret
    exact ⟨rb_eq HR.out.symm, HB.out.bel⟩
  by_cases h3 : n ≤ 4
  case neg =>
    have HR := Lib.hid (HFn.out h3)
    have e1 : (r == r') = true := by rw [beq_iff_eq]; exact h1
    have e2 : (p == p') = true := by rw [beq_iff_eq]; exact h2
    have e3 : ¬ ((n : Int) ≤ 4) := by omega
    clear h1 h2 h3
    go_enter Try.func16, Try.ntmps16
    go_wp2
    go_ret
    exact ⟨rb_eq HR.out.symm, HB.out.bel⟩
  have HR := Lib.hid (HFl.out h1 h2 h3)
  have e1 : (r == r') = true := by rw [beq_iff_eq]; exact h1
  have e2 : (p == p') = true := by rw [beq_iff_eq]; exact h2
  have e3 : (n : Int) ≤ 4 := by omega
  clear h1 h2 h3
  go_enter Try.func16, Try.ntmps16
  go_wp2_with fail
  refine Calls.mono (HE.out _ (HZ.out.below HB.out.bel (Nat.le_refl _)) (HY.out.below HB.out.bel (Nat.le_refl _))) ?_
  rintro e w1 ⟨rfl, hb1⟩
  have HB := Lib.hid (HB.out.to hb1)
  clear hb1
  go_wp2
  go_ret
  exact ⟨rb_eq (by rw [HR.out]), HB.out.bel⟩
set_option maxRecDepth 100000 in
set_option maxHeartbeats 1000000 in
theorem eqFuncF_any (l m : List FM) (a b : Option Addr) (c d : Nat) (hl : l.length ≤ maxLen) (hm : m.length ≤ maxLen) (hl2 : ∀ j, j < l.length → (l.getD j fm0).2.2.length ≤ maxLen) (hm2 : ∀ j, j < m.length → (m.getD j fm0).2.2.length ≤ maxLen) (w : World) (hz : Frs w a l) (hy : Frs w b m) :
    Calls Try.prog 15 #[.slice a l.length c, .slice b m.length d, .func (.func 16) #[] #[]] w fun e w' => e = .returned (.bool (frsB l m)) ∧ Below w.heap.size w w' := by
  have HZ := Lib.hid hz
  have HY := Lib.hid hy
  have HE := Lib.hid (@frsB_len l m)
  have HN := Lib.hid (fun j => @frsB_no l m j)
  have HYE := Lib.hid (@frsB_yes l m)
  have HA := Lib.hid (fun w (h : Frs w a l) j (hj : j < l.length) => h.at hj)
  have HB2 := Lib.hid (fun w (h : Frs w b m) j (hj : j < m.length) => h.at hj)
  have HS := Lib.hid (fun j (h1 : j < l.length) (h2 : j < m.length) a b c d w hz hy => sameFrame_any (l.getD j fm0) (m.getD j fm0) a b c d (hl2 j h1) (hm2 j h2) w hz hy)
  clear hz hy hl2 hm2
  generalize frsB l m = R at *
  unfold maxLen at hl hm
  generalize hL : l.length = n at *
  generalize hM : m.length = p at *
  clear hL hM
  by_cases hnp : n = p
  case neg =>
    have HR := Lib.hid (HE.out hnp)
    have hb : ((n : Int) != p) = true := by rw [bne_iff_ne]; omega
    clear hnp
    go_enter Try.func15, Try.ntmps15
    go_wp2
    go_ret
    exact ⟨rb_eq HR.out.symm, Below.refl _ _⟩
  subst hnp
  have hs : ((n : Int) != n) = false := by simp
  go_enter Try.func15, Try.ntmps15
  go_wp2
  go_loopw [17] (fun i wr => ∃ k : Nat, k ≤ n ∧ i = .int .i64 k ∧ Hid (∀ q, q < k → frB (l.getD q fm0) (m.getD q fm0) = true) ∧ Hid (Below w.heap.size w wr)) (fun i _ => n - (intOf i).toNat)
  case atStart => exact ⟨0, Nat.zero_le _, rfl, Lib.hid (by intro q hq; omega), Lib.hid (Below.refl _ _)⟩
  case round =>
    obtain ⟨k, hk, rfl, hr, hb⟩ := hrel
    by_cases hlt : k < n
    · obtain ⟨b1, o1, x1, c1, rfl, hb1, hp1, hq1, hc1, hz1⟩ := HA.out w HZ.out k hlt
      obtain ⟨b2, o2, x2, c2, rfl, hb2, hp2, hq2, hc2, hz2⟩ := HB2.out w HY.out k hlt
      have d0 := (hb.out.cell (p := ⟨b1, o1 + k * 3, none⟩) hb1).trans hp1
      have d1 := (hb.out.cell (p := ⟨b1, o1 + k * 3 + 1, none⟩) hb1).trans hq1
      have d2 := (hb.out.cell (p := ⟨b1, o1 + k * 3 + 2, none⟩) hb1).trans hc1
      have HD2 : Hid (∀ w2, Below w.heap.size w w2 → w2.cell? ⟨b2, o2 + k * 3, none⟩ = some (.int .i64 (m.getD k fm0).1) ∧ w2.cell? ⟨b2, o2 + k * 3 + 1, none⟩ = some (.int .i64 (m.getD k fm0).2.1) ∧ w2.cell? ⟨b2, o2 + k * 3 + 2, none⟩ = some (.slice x2 (m.getD k fm0).2.2.length c2)) := Lib.hid (fun w2 hb => ⟨(hb.cell (p := ⟨b2, o2 + k * 3, none⟩) hb2).trans hp2, (hb.cell (p := ⟨b2, o2 + k * 3 + 1, none⟩) hb2).trans hq2, (hb.cell (p := ⟨b2, o2 + k * 3 + 2, none⟩) hb2).trans hc2⟩)
      have HE := Lib.hid (fun w2 (h : Below w.heap.size w w2) => HS.out k hlt hlt x1 x2 c1 c2 w2 (hz1.below h (Nat.le_refl _)) (hz2.below h (Nat.le_refl _)))
      have HX := Lib.hid (HN.out k hlt)
      have HK : Hid (frB (l.getD k fm0) (m.getD k fm0) = true → ∀ q, q < k + 1 → frB (l.getD q fm0) (m.getD q fm0) = true) := Lib.hid (fun h q hq => by
        by_cases e : q = k
        · rw [e]; exact h
        · exact hr.out q (by omega))
      clear hp1 hq1 hc1 hz1 hp2 hq2 hc2 hz2 HS
      generalize frB (l.getD k fm0) (m.getD k fm0) = T at *
      generalize (l.getD k fm0).2.2.length = n1 at *
      generalize (m.getD k fm0).2.2.length = n2 at *
      generalize (l.getD k fm0).1 = r1 at *
      generalize (m.getD k fm0).1 = r2 at *
      generalize (l.getD k fm0).2.1 = p1 at *
      generalize (m.getD k fm0).2.1 = p2 at *
      have HBa := Lib.hid (hb.out.alloc hb.out.size (.cells #[.int .i64 r1, .int .i64 p1, .slice x1 n1 c1] 38))
      obtain ⟨d3, d4, d5⟩ := HD2.out _ HBa.out
      have HBb := Lib.hid (HBa.out.alloc HBa.out.size (.cells #[.int .i64 r2, .int .i64 p2, .slice x2 n2 c2] 38))
      cases T
      case false =>
        have HR := Lib.hid (HX.out rfl)
        go_wp2_with fail
        refine Calls.mono (HE.out _ HBb.out) ?_
        rintro e w2 ⟨rfl, hb3⟩
        have Hb3 := Lib.hid (HBb.out.trans (hb3.mono HBb.out.size))
        clear hb3
        go_wp2
        go_ret
        exact ⟨rb_eq HR.out.symm, Hb3.out⟩
      case true =>
        have HK2 := Lib.hid (HK.out rfl)
        go_wp2_with fail
        refine Calls.mono (HE.out _ HBb.out) ?_
        rintro e w2 ⟨rfl, hb3⟩
        have Hb3 := Lib.hid (HBb.out.trans (hb3.mono HBb.out.size))
        clear hb3 d0 d1 d2 d3 d4 d5
        go_wp2
        go_roundw
        case rel => exact ⟨k + 1, by omega, by go_num, HK2, Hb3⟩
        case measure => simp [intOf]; omega
    · obtain rfl : k = n := by omega
      have HR := Lib.hid (HYE.out (by first | rfl | trivial) hr.out)
      go_wp2
      go_ret
      exact ⟨rb_eq HR.out.symm, hb.out⟩
def bigB (C : Cor) : Bool := decide (C.fr.length ≤ 6 ∧ C.st.length ≤ 48)
def sameCB (A B : Cor) : Bool := bigB A && (frsB A.fr B.fr && decide (A.st = B.st))
set_option maxRecDepth 100000 in
set_option maxHeartbeats 1000000 in
theorem sameCore_any (h g : CH) (A B : Cor) (hA : A.le maxLen) (hB : B.le maxLen) (w : World) (hz : CLies w h A) (hy : CLies w g B) :
    Calls Try.prog 7 #[cV h A, cV g B] w fun e w' => e = .returned (.bool (sameCB A B)) ∧ Below w.heap.size w w' := by
  have HB := Lib.hid (Bx2.start w (cO h A 30) (cO g B 30))
  have HZ := Lib.hid hz
  have HY := Lib.hid hy
  have HC0 := Lib.hid (fun w hz hy => eqFuncF_any A.fr B.fr h.a0 g.a0 h.c0 g.c0 hA.h0 hB.h0 hA.h2 hB.h2 w hz hy)
  have HC1 := Lib.hid (fun w hz hy => slEqI_any A.st B.st h.a1 g.a1 h.c1 g.c1 hA.h1 hB.h1 w hz hy)
  have HR0 : Hid (sameCB A B = (bigB A && (frsB A.fr B.fr && decide (A.st = B.st)))) := Lib.hid rfl
  have HBG : Hid (bigB A = decide (A.fr.length ≤ 6 ∧ A.st.length ≤ 48)) := Lib.hid rfl
  clear hz hy
  generalize sameCB A B = R at *
  generalize frsB A.fr B.fr = t0 at *
  generalize decide (A.st = B.st) = t1 at *
  generalize bigB A = t2 at *
  by_cases h1 : A.fr.length ≤ 6
  case neg =>
    have HR : Hid (R = false) := Lib.hid (by rw [HR0.out, HBG.out, decide_eq_false (by omega)]; rfl)
    have e1 : ¬ ((A.fr.length : Int) ≤ 6) := by omega
    clear h1
    go_enter Try.func7, Try.ntmps7
    go_wp2
    go_ret
    exact ⟨rb_eq HR.out.symm, HB.out.bel⟩
  have e1 : (A.fr.length : Int) ≤ 6 := by omega
  by_cases h2 : A.st.length ≤ 48
  case neg =>
    have HR : Hid (R = false) := Lib.hid (by rw [HR0.out, HBG.out, decide_eq_false (by omega)]; rfl)
    have e2 : ¬ ((A.st.length : Int) ≤ 48) := by omega
    clear h1 h2
    go_enter Try.func7, Try.ntmps7
    go_wp2
    go_ret
    exact ⟨rb_eq HR.out.symm, HB.out.bel⟩
  have e2 : (A.st.length : Int) ≤ 48 := by omega
  have HR1 : Hid (R = (t0 && t1)) := Lib.hid (by rw [HR0.out, HBG.out, decide_eq_true ⟨h1, h2⟩, Bool.true_and])
  clear h1 h2 HR0 HBG
  cases t0
  case false =>
    go_enter Try.func7, Try.ntmps7
    go_wp2_with fail
    refine Calls.mono (HC0.out _ (HZ.out.below HB.out.bel (Nat.le_refl _)).fr (HY.out.below HB.out.bel (Nat.le_refl _)).fr) ?_
    rintro e w1 ⟨rfl, hb1⟩
    have HB := Lib.hid (HB.out.to hb1)
    clear hb1
    go_wp2
    go_ret
    exact ⟨rb_eq (by rw [HR1.out]; rfl), HB.out.bel⟩
  go_enter Try.func7, Try.ntmps7
  go_wp2_with fail
  refine Calls.mono (HC0.out _ (HZ.out.below HB.out.bel (Nat.le_refl _)).fr (HY.out.below HB.out.bel (Nat.le_refl _)).fr) ?_
  rintro e w1 ⟨rfl, hb1⟩
  have HB := Lib.hid (HB.out.to hb1)
  clear hb1
  have q1 := cell_of_row w1 w.heap.size 1 _ _ _ HB.out.box
  have p1 := cell_of_row w1 (w.heap.size + 1) 1 _ _ _ HB.out.box2
  go_wp2_with fail
  refine Calls.mono (HC1.out _ (HZ.out.below HB.out.bel (Nat.le_refl _)).st (HY.out.below HB.out.bel (Nat.le_refl _)).st) ?_
  rintro e w2 ⟨rfl, hb1⟩
  have HB := Lib.hid (HB.out.to hb1)
  clear hb1 q1 p1
  go_wp2
  go_ret
  exact ⟨rb_eq (by rw [HR1.out]; rfl), HB.out.bel⟩
theorem l07Frames_any (h : CH) (C : Cor) (w : World) : Calls Try.prog 11 #[cV h C] w fun e w' => e = .returned (.bool (bigB C)) ∧ Below w.heap.size w w' := by
  have HBG : Hid (bigB C = decide (C.fr.length ≤ 6 ∧ C.st.length ≤ 48)) := Lib.hid rfl
  generalize bigB C = R at *
  by_cases h1 : C.fr.length ≤ 6
  case neg =>
    have HR : Hid (R = false) := Lib.hid (by rw [HBG.out, decide_eq_false (by omega)])
    have e1 : ¬ ((C.fr.length : Int) ≤ 6) := by omega
    clear h1
    go_enter Try.func11, Try.ntmps11
    go_wp2
    go_ret
    exact ⟨rb_eq HR.out.symm, dbox _ _⟩
  have e1 : (C.fr.length : Int) ≤ 6 := by omega
  by_cases h2 : C.st.length ≤ 48
  case neg =>
    have HR : Hid (R = false) := Lib.hid (by rw [HBG.out, decide_eq_false (by omega)])
    have e2 : ¬ ((C.st.length : Int) ≤ 48) := by omega
    clear h1 h2
    go_enter Try.func11, Try.ntmps11
    go_wp2
    go_ret
    exact ⟨rb_eq HR.out.symm, dbox _ _⟩
  have HR : Hid (R = true) := Lib.hid (by rw [HBG.out, decide_eq_true ⟨h1, h2⟩])
  have e2 : (C.st.length : Int) ≤ 48 := by omega
  clear h1 h2
  go_enter Try.func11, Try.ntmps11
  go_wp2
  go_ret
  exact ⟨rb_eq HR.out.symm, dbox _ _⟩
theorem sameCB_b {A B : Cor} (h : bigB B = false) : sameCB A B = false := by
  unfold sameCB
  cases ha : bigB A
  · rfl
  · unfold bigB at ha h
    have ha := of_decide_eq_true ha
    have h := of_decide_eq_false h
    by_cases e : A.fr.length = B.fr.length
    · have : ¬ A.st.length = B.st.length := by omega
      rw [eql_len this, Bool.and_false, Bool.and_false]
    · rw [frsB_len e]; rfl
theorem sameCB_n {A B : Cor} (h : A.fr.length ≠ B.fr.length) : sameCB A B = false := by unfold sameCB; rw [frsB_len h]; simp
theorem sameCB_s {A B : Cor} (h : decide (A.st = B.st) = false) : sameCB A B = false := by unfold sameCB; rw [h]; simp
theorem sameCB_f {A B : Cor} (h1 : bigB A = true) (h2 : decide (A.st = B.st) = true) : sameCB A B = frsB A.fr B.fr := by unfold sameCB; rw [h1, h2]; simp
set_option maxRecDepth 100000 in
set_option maxHeartbeats 2000000 in
theorem specSameCore_any (h g : CH) (A B : Cor) (hA : A.le maxLen) (hB : B.le maxLen) (w : World) (hz : CLies w h A) (hy : CLies w g B) :
    Calls Try.prog 5 #[cV h A, cV g B] w fun e w' => e = .returned (.bool (sameCB A B)) ∧ Below w.heap.size w w' := by
  obtain ⟨a0, a1, c0, c1⟩ := h
  obtain ⟨b0, b1, d0, d1⟩ := g
  have HB := Lib.hid (Bx2.start w (cO ⟨a0, a1, c0, c1⟩ A 30) (cO ⟨b0, b1, d0, d1⟩ B 30))
  have HZ := Lib.hid hz
  have HY := Lib.hid hy
  have HC0 := Lib.hid (fun w => l07Frames_any ⟨a0, a1, c0, c1⟩ A w)
  have HC1 := Lib.hid (fun w => l07Frames_any ⟨b0, b1, d0, d1⟩ B w)
  have HC2 := Lib.hid (fun w hz hy => l00Same_any A.st B.st a1 b1 c1 d1 hA.h1 hB.h1 w hz hy)
  have HFA : Hid (bigB A = false → sameCB A B = false) := Lib.hid (fun h => by unfold sameCB; rw [h]; rfl)
  have HFB := Lib.hid (@sameCB_b A B)
  have HFN := Lib.hid (@sameCB_n A B)
  have HFS := Lib.hid (@sameCB_s A B)
  have HFF := Lib.hid (@sameCB_f A B)
  have HN := Lib.hid (fun j => @frsB_no A.fr B.fr j)
  have HYE := Lib.hid (@frsB_yes A.fr B.fr)
  have HA := Lib.hid (fun w (hh : Frs w a0 A.fr) j (hj : j < A.fr.length) => hh.at hj)
  have HB2 := Lib.hid (fun w (hh : Frs w b0 B.fr) j (hj : j < B.fr.length) => hh.at hj)
  have HL := Lib.hid (fun j (h1 : j < A.fr.length) (h2 : j < B.fr.length) a b c d w hz hy => l00Same_any (A.fr.getD j fm0).2.2 (B.fr.getD j fm0).2.2 a b c d (hA.h2 j h1) (hB.h2 j h2) w hz hy)
  have hAl := hA.h0
  have hBl := hB.h0
  unfold maxLen at hAl hBl
  clear hz hy hA hB
  generalize sameCB A B = R at *
  generalize bigB A = t0 at *
  generalize bigB B = t1 at *
  generalize decide (A.st = B.st) = t2 at *
  cases t0
  case false =>
    have HR := Lib.hid (HFA.out rfl)
    go_enter Try.func5, Try.ntmps5
    go_wp2_with fail
    refine Calls.mono (HC0.out _) ?_
    rintro e w1 ⟨rfl, hb1⟩
    have HB := Lib.hid (HB.out.to hb1)
    clear hb1
    go_wp2
    go_ret
    exact ⟨rb_eq HR.out.symm, HB.out.bel⟩
  cases t1
  case false =>
    have HR := Lib.hid (HFB.out rfl)
    go_enter Try.func5, Try.ntmps5
    go_wp2_with fail
    refine Calls.mono (HC0.out _) ?_
    rintro e w1 ⟨rfl, hb1⟩
    have HB := Lib.hid (HB.out.to hb1)
    clear hb1
    have q0 := cell_of_row w1 w.heap.size 0 _ _ _ HB.out.box
    have p0 := cell_of_row w1 (w.heap.size + 1) 0 _ _ _ HB.out.box2
    have p1 := cell_of_row w1 (w.heap.size + 1) 1 _ _ _ HB.out.box2
    go_wp2_with fail
    refine Calls.mono (HC1.out _) ?_
    rintro e w2 ⟨rfl, hb1⟩
    have HB := Lib.hid (HB.out.to hb1)
    clear hb1 q0 p0 p1
    go_wp2
    go_ret
    exact ⟨rb_eq HR.out.symm, HB.out.bel⟩
  by_cases hn : A.fr.length = B.fr.length
  case neg =>
    have HR := Lib.hid (HFN.out hn)
    have e1 : ((A.fr.length : Int) != B.fr.length) = true := by rw [bne_iff_ne]; omega
    clear hn
    go_enter Try.func5, Try.ntmps5
    go_wp2_with fail
    refine Calls.mono (HC0.out _) ?_
    rintro e w1 ⟨rfl, hb1⟩
    have HB := Lib.hid (HB.out.to hb1)
    clear hb1
    have p0 := cell_of_row w1 (w.heap.size + 1) 0 _ _ _ HB.out.box2
    have p1 := cell_of_row w1 (w.heap.size + 1) 1 _ _ _ HB.out.box2
    go_wp2_with fail
    refine Calls.mono (HC1.out _) ?_
    rintro e w2 ⟨rfl, hb1⟩
    have HB := Lib.hid (HB.out.to hb1)
    clear hb1 p0 p1
    have q0 := cell_of_row w2 w.heap.size 0 _ _ _ HB.out.box
    have p0 := cell_of_row w2 (w.heap.size + 1) 0 _ _ _ HB.out.box2
    go_wp2
    go_ret
    exact ⟨rb_eq HR.out.symm, HB.out.bel⟩
  have e1 : ((A.fr.length : Int) != B.fr.length) = false := by rw [bne_eq_false_iff_eq]; omega
  have HNN := Lib.hid hn
  clear hn
  cases t2
  case false =>
    have HR := Lib.hid (HFS.out rfl)
    go_enter Try.func5, Try.ntmps5
    go_wp2_with fail
    refine Calls.mono (HC0.out _) ?_
    rintro e w1 ⟨rfl, hb1⟩
    have HB := Lib.hid (HB.out.to hb1)
    clear hb1
    have p0 := cell_of_row w1 (w.heap.size + 1) 0 _ _ _ HB.out.box2
    have p1 := cell_of_row w1 (w.heap.size + 1) 1 _ _ _ HB.out.box2
    go_wp2_with fail
    refine Calls.mono (HC1.out _) ?_
    rintro e w2 ⟨rfl, hb1⟩
    have HB := Lib.hid (HB.out.to hb1)
    clear hb1 p0 p1
    have q0 := cell_of_row w2 w.heap.size 0 _ _ _ HB.out.box
    have p0 := cell_of_row w2 (w.heap.size + 1) 0 _ _ _ HB.out.box2
    have q1 := cell_of_row w2 w.heap.size 1 _ _ _ HB.out.box
    have p1 := cell_of_row w2 (w.heap.size + 1) 1 _ _ _ HB.out.box2
    go_wp2_with fail
    refine Calls.mono (HC2.out _ (HZ.out.below HB.out.bel (Nat.le_refl _)).st (HY.out.below HB.out.bel (Nat.le_refl _)).st) ?_
    rintro e w3 ⟨rfl, hb1⟩
    have HB := Lib.hid (HB.out.to hb1)
    clear hb1 p0 p1 q0 q1
    go_wp2
    go_ret
    exact ⟨rb_eq HR.out.symm, HB.out.bel⟩
  have HRF := Lib.hid (HFF.out rfl rfl)
  go_enter Try.func5, Try.ntmps5
  go_wp2_with fail
  refine Calls.mono (HC0.out _) ?_
  rintro e w1 ⟨rfl, hb1⟩
  have HB := Lib.hid (HB.out.to hb1)
  clear hb1
  have p0 := cell_of_row w1 (w.heap.size + 1) 0 _ _ _ HB.out.box2
  have p1 := cell_of_row w1 (w.heap.size + 1) 1 _ _ _ HB.out.box2
  go_wp2_with fail
  refine Calls.mono (HC1.out _) ?_
  rintro e w2 ⟨rfl, hb1⟩
  have HB := Lib.hid (HB.out.to hb1)
  clear hb1 p0 p1
  have q0 := cell_of_row w2 w.heap.size 0 _ _ _ HB.out.box
  have p0 := cell_of_row w2 (w.heap.size + 1) 0 _ _ _ HB.out.box2
  have q1 := cell_of_row w2 w.heap.size 1 _ _ _ HB.out.box
  have p1 := cell_of_row w2 (w.heap.size + 1) 1 _ _ _ HB.out.box2
  go_wp2_with fail
  refine Calls.mono (HC2.out _ (HZ.out.below HB.out.bel (Nat.le_refl _)).st (HY.out.below HB.out.bel (Nat.le_refl _)).st) ?_
  rintro e w3 ⟨rfl, hb1⟩
  have HB := Lib.hid (HB.out.to hb1)
  clear hb1 p0 p1 q0 q1
  go_wp2
  clear HC0 HC1 HC2 HFA HFB HFN HFS HFF
  go_loopw [5] (fun i wr => ∃ k : Nat, k ≤ A.fr.length ∧ i = .int .i64 k ∧ Hid (∀ q, q < k → frB (A.fr.getD q fm0) (B.fr.getD q fm0) = true) ∧ Hid (Bx2 w (cO ⟨a0, a1, c0, c1⟩ A 30) (cO ⟨b0, b1, d0, d1⟩ B 30) wr)) (fun i _ => A.fr.length - (intOf i).toNat)
  case atStart => exact ⟨0, Nat.zero_le _, rfl, Lib.hid (by intro q hq; omega), HB⟩
  case round =>
    obtain ⟨k, hk, rfl, hr, hb⟩ := hrel
    have q0 := cell_of_row wr w.heap.size 0 _ _ _ hb.out.box
    by_cases hlt : k < A.fr.length
    · have hlt2 : k < B.fr.length := by have := HNN.out; omega
      obtain ⟨y1, o1, x1, z1, rfl, hb1, hp1, hq1, hc1, hz1⟩ := HA.out w HZ.out.fr k hlt
      obtain ⟨y2, o2, x2, z2, rfl, hb2, hp2, hq2, hc2, hz2⟩ := HB2.out w HY.out.fr k hlt2
      have u0 := (hb.out.bel.cell (p := ⟨y1, o1 + k * 3, none⟩) hb1).trans hp1
      have u1 := (hb.out.bel.cell (p := ⟨y1, o1 + k * 3 + 1, none⟩) hb1).trans hq1
      have u2 := (hb.out.bel.cell (p := ⟨y1, o1 + k * 3 + 2, none⟩) hb1).trans hc1
      have HD2 : Hid (∀ w2, Below w.heap.size w w2 → w2.cell? ⟨y2, o2 + k * 3, none⟩ = some (.int .i64 (B.fr.getD k fm0).1) ∧ w2.cell? ⟨y2, o2 + k * 3 + 1, none⟩ = some (.int .i64 (B.fr.getD k fm0).2.1) ∧ w2.cell? ⟨y2, o2 + k * 3 + 2, none⟩ = some (.slice x2 (B.fr.getD k fm0).2.2.length z2)) := Lib.hid (fun w2 hb => ⟨(hb.cell (p := ⟨y2, o2 + k * 3, none⟩) hb2).trans hp2, (hb.cell (p := ⟨y2, o2 + k * 3 + 1, none⟩) hb2).trans hq2, (hb.cell (p := ⟨y2, o2 + k * 3 + 2, none⟩) hb2).trans hc2⟩)
      have HE := Lib.hid (fun w2 (h : Below w.heap.size w w2) => HL.out k hlt hlt2 x1 x2 z1 z2 w2 (hz1.below h (Nat.le_refl _)) (hz2.below h (Nat.le_refl _)))
      have HX := Lib.hid (HN.out k hlt)
      have HFr := Lib.hid (@frB_r (A.fr.getD k fm0) (B.fr.getD k fm0))
      have HFp := Lib.hid (@frB_p (A.fr.getD k fm0) (B.fr.getD k fm0))
      have HFn := Lib.hid (@frB_n (A.fr.getD k fm0) (B.fr.getD k fm0))
      have HFl := Lib.hid (@frB_l (A.fr.getD k fm0) (B.fr.getD k fm0))
      have HK : Hid (frB (A.fr.getD k fm0) (B.fr.getD k fm0) = true → ∀ q, q < k + 1 → frB (A.fr.getD q fm0) (B.fr.getD q fm0) = true) := Lib.hid (fun h q hq => by
        by_cases e : q = k
        · rw [e]; exact h
        · exact hr.out q (by omega))
      clear hp1 hq1 hc1 hz1 hp2 hq2 hc2 hz2 HL
      generalize frB (A.fr.getD k fm0) (B.fr.getD k fm0) = T at *
      generalize decide ((A.fr.getD k fm0).2.2 = (B.fr.getD k fm0).2.2) = E at *
      generalize (A.fr.getD k fm0).2.2.length = n1 at *
      generalize (B.fr.getD k fm0).2.2.length = n2 at *
      generalize (A.fr.getD k fm0).1 = r1 at *
      generalize (B.fr.getD k fm0).1 = r2 at *
      generalize (A.fr.getD k fm0).2.1 = p1 at *
      generalize (B.fr.getD k fm0).2.1 = p2 at *
      have HBa := Lib.hid (hb.out.to (dbox wr (.cells #[.int .i64 r1, .int .i64 p1, .slice x1 n1 z1] 38)))
      obtain ⟨u3, u4', u5⟩ := HD2.out _ HBa.out.bel
      have p0 := cell_of_row _ (w.heap.size + 1) 0 _ _ _ HBa.out.box2
      have HBb := Lib.hid (HBa.out.to (dbox _ (.cells #[.int .i64 r2, .int .i64 p2, .slice x2 n2 z2] 38)))
      have hy2 := HNN.out
      by_cases h1 : r1 = r2
      case neg =>
        have HR := Lib.hid (HX.out (HFr.out h1))
        have g1 : (r1 != r2) = true := by rw [bne_iff_ne]; exact h1
        clear h1 hy2
        go_wp2
        go_ret
        exact ⟨rb_eq (by rw [HRF.out, HR.out]), HBb.out.bel⟩
      by_cases h2 : p1 = p2
      case neg =>
        have HR := Lib.hid (HX.out (HFp.out h2))
        have g1 : (r1 != r2) = false := by rw [bne_eq_false_iff_eq]; exact h1
        have g2 : (p1 != p2) = true := by rw [bne_iff_ne]; exact h2
        clear h1 h2 hy2
        go_wp2
        go_ret
        exact ⟨rb_eq (by rw [HRF.out, HR.out]), HBb.out.bel⟩
      by_cases h3 : n1 ≤ 4
      case neg =>
        have HR := Lib.hid (HX.out (HFn.out h3))
        have g1 : (r1 != r2) = false := by rw [bne_eq_false_iff_eq]; exact h1
        have g2 : (p1 != p2) = false := by rw [bne_eq_false_iff_eq]; exact h2
        have g3 : (4 : Int) < n1 := by omega
        clear h1 h2 h3 hy2
        go_wp2
        go_ret
        exact ⟨rb_eq (by rw [HRF.out, HR.out]), HBb.out.bel⟩
      have HT := Lib.hid (HFl.out h1 h2 h3)
      have g1 : (r1 != r2) = false := by rw [bne_eq_false_iff_eq]; exact h1
      have g2 : (p1 != p2) = false := by rw [bne_eq_false_iff_eq]; exact h2
      have g3 : ¬ (4 : Int) < n1 := by omega
      clear h1 h2 h3 hy2 HFr HFp HFn HFl
      cases E
      case false =>
        have HR := Lib.hid (HX.out HT.out)
        go_wp2_with fail
        refine Calls.mono (HE.out _ HBb.out.bel) ?_
        rintro e w4 ⟨rfl, hb1⟩
        have HBc := Lib.hid (HBb.out.to hb1)
        clear hb1
        go_wp2
        go_ret
        exact ⟨rb_eq (by rw [HRF.out, HR.out]), HBc.out.bel⟩
      have HK2 := Lib.hid (HK.out HT.out)
      go_wp2_with fail
      refine Calls.mono (HE.out _ HBb.out.bel) ?_
      rintro e w4 ⟨rfl, hb1⟩
      have HBc := Lib.hid (HBb.out.to hb1)
      clear hb1 q0 p0 u0 u1 u2 u3 u4' u5
      go_wp2
      go_roundw
      case rel => exact ⟨k + 1, by omega, by go_num, HK2, HBc⟩
      case measure => simp [intOf]; omega
    · obtain rfl : k = A.fr.length := by omega
      have HR := Lib.hid (HYE.out HNN.out hr.out)
      go_wp2
      go_ret
      exact ⟨rb_eq (by rw [HRF.out, HR.out]), hb.out.bel⟩
end Go.Proofs.Ytiinlaganibecaa
