/- SameProgram of spec. -/
import Derived.Test.YtpdnkcfphjbbfaaDoorImgT
import Derived.Test.YtpdnkcfphjbbfaaDoorSmP
import Derived.Deep.RegionHeld3
import Derived.Test.YtpdnkcfphjbbfaaDoorHeld
namespace Go.Proofs.YtpdnkcfphjbbfaaDoor
open Go.ChangeShapes Go.WideShapes Go.ChangeAt Go.RowKit Go.PlainAid
set_option linter.unusedVariables false
theorem bx2_dr {w X : World} {O O' : Obj} (h : Bx2 w O O' X) : Bx2 w O O' X.drew := h.to (Below.refl _ _).drew
theorem bx_c4 {X : World} {b : Nat} {v0 v1 v2 v3 : Value} {t : TypeId} (h : X.heap[b]? = some (.cells #[v0, v1, v2, v3] t)) : X.cell? ⟨b, 0, none⟩ = some v0 ∧ X.cell? ⟨b, 1, none⟩ = some v1 ∧ X.cell? ⟨b, 2, none⟩ = some v2 ∧ X.cell? ⟨b, 3, none⟩ = some v3 :=
  ⟨cell_of_row X b 0 _ _ _ h, cell_of_row X b 1 _ _ _ h, cell_of_row X b 2 _ _ _ h, cell_of_row X b 3 _ _ _ h⟩
theorem sp_b {w X : World} {h g : PH} {D E : Pgm} (hx : Bx2 w (pO h D 34) (pO g E 34) X) :
    X.cell? ⟨w.heap.size, 0, none⟩ = some (.slice h.a0 D.n0 h.c0) ∧ X.cell? ⟨w.heap.size, 1, none⟩ = some (.slice h.a1 D.n1 h.c1) ∧ X.cell? ⟨w.heap.size, 2, none⟩ = some (.slice h.a2 D.n2 h.c2) ∧ X.cell? ⟨w.heap.size, 3, none⟩ = some (.slice h.a3 D.n3 h.c3) := bx_c4 hx.box
theorem sp_c {w X : World} {h g : PH} {D E : Pgm} (hx : Bx2 w (pO h D 34) (pO g E 34) X) :
    X.cell? ⟨w.heap.size + 1, 0, none⟩ = some (.slice g.a0 E.n0 g.c0) ∧ X.cell? ⟨w.heap.size + 1, 1, none⟩ = some (.slice g.a1 E.n1 g.c1) ∧ X.cell? ⟨w.heap.size + 1, 2, none⟩ = some (.slice g.a2 E.n2 g.c2) ∧ X.cell? ⟨w.heap.size + 1, 3, none⟩ = some (.slice g.a3 E.n3 g.c3) := bx_c4 hx.box2
theorem good_okP {D : Pgm} (h : okP D = true) : Good D := good_of (by unfold okP at h; exact beq_iff_eq.1 h)
def smS (D E : Pgm) : Bool := okP D && (okP E && decide (imgF D = imgF E))
theorem smS_smB (D E : Pgm) : smS D E = smB D E := by
  unfold smS smB
  cases hD : okP D
  · rw [Bool.false_and, Bool.false_and]
  cases hE : okP E
  · have hne : ¬ D = E := fun e => by rw [e, hE] at hD; cases hD
    have : (decide (D.ks = E.ks) && (decide (D.rs = E.rs) && (decide (D.ts = E.ts) && decide (D.sa = E.sa)))) = false := by
      rw [Bool.eq_false_iff]
      intro q
      simp only [Bool.and_eq_true, decide_eq_true_iff] at q
      obtain ⟨q1, q2, q3, q4⟩ := q
      obtain ⟨a, b, c, d⟩ := D
      obtain ⟨a', b', c', d'⟩ := E
      simp only at q1 q2 q3 q4
      subst q1 q2 q3 q4
      exact hne rfl
    rw [this, Bool.false_and]
  · simp only [Bool.true_and]
    rw [Bool.eq_iff_iff]
    simp only [Bool.and_eq_true, decide_eq_true_iff]
    constructor
    · intro e
      have := img_inj (good_okP hD) (good_okP hE) e
      rw [this]
      exact ⟨rfl, rfl, rfl, rfl⟩
    · intro ⟨q1, q2, q3, q4⟩
      obtain ⟨a, b, c, d⟩ := D
      obtain ⟨a', b', c', d'⟩ := E
      simp only at q1 q2 q3 q4
      subst q1 q2 q3 q4
      rfl
set_option maxHeartbeats 2000000 in
theorem specSameProgram_any (h g : PH) (D E : Pgm) (hm : D.le maxLen) (hn : E.le maxLen) (w : World) (hz : PLies w h D) (hy : PLies w g E) :
    Calls Tryd.prog 10 #[pV h D, pV g E] w fun e w' => e = .returned (.bool (smS D E)) ∧ Below w.heap.size w w' := by
  have HX := Bx2.start w (pO h D 34) (pO g E 34)
  have HO1 : Hid (∀ X, Bx2 w (pO h D 34) (pO g E 34) X → Calls Tryd.prog 29 #[pV h D] X fun e w' => e = .returned (.bool (okP D)) ∧ Bx2 w (pO h D 34) (pO g E 34) w') := Lib.hid (fun X hx => (l08OK_any h D hm X (hz.below hx.bel (Nat.le_refl _))).mono fun e w' q => ⟨q.1, hx.to q.2⟩)
  have HO2 : Hid (∀ X, Bx2 w (pO h D 34) (pO g E 34) X → Calls Tryd.prog 29 #[pV g E] X fun e w' => e = .returned (.bool (okP E)) ∧ Bx2 w (pO h D 34) (pO g E 34) w') := Lib.hid (fun X hx => (l08OK_any g E hn X (hy.below hx.bel (Nat.le_refl _))).mono fun e w' q => ⟨q.1, hx.to q.2⟩)
  have HT1 : Hid (okP D = true → ∀ X, Bx2 w (pO h D 34) (pO g E 34) X → Calls Tryd.prog 30 #[pV h D] X fun e w' => e = .returned (.string (imgF D)) ∧ Bx2 w (pO h D 34) (pO g E 34) w') := Lib.hid (fun ho X hx => (l08Text_any h D (good_okP ho) X (hz.below hx.bel (Nat.le_refl _))).mono fun e w' q => ⟨q.1, hx.to q.2⟩)
  have HT2 : Hid (okP E = true → ∀ X, Bx2 w (pO h D 34) (pO g E 34) X → Calls Tryd.prog 30 #[pV g E] X fun e w' => e = .returned (.string (imgF E)) ∧ Bx2 w (pO h D 34) (pO g E 34) w') := Lib.hid (fun ho X hx => (l08Text_any g E (good_okP ho) X (hy.below hx.bel (Nat.le_refl _))).mono fun e w' q => ⟨q.1, hx.to q.2⟩)
  have HS : Hid (smS D E = (okP D && (okP E && decide (imgF D = imgF E)))) := Lib.hid rfl
  clear hz hy
  generalize smS D E = S at *
  generalize imgF D = P at *
  generalize imgF E = Q at *
  cases h1 : okP D
  · rw [h1] at HO1 HS
    clear HT1 HT2 HO2 h1
    go_enter Tryd.func10, Tryd.ntmps10
    go_wp2
    go_region_with (first
        | (go_at_call 29; (with_reducible refine (HO1.out _ (by first | assumption | exact bx2_dr (by assumption))).mono ?_); rintro e wn ⟨rfl, hxn⟩; obtain ⟨k0, k1, k2, k3⟩ := sp_b hxn; obtain ⟨k4, k5, k6, k7⟩ := sp_c hxn))
    all_goals
      go_wp2
      go_ret
      exact ⟨rb_eq (by rw [HS.out]; rfl), Bx2.bel (by assumption)⟩
  cases h2 : okP E
  · rw [h1] at HO1 HS
    rw [h2] at HO2 HS
    clear HT1 HT2 h1 h2
    go_enter Tryd.func10, Tryd.ntmps10
    go_wp2
    go_region_with (first
        | (go_at_call 29; (with_reducible refine (HO1.out _ (by first | assumption | exact bx2_dr (by assumption))).mono ?_); rintro e wn ⟨rfl, hxn⟩; obtain ⟨k0, k1, k2, k3⟩ := sp_b hxn; obtain ⟨k4, k5, k6, k7⟩ := sp_c hxn)
        | (go_at_call 29; (with_reducible refine (HO2.out _ (by first | assumption | exact bx2_dr (by assumption))).mono ?_); rintro e wn ⟨rfl, hxn⟩; obtain ⟨k0, k1, k2, k3⟩ := sp_b hxn; obtain ⟨k4, k5, k6, k7⟩ := sp_c hxn))
    all_goals
      go_wp2
      go_ret
      exact ⟨rb_eq (by rw [HS.out]; rfl), Bx2.bel (by assumption)⟩
  have HT1 := Lib.hid (HT1.out h1)
  have HT2 := Lib.hid (HT2.out h2)
  rw [h1] at HO1 HS
  rw [h2] at HO2 HS
  clear h1 h2
  by_cases hpq : P = Q
  · subst hpq
    have HS : Hid (S = true) := Lib.hid (by rw [HS.out, decide_eq_true rfl]; rfl)
    go_enter Tryd.func10, Tryd.ntmps10
    go_wp2
    go_region_with (first
        | (go_at_call 29; (with_reducible refine (HO1.out _ (by first | assumption | exact bx2_dr (by assumption))).mono ?_); rintro e wn ⟨rfl, hxn⟩; obtain ⟨k0, k1, k2, k3⟩ := sp_b hxn; obtain ⟨k4, k5, k6, k7⟩ := sp_c hxn)
        | (go_at_call 29; (with_reducible refine (HO2.out _ (by first | assumption | exact bx2_dr (by assumption))).mono ?_); rintro e wn ⟨rfl, hxn⟩; obtain ⟨k0, k1, k2, k3⟩ := sp_b hxn; obtain ⟨k4, k5, k6, k7⟩ := sp_c hxn)
        | (go_at_call 30; (with_reducible refine (HT1.out _ (by first | assumption | exact bx2_dr (by assumption))).mono ?_); rintro e wn ⟨rfl, hxn⟩; obtain ⟨k0, k1, k2, k3⟩ := sp_b hxn; obtain ⟨k4, k5, k6, k7⟩ := sp_c hxn)
        | (go_at_call 30; (with_reducible refine (HT2.out _ (by first | assumption | exact bx2_dr (by assumption))).mono ?_); rintro e wn ⟨rfl, hxn⟩; obtain ⟨k0, k1, k2, k3⟩ := sp_b hxn; obtain ⟨k4, k5, k6, k7⟩ := sp_c hxn))
    all_goals
      go_wp2
      go_ret
      exact ⟨rb_eq (by rw [HS.out]; simp), Bx2.bel (by assumption)⟩
  · have HS : Hid (S = false) := Lib.hid (by rw [HS.out, decide_eq_false hpq]; rfl)
    have hb : ¬ P.toList = Q.toList := by rw [ByteArray.toList_eq, ByteArray.toList_eq]; exact fun e => hpq (bytes_inj e)
    clear hpq
    go_enter Tryd.func10, Tryd.ntmps10
    go_wp2
    go_region_with (first
        | (go_at_call 29; (with_reducible refine (HO1.out _ (by first | assumption | exact bx2_dr (by assumption))).mono ?_); rintro e wn ⟨rfl, hxn⟩; obtain ⟨k0, k1, k2, k3⟩ := sp_b hxn; obtain ⟨k4, k5, k6, k7⟩ := sp_c hxn)
        | (go_at_call 29; (with_reducible refine (HO2.out _ (by first | assumption | exact bx2_dr (by assumption))).mono ?_); rintro e wn ⟨rfl, hxn⟩; obtain ⟨k0, k1, k2, k3⟩ := sp_b hxn; obtain ⟨k4, k5, k6, k7⟩ := sp_c hxn)
        | (go_at_call 30; (with_reducible refine (HT1.out _ (by first | assumption | exact bx2_dr (by assumption))).mono ?_); rintro e wn ⟨rfl, hxn⟩; obtain ⟨k0, k1, k2, k3⟩ := sp_b hxn; obtain ⟨k4, k5, k6, k7⟩ := sp_c hxn)
        | (go_at_call 30; (with_reducible refine (HT2.out _ (by first | assumption | exact bx2_dr (by assumption))).mono ?_); rintro e wn ⟨rfl, hxn⟩; obtain ⟨k0, k1, k2, k3⟩ := sp_b hxn; obtain ⟨k4, k5, k6, k7⟩ := sp_c hxn))
    all_goals
      go_wp2
      go_ret
      exact ⟨rb_eq (by rw [HS.out]; simp [hb]), Bx2.bel (by assumption)⟩
end Go.Proofs.YtpdnkcfphjbbfaaDoor
namespace Go.Proofs.YtpdnkcfphjbbfaaDoor
open Go.ChangeShapes Go.WideShapes Go.ChangeAt Go.RowKit
set_option linter.unusedVariables false
theorem FnExactSameProgram_walk (h g : PH) (D E : Pgm) (hm : D.le maxLen) (hn : E.le maxLen) (w : World) (ht : VTabs w) (hz : PLies w h D) (hy : PLies w g E) :
    Calls Tryd.prog 4 #[pV h D, pV g E] w fun e w' => e = .returned (.bool true) ∧ Below w.heap.size w w' := by
  have HX := Lib.hid (Bx2.start w (pO h D 27) (pO g E 27))
  have HZ := Lib.hid hz
  have HY := Lib.hid hy
  have HT := Lib.hid (fun X (hb : Below w.heap.size w X) => ht.below hb (Nat.le_refl _))
  have HSZ := Lib.hid (fun X hz => szProgram_any h D 1048576 (by decide) hm X hz)
  have HSZ2 := Lib.hid (fun v hv X hz => szProgram_any g E v hv hn X hz)
  have HSP : Hid (∀ X e X', SzPPost D 1048576 X e X' → ∃ v : Int, e = .returned (.int .i64 v) ∧ Below X.heap.size X X' ∧ (v < 0 ∨ 0 ≤ v ∧ v ≤ 1048576 ∧ D.le 1048576 ∧ sumL D.rs D.rs.length ≤ 1048576)) := Lib.hid (fun _ _ _ h => h)
  have HSP2 : Hid (∀ l X e X', SzPPost E l X e X' → ∃ v : Int, e = .returned (.int .i64 v) ∧ Below X.heap.size X X' ∧ (v < 0 ∨ 0 ≤ v ∧ v ≤ l ∧ E.le 1048576 ∧ sumL E.rs E.rs.length ≤ 1048576)) := Lib.hid (fun _ _ _ _ h => h)
  have HTA := Lib.hid (fun hle X hz => toProgram_any h D hle X hz)
  have HTB := Lib.hid (fun hle X hz => toProgram_any g E hle X hz)
  have HSC := Lib.hid (fun h g X hz hy => specSameProgram_any h g D E hm hn X hz hy)
  have HIC := Lib.hid (fun h g X ht hz hy => sameProgram_any h g D E hm hn X ht hz hy)
  have HEA := Lib.hid (fun hle h h' X hz hy => eqProgram_same h h' D hle X hz hy)
  have HEB := Lib.hid (fun hle h h' X hz hy => eqProgram_same h h' E hle X hz hy)
  rw [smS_smB] at HSC
  clear hz hy ht
  generalize smB D E = R at *
  have e1 : (R != R) = false := by simp
  go_enter Tryd.func4, Tryd.ntmps4
  go_wp2_with fail
  refine Calls.mono (HSZ.out _ (HZ.out.below HX.out.bel (Nat.le_refl _))) ?_
  intro e w1 hsp
  obtain ⟨v, rfl, hb, hv⟩ := HSP.out _ _ _ hsp
  have HX := Lib.hid (HX.out.to hb)
  clear hb hsp
  by_cases hv0 : v < 0
  · clear hv
    go_wp2
    go_ret
    exact ⟨rfl, HX.out.bel⟩
  obtain ⟨hv1, hv2, hle⟩ : 0 ≤ v ∧ v ≤ 1048576 ∧ D.le 1048576 := by
    rcases hv with h | h
    · exact absurd h hv0
    · exact ⟨h.1, h.2.1, h.2.2.1⟩
  have HTA := Lib.hid (HTA.out hle)
  have HEA := Lib.hid (HEA.out hle)
  clear hv hle
  have q0 := cell_of_row w1 (w.heap.size + 1) 0 _ _ _ HX.out.box2
  have q1 := cell_of_row w1 (w.heap.size + 1) 1 _ _ _ HX.out.box2
  have q2 := cell_of_row w1 (w.heap.size + 1) 2 _ _ _ HX.out.box2
  have q3 := cell_of_row w1 (w.heap.size + 1) 3 _ _ _ HX.out.box2
  go_wp2_with fail
  refine Calls.mono (HSZ2.out v ⟨hv1, hv2⟩ _ (HY.out.below HX.out.bel (Nat.le_refl _))) ?_
  intro e w2 hsp
  obtain ⟨v2, rfl, hb, hv⟩ := HSP2.out _ _ _ _ hsp
  have HX := Lib.hid (HX.out.to hb)
  clear hb hsp q0 q1 q2 q3
  by_cases hv3 : v2 < 0
  · clear hv
    go_wp2
    go_ret
    exact ⟨rfl, HX.out.bel⟩
  have hle : E.le 1048576 := by
    rcases hv with h | h
    · exact absurd h hv3
    · exact h.2.2.1
  have HTB := Lib.hid (HTB.out hle)
  have HEB := Lib.hid (HEB.out hle)
  clear hv hle
  go_wp2_with fail
  have HSW : Hid (Below w2.heap.size w2 w2.drew) := Lib.hid (Below.refl _ _).drew
  refine wp_region_hl 5 (fun X => Below w2.heap.size w2 X) (by kernel_rfl) rfl rfl (by kernel_rfl) ?_
  refine hl_take (v := ?va0) 0 rfl (by kernel_rfl) (fun _ _ _ h => h) (Or.inl ⟨by rfl, ?hya0⟩) HSW.out ?resta0
  case hya0 =>
    intro X hSw
    have hk := blk_bel HX.out.box hSw
    have q0 := cell_of_row X _ 0 _ _ _ hk
    have q1 := cell_of_row X _ 1 _ _ _ hk
    have q2 := cell_of_row X _ 2 _ _ _ hk
    have q3 := cell_of_row X _ 3 _ _ _ hk
    clear hk
    go_simp <;> with_reducible rfl
  try simp only [Act.put, List.setIfInBounds_toArray, List.set_cons_zero, List.set_cons_succ]
  refine hl_take (v := ?va2) 2 rfl (by kernel_rfl) (fun _ _ _ h => h) (Or.inl ⟨by rfl, ?hya2⟩) HSW.out ?resta2
  case hya2 =>
    intro X hSw
    have hk := blk_bel HX.out.box2 hSw
    have q0 := cell_of_row X _ 0 _ _ _ hk
    have q1 := cell_of_row X _ 1 _ _ _ hk
    have q2 := cell_of_row X _ 2 _ _ _ hk
    have q3 := cell_of_row X _ 3 _ _ _ hk
    clear hk
    go_simp <;> with_reducible rfl
  try simp only [Act.put, List.setIfInBounds_toArray, List.set_cons_zero, List.set_cons_succ]
  refine hl_one 1 rfl (by kernel_rfl) (fun K hK => ?_)
  go_simp
  refine Calls.mono (HTA.out _ (HZ.out.below (HX.out.bel.trans (HSW.out.mono HX.out.bel.size)) (Nat.le_refl _))) ?_
  rintro e w3 ⟨h3, rfl, ho3, hb⟩
  refine hK.out _ _ (HSW.out.trans (hb.mono HSW.out.size)) ?_
  have HSW := Lib.hid (HSW.out.trans (hb.mono HSW.out.size))
  have HO3 := Lib.hid ho3
  clear hK hb ho3
  try simp only [Act.put, List.setIfInBounds_toArray, List.set_cons_zero, List.set_cons_succ]
  refine hl_one 3 rfl (by kernel_rfl) (fun K hK => ?_)
  go_simp
  refine Calls.mono (HTB.out _ (HY.out.below (HX.out.bel.trans (HSW.out.mono HX.out.bel.size)) (Nat.le_refl _))) ?_
  rintro e w4 ⟨h4, rfl, ho4, hb⟩
  refine hK.out _ _ (HSW.out.trans (hb.mono HSW.out.size)) ?_
  have HSW := Lib.hid (HSW.out.trans (hb.mono HSW.out.size))
  have HO3 := Lib.hid (HO3.out.below hb (Nat.le_refl _))
  have HO4 := Lib.hid ho4
  clear hK hb ho4
  try simp only [Act.put, List.setIfInBounds_toArray, List.set_cons_zero, List.set_cons_succ]
  refine hl_one 4 rfl (by kernel_rfl) (fun K hK => ?_)
  go_simp
  refine Calls.mono (HSC.out h3 h4 _ HO3.out HO4.out) ?_
  rintro e w5 ⟨rfl, hb⟩
  refine hK.out _ _ (HSW.out.trans (hb.mono HSW.out.size)) ?_
  have HX := Lib.hid (HX.out.to (HSW.out.trans (hb.mono HSW.out.size)))
  clear hK hb HO3 HO4 HSW
  try simp only [Act.put, List.setIfInBounds_toArray, List.set_cons_zero, List.set_cons_succ]
  refine hl_done (by kernel_rfl) ?_
  go_simp
  have q0 := cell_of_row w5 w.heap.size 0 _ _ _ HX.out.box
  have q1 := cell_of_row w5 w.heap.size 1 _ _ _ HX.out.box
  have q2 := cell_of_row w5 w.heap.size 2 _ _ _ HX.out.box
  have q3 := cell_of_row w5 w.heap.size 3 _ _ _ HX.out.box
  go_wp2_with fail
  refine Calls.mono (HTA.out _ (HZ.out.below HX.out.bel (Nat.le_refl _))) ?_
  rintro e w6 ⟨h6, rfl, ho6, hb⟩
  have HX := Lib.hid (HX.out.to (hb.trans ((dbox w6 (pO h6 D 34)).mono hb.size)))
  have HP6 := Lib.hid (ho6.below (dbox w6 (pO h6 D 34)) (Nat.le_refl _))
  have HB6 := Lib.hid (heap_alloc_new w6 (pO h6 D 34))
  clear ho6 hb q0 q1 q2 q3
  generalize hV6 : w6.alloc (pO h6 D 34) = V6 at *
  have q0 := cell_of_row V6 (w.heap.size + 1) 0 _ _ _ HX.out.box2
  have q1 := cell_of_row V6 (w.heap.size + 1) 1 _ _ _ HX.out.box2
  have q2 := cell_of_row V6 (w.heap.size + 1) 2 _ _ _ HX.out.box2
  have q3 := cell_of_row V6 (w.heap.size + 1) 3 _ _ _ HX.out.box2
  go_wp2_with fail
  clear hV6
  refine Calls.mono (HTB.out _ (HY.out.below HX.out.bel (Nat.le_refl _))) ?_
  rintro e w7 ⟨h7, rfl, ho7, hb⟩
  have HA7 := Lib.hid (hb.trans ((dbox w7 (pO h7 E 34)).mono hb.size))
  have HX := Lib.hid (HX.out.to HA7.out)
  have HP6 := Lib.hid (HP6.out.below HA7.out (Nat.le_refl _))
  have HB6 := Lib.hid (blk_bel HB6.out HA7.out)
  have HP7 := Lib.hid (ho7.below (dbox w7 (pO h7 E 34)) (Nat.le_refl _))
  have HB7 := Lib.hid (heap_alloc_new w7 (pO h7 E 34))
  clear ho7 hb q0 q1 q2 q3 HA7
  have q0 := cell_of_row _ w6.heap.size 0 _ _ _ HB6.out
  have q1 := cell_of_row _ w6.heap.size 1 _ _ _ HB6.out
  have q2 := cell_of_row _ w6.heap.size 2 _ _ _ HB6.out
  have q3 := cell_of_row _ w6.heap.size 3 _ _ _ HB6.out
  generalize hV7 : w7.alloc (pO h7 E 34) = V7 at *
  have p0 := cell_of_row V7 w7.heap.size 0 _ _ _ HB7.out
  have p1 := cell_of_row V7 w7.heap.size 1 _ _ _ HB7.out
  have p2 := cell_of_row V7 w7.heap.size 2 _ _ _ HB7.out
  have p3 := cell_of_row V7 w7.heap.size 3 _ _ _ HB7.out
  go_wp2_with fail
  clear hV7
  refine Calls.mono (HIC.out h6 h7 _ (HT.out _ HX.out.bel) HP6.out HP7.out) ?_
  rintro e w8 ⟨rfl, hb⟩
  have HX := Lib.hid (HX.out.to hb)
  have HP6 := Lib.hid (HP6.out.below hb (Nat.le_refl _))
  have HB6 := Lib.hid (blk_bel HB6.out hb)
  have HP7 := Lib.hid (HP7.out.below hb (Nat.le_refl _))
  have HB7 := Lib.hid (blk_bel HB7.out hb)
  clear hb q0 q1 q2 q3 p0 p1 p2 p3
  go_wp2_with fail
  have HSW : Hid (Below w8.heap.size w8 w8.drew) := Lib.hid (Below.refl _ _).drew
  refine wp_region_hl 4 (fun X => Below w8.heap.size w8 X) (by kernel_rfl) rfl rfl (by kernel_rfl) ?_
  refine hl_take (v := ?v80) 0 rfl (by kernel_rfl) (fun _ _ _ h => h) (Or.inl ⟨by rfl, ?hy80⟩) HSW.out ?rest80
  case hy80 =>
    intro X hSw
    have hk := blk_bel HB6.out hSw
    have q0 := cell_of_row X _ 0 _ _ _ hk
    have q1 := cell_of_row X _ 1 _ _ _ hk
    have q2 := cell_of_row X _ 2 _ _ _ hk
    have q3 := cell_of_row X _ 3 _ _ _ hk
    clear hk
    go_simp <;> with_reducible rfl
  try simp only [Act.put, List.setIfInBounds_toArray, List.set_cons_zero, List.set_cons_succ]
  refine hl_take (v := ?v81) 1 rfl (by kernel_rfl) (fun _ _ _ h => h) (Or.inl ⟨by rfl, ?hy81⟩) HSW.out ?rest81
  case hy81 =>
    intro X hSw
    have hk := blk_bel HX.out.box hSw
    have q0 := cell_of_row X _ 0 _ _ _ hk
    have q1 := cell_of_row X _ 1 _ _ _ hk
    have q2 := cell_of_row X _ 2 _ _ _ hk
    have q3 := cell_of_row X _ 3 _ _ _ hk
    clear hk
    go_simp <;> with_reducible rfl
  try simp only [Act.put, List.setIfInBounds_toArray, List.set_cons_zero, List.set_cons_succ]
  refine hl_one 2 rfl (by kernel_rfl) (fun K hK => ?_)
  go_simp
  refine Calls.mono (HTA.out _ (HZ.out.below (HX.out.bel.trans (HSW.out.mono HX.out.bel.size)) (Nat.le_refl _))) ?_
  rintro e u8a ⟨k8, rfl, ho6, hb6⟩
  refine hK.out _ _ (HSW.out.trans hb6) ?_
  have HS6 := Lib.hid (HSW.out.trans hb6)
  have HO6 := Lib.hid ho6
  clear hK hb6 ho6
  try simp only [Act.put, List.setIfInBounds_toArray, List.set_cons_zero, List.set_cons_succ]
  refine hl_one 3 rfl (by kernel_rfl) (fun K hK => ?_)
  go_simp
  refine Calls.mono (HEA.out h6 k8 _ (HP6.out.below HS6.out (Nat.le_refl _)) HO6.out) ?_
  rintro e u8b ⟨rfl, hb7⟩
  refine hK.out _ _ (HS6.out.trans (hb7.mono HS6.out.size)) ?_
  have HS7 := Lib.hid (HS6.out.trans (hb7.mono HS6.out.size))
  clear hK hb7 HS6 HO6 HSW
  try simp only [Act.put, List.setIfInBounds_toArray, List.set_cons_zero, List.set_cons_succ]
  refine hl_done (by kernel_rfl) ?_
  go_simp
  have HX := Lib.hid (HX.out.to HS7.out)
  have HP7 := Lib.hid (HP7.out.below HS7.out (Nat.le_refl _))
  have HB7 := Lib.hid (blk_bel HB7.out HS7.out)
  clear HS7 HP6 HB6
  go_wp2_with fail
  have HSW : Hid (Below u8b.heap.size u8b u8b.drew) := Lib.hid (Below.refl _ _).drew
  refine wp_region_hl 4 (fun X => Below u8b.heap.size u8b X) (by kernel_rfl) rfl rfl (by kernel_rfl) ?_
  refine hl_take (v := ?v90) 0 rfl (by kernel_rfl) (fun _ _ _ h => h) (Or.inl ⟨by rfl, ?hy90⟩) HSW.out ?rest90
  case hy90 =>
    intro X hSw
    have hk := blk_bel HB7.out hSw
    have q0 := cell_of_row X _ 0 _ _ _ hk
    have q1 := cell_of_row X _ 1 _ _ _ hk
    have q2 := cell_of_row X _ 2 _ _ _ hk
    have q3 := cell_of_row X _ 3 _ _ _ hk
    clear hk
    go_simp <;> with_reducible rfl
  try simp only [Act.put, List.setIfInBounds_toArray, List.set_cons_zero, List.set_cons_succ]
  refine hl_take (v := ?v91) 1 rfl (by kernel_rfl) (fun _ _ _ h => h) (Or.inl ⟨by rfl, ?hy91⟩) HSW.out ?rest91
  case hy91 =>
    intro X hSw
    have hk := blk_bel HX.out.box2 hSw
    have q0 := cell_of_row X _ 0 _ _ _ hk
    have q1 := cell_of_row X _ 1 _ _ _ hk
    have q2 := cell_of_row X _ 2 _ _ _ hk
    have q3 := cell_of_row X _ 3 _ _ _ hk
    clear hk
    go_simp <;> with_reducible rfl
  try simp only [Act.put, List.setIfInBounds_toArray, List.set_cons_zero, List.set_cons_succ]
  refine hl_one 2 rfl (by kernel_rfl) (fun K hK => ?_)
  go_simp
  refine Calls.mono (HTB.out _ (HY.out.below (HX.out.bel.trans (HSW.out.mono HX.out.bel.size)) (Nat.le_refl _))) ?_
  rintro e u9a ⟨k9, rfl, ho6, hb6⟩
  refine hK.out _ _ (HSW.out.trans hb6) ?_
  have HS6 := Lib.hid (HSW.out.trans hb6)
  have HO6 := Lib.hid ho6
  clear hK hb6 ho6
  try simp only [Act.put, List.setIfInBounds_toArray, List.set_cons_zero, List.set_cons_succ]
  refine hl_one 3 rfl (by kernel_rfl) (fun K hK => ?_)
  go_simp
  refine Calls.mono (HEB.out h7 k9 _ (HP7.out.below HS6.out (Nat.le_refl _)) HO6.out) ?_
  rintro e u9b ⟨rfl, hb7⟩
  refine hK.out _ _ (HS6.out.trans (hb7.mono HS6.out.size)) ?_
  have HS7 := Lib.hid (HS6.out.trans (hb7.mono HS6.out.size))
  clear hK hb7 HS6 HO6 HSW
  try simp only [Act.put, List.setIfInBounds_toArray, List.set_cons_zero, List.set_cons_succ]
  refine hl_done (by kernel_rfl) ?_
  go_simp
  go_wp2
  go_ret
  exact ⟨rfl, (HX.out.to HS7.out).bel⟩
theorem FnExactSameProgram_came (cs ds : Array Value) (W : World) (h : Came Tryd.prog W 27 cs.toList) (h2 : Came Tryd.prog W 27 ds.toList) (hf : OpTab W ∧ EffTab W ∧ FbTab W) : Calls Tryd.prog 4 #[.agg cs, .agg ds] W fun e w' => e = .returned (.bool true) ∧ Below W.heap.size W w' := by
  obtain ⟨H, D, e, hz, hm⟩ := came_pgm h
  obtain ⟨G, E, e2, hy, hn⟩ := came_pgm h2
  rw [e, e2]
  exact FnExactSameProgram_walk H G D E hm hn W ⟨hf.1, hf.2.1, hf.2.2⟩ hz hy
end Go.Proofs.YtpdnkcfphjbbfaaDoor
