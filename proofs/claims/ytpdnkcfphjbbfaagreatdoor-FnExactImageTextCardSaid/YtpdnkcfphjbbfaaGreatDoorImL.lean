/- ImageText of impl and of spec; the law ImageText. (Written by tools/gen_imlaw.py.) -/
import Derived.Test.YtpdnkcfphjbbfaaGreatDoorPay
import Derived.Test.YtpdnkcfphjbbfaaGreatDoorSmP
namespace Go.Proofs.YtpdnkcfphjbbfaaGreatDoor
open Go.ChangeShapes Go.WideShapes Go.ChangeAt Go.RowKit Go.PlainAid
set_option linter.unusedVariables false
theorem goodK {D : Pgm} (h : okP D = true) : Good D := good_of (by unfold okP at h; exact beq_iff_eq.1 h)
def imS (D : Pgm) : ByteArray := if okP D = true then imgF D else ⟨#[]⟩
def imC (D : Pgm) : Int := if okP D = true then 0 else 1
theorem ret_bi {a b : ByteArray} {c d : Int} (h : a = b) (g : c = d) : Ending.returned (.tuple #[.string a, .int .i64 c]) = .returned (.tuple #[.string b, .int .i64 d]) := by rw [h, g]
theorem specImageText_any (h : PH) (D : Pgm) (hm : D.le maxLen) (w : World) (hz : PLies w h D) :
    Calls Tryz.prog 7 #[pV h D] w fun e w' => e = .returned (.tuple #[.string (imS D), .int .i64 (imC D)]) ∧ Below w.heap.size w w' := by
  have HX := Lib.hid (Bx.start w (pO h D 34))
  have HC := Lib.hid (l08Check_any h D hm _ (hz.below HX.out.bel (Nat.le_refl _)))
  have HTX := Lib.hid (fun hg X hz => l08Text_any h D hg X hz)
  have HZ := Lib.hid hz
  have HO : Hid (okP D = ((ckF D).2 == 0)) := Lib.hid rfl
  clear hz
  cases ho : okP D
  · have HR : Hid (imS D = ⟨#[]⟩ ∧ imC D = 1) := Lib.hid ⟨by unfold imS; rw [ho]; rfl, by unfold imC; rw [ho]; rfl⟩
    have hne : ((ckF D).2 != 0) = true := by
      have := HO.out
      rw [ho] at this
      rw [bne_iff_ne]
      exact fun e => by rw [e] at this; simp at this
    clear HO HTX ho
    generalize ckF D = R at *
    obtain ⟨r1, r2⟩ := R
    dsimp only at HC hne
    go_enter Tryz.func7, Tryz.ntmps7
    go_wp2_with fail
    refine Calls.mono HC.out ?_
    rintro e w1 ⟨rfl, hb⟩
    have HX := Lib.hid (HX.out.to hb)
    clear hb
    go_wp2
    go_ret2
    exact ⟨ret_bi HR.out.1.symm HR.out.2.symm, HX.out.bel⟩
  · have HR : Hid (imS D = imgF D ∧ imC D = 0) := Lib.hid ⟨by unfold imS; rw [ho]; rfl, by unfold imC; rw [ho]; rfl⟩
    have h0 : (ckF D).2 = 0 := by
      have := HO.out
      rw [ho] at this
      exact beq_iff_eq.1 this.symm
    have HTX := Lib.hid (HTX.out (goodK ho))
    clear HO ho
    rw [h0] at HC
    clear h0
    generalize (ckF D).1 = r1 at *
    generalize imgF D = I at *
    go_enter Tryz.func7, Tryz.ntmps7
    go_wp2_with fail
    refine Calls.mono HC.out ?_
    rintro e w1 ⟨rfl, hb⟩
    have HX := Lib.hid (HX.out.to hb)
    clear hb
    have q0 := cell_of_row w1 w.heap.size 0 _ _ _ HX.out.box
    have q1 := cell_of_row w1 w.heap.size 1 _ _ _ HX.out.box
    have q2 := cell_of_row w1 w.heap.size 2 _ _ _ HX.out.box
    have q3 := cell_of_row w1 w.heap.size 3 _ _ _ HX.out.box
    go_wp2_with fail
    refine Calls.mono (HTX.out _ (HZ.out.below HX.out.bel (Nat.le_refl _))) ?_
    rintro e w2 ⟨rfl, hb⟩
    have HX := Lib.hid (HX.out.to hb)
    clear hb
    go_wp2
    go_ret2
    exact ⟨ret_bi HR.out.1.symm HR.out.2.symm, HX.out.bel⟩
theorem implImageText_any (h : PH) (D : Pgm) (hm : D.le maxLen) (w : World) (aR bE : Addr) (ht : VTabs w) (hS : Sent w aR bE) (hz : PLies w h D) :
    Calls Tryz.prog 9 #[pV h D] w fun e w' => e = .returned (.tuple #[.string (imS D), .int .i64 (imC D)]) ∧ Below w.heap.size w w' := by
  have HX := Lib.hid (Bx.start w (pO h D 34))
  have HC := Lib.hid (programOK_any h D hm _ (ht.below HX.out.bel (Nat.le_refl _)) (hz.below HX.out.bel (Nat.le_refl _)))
  have HZ := Lib.hid hz
  have HP := Lib.hid (fun hg X (hb : Below w.heap.size w X) => payloadOf_any h D hg X aR bE ((ht.below hb (Nat.le_refl _)).op) (hS.below hb) (hz.below hb (Nat.le_refl _)))
  clear hz
  cases ho : okP D
  · have HR : Hid (imS D = ⟨#[]⟩ ∧ imC D = 1) := Lib.hid ⟨by unfold imS; rw [ho]; rfl, by unfold imC; rw [ho]; rfl⟩
    rw [ho] at HC
    clear HP ho
    go_enter Tryz.func9, Tryz.ntmps9
    go_wp2_with fail
    refine Calls.mono HC.out ?_
    rintro e w1 ⟨rfl, hb⟩
    have HX := Lib.hid (HX.out.to hb)
    clear hb
    go_wp2
    go_ret2
    exact ⟨ret_bi HR.out.1.symm HR.out.2.symm, HX.out.bel⟩
  · have HR : Hid (imS D = imgF D ∧ imC D = 0) := Lib.hid ⟨by unfold imS; rw [ho]; rfl, by unfold imC; rw [ho]; rfl⟩
    have hpl := pay_len (goodK ho)
    have hsz : (⟨(payL D).toArray⟩ : ByteArray).size ≤ 2000 := by rw [size_mk]; exact hpl
    have HF := Lib.hid (fun X (hb : Below w.heap.size w X) => frameText_any ⟨(payL D).toArray⟩ (by unfold maxLen; omega) aR bE X (hS.below hb))
    have HFS := Lib.hid (And.intro (frS_yes (s := ⟨(payL D).toArray⟩) (by omega)) (frC_yes (s := ⟨(payL D).toArray⟩) (by omega)))
    rw [HFS.out.1, HFS.out.2] at HF
    have HP := Lib.hid (HP.out (goodK ho))
    rw [ho] at HC
    have HI : Hid (imgF D = frameF ⟨(payL D).toArray⟩) := Lib.hid rfl
    clear ho hpl hsz HFS
    generalize (⟨(payL D).toArray⟩ : ByteArray) = PL at *
    go_enter Tryz.func9, Tryz.ntmps9
    go_wp2_with fail
    refine Calls.mono HC.out ?_
    rintro e w1 ⟨rfl, hb⟩
    have HX := Lib.hid (HX.out.to hb)
    clear hb
    have q0 := cell_of_row w1 w.heap.size 0 _ _ _ HX.out.box
    have q1 := cell_of_row w1 w.heap.size 1 _ _ _ HX.out.box
    have q2 := cell_of_row w1 w.heap.size 2 _ _ _ HX.out.box
    have q3 := cell_of_row w1 w.heap.size 3 _ _ _ HX.out.box
    go_wp2_with fail
    refine Calls.mono (HP.out _ HX.out.bel) ?_
    rintro e w2 ⟨rfl, hb⟩
    have HX := Lib.hid (HX.out.to hb)
    clear hb
    go_wp2_with fail
    refine Calls.mono (HF.out _ HX.out.bel) ?_
    rintro e w3 ⟨rfl, hb⟩
    have HX := Lib.hid (HX.out.to hb)
    clear hb
    go_wp2
    go_ret2
    exact ⟨ret_bi (by rw [HR.out.1, HI.out]) HR.out.2.symm, HX.out.bel⟩
theorem FnExactImageText_walk (h : PH) (D : Pgm) (hm : D.le maxLen) (w : World) (aR bE : Addr) (ht : VTabs w) (hS : Sent w aR bE) (hz : PLies w h D) :
    Calls Tryz.prog 3 #[pV h D] w fun e w' => e = .returned (.bool true) ∧ Below w.heap.size w w' := by
  have HX := Lib.hid (Bx.start w (pO h D 27))
  have HZ := Lib.hid hz
  have HT := Lib.hid (fun X (hb : Below w.heap.size w X) => And.intro (ht.below hb (Nat.le_refl _)) (hS.below hb))
  have HSZ := Lib.hid (fun X hz => szProgram_any h D 1048576 (by decide) hm X hz)
  have HSP : Hid (∀ X e X', SzPPost D 1048576 X e X' → ∃ v : Int, e = .returned (.int .i64 v) ∧ Below X.heap.size X X' ∧ (v < 0 ∨ 0 ≤ v ∧ v ≤ 1048576 ∧ D.le 1048576 ∧ sumL D.rs D.rs.length ≤ 1048576)) := Lib.hid (fun _ _ _ h => h)
  have HTP := Lib.hid (fun hle X hz => toProgram_any h D hle X hz)
  have HSC := Lib.hid (fun h X hz => specImageText_any h D hm X hz)
  have HIC := Lib.hid (fun h X (ht : VTabs X ∧ Sent X aR bE) hz => implImageText_any h D hm X aR bE ht.1 ht.2 hz)
  have HEQ := Lib.hid (fun hle h h' X hz hy => eqProgram_same h h' D hle X hz hy)
  clear hz ht hS
  generalize imS D = R1 at *
  generalize imC D = R2 at *
  have e2 : (R2 != R2) = false := by simp
  go_enter Tryz.func3, Tryz.ntmps3
  go_wp2_with fail
  refine Calls.mono (HSZ.out _ (HZ.out.below HX.out.bel (Nat.le_refl _))) ?_
  intro e w1 hsp
  obtain ⟨v, rfl, hb, hv⟩ := HSP.out _ _ _ hsp
  have HX := Lib.hid (HX.out.to hb)
  clear hb hsp
  by_cases hv0 : v < 0
  · clear hv
    go_wp2
    go_ret
    exact ⟨rfl, HX.out.bel⟩
  have hle : D.le 1048576 := by
    rcases hv with h | h
    · exact absurd h hv0
    · exact h.2.2.1
  have HTP := Lib.hid (HTP.out hle)
  have HEQ := Lib.hid (HEQ.out hle)
  clear hv hle
  have q0 := cell_of_row w1 w.heap.size 0 _ _ _ HX.out.box
  have q1 := cell_of_row w1 w.heap.size 1 _ _ _ HX.out.box
  have q2 := cell_of_row w1 w.heap.size 2 _ _ _ HX.out.box
  have q3 := cell_of_row w1 w.heap.size 3 _ _ _ HX.out.box
  go_wp2_with fail
  refine Calls.mono (HTP.out _ (HZ.out.below HX.out.bel (Nat.le_refl _))) ?_
  rintro e w2 ⟨h2, rfl, ho2, hb⟩
  have HX := Lib.hid (HX.out.to hb)
  have HO2 := Lib.hid ho2
  clear ho2 hb q0 q1 q2 q3
  go_wp2_with fail
  refine Calls.mono (HSC.out _ _ HO2.out) ?_
  rintro e w3 ⟨rfl, hb⟩
  have HX := Lib.hid (HX.out.to hb)
  clear hb HO2
  have q0 := cell_of_row w3 w.heap.size 0 _ _ _ HX.out.box
  have q1 := cell_of_row w3 w.heap.size 1 _ _ _ HX.out.box
  have q2 := cell_of_row w3 w.heap.size 2 _ _ _ HX.out.box
  have q3 := cell_of_row w3 w.heap.size 3 _ _ _ HX.out.box
  go_wp2_with fail
  refine Calls.mono (HTP.out _ (HZ.out.below HX.out.bel (Nat.le_refl _))) ?_
  rintro e w4 ⟨h4, rfl, ho4, hb⟩
  have HX := Lib.hid (HX.out.to hb)
  have HO4 := Lib.hid ho4
  clear ho4 hb q0 q1 q2 q3
  go_wp2_with fail
  have HXa := Lib.hid (HX.out.to (dbox w4 (pO h4 D 34)))
  have HLa := Lib.hid (HO4.out.below (dbox w4 (pO h4 D 34)) (Nat.le_refl _))
  refine Calls.mono (HIC.out h4 _ (HT.out _ HXa.out.bel) HLa.out) ?_
  rintro e w5 ⟨rfl, hb⟩
  have HX5 := Lib.hid (HXa.out.to hb)
  have HY5 := Lib.hid (blk_bel (heap_alloc_new w4 (pO h4 D 34)) hb)
  have HL5 := Lib.hid (HLa.out.below hb (Nat.le_refl _))
  clear hb HX HO4 HXa HLa
  go_wp2_with fail
  have HSW : Hid (Below w5.heap.size w5 w5.drew) := Lib.hid (Below.refl _ _).drew
  refine wp_region_hl 4 (fun X => Below w5.heap.size w5 X) (by kernel_rfl) rfl rfl (by kernel_rfl) ?_
  refine hl_take (v := ?v50) 0 rfl (by kernel_rfl) (fun _ _ _ h => h) (Or.inl ⟨by rfl, ?hy50⟩) HSW.out ?rest50
  case hy50 =>
    intro X hSw
    have hk := blk_bel HY5.out hSw
    have q0 := cell_of_row X _ 0 _ _ _ hk
    have q1 := cell_of_row X _ 1 _ _ _ hk
    have q2 := cell_of_row X _ 2 _ _ _ hk
    have q3 := cell_of_row X _ 3 _ _ _ hk
    clear hk
    go_simp <;> with_reducible rfl
  try simp only [Act.put, List.setIfInBounds_toArray, List.set_cons_zero, List.set_cons_succ]
  refine hl_take (v := ?v51) 1 rfl (by kernel_rfl) (fun _ _ _ h => h) (Or.inl ⟨by rfl, ?hy51⟩) HSW.out ?rest51
  case hy51 =>
    intro X hSw
    have hk := blk_bel HX5.out.box hSw
    have q0 := cell_of_row X _ 0 _ _ _ hk
    have q1 := cell_of_row X _ 1 _ _ _ hk
    have q2 := cell_of_row X _ 2 _ _ _ hk
    have q3 := cell_of_row X _ 3 _ _ _ hk
    clear hk
    go_simp <;> with_reducible rfl
  try simp only [Act.put, List.setIfInBounds_toArray, List.set_cons_zero, List.set_cons_succ]
  refine hl_one 2 rfl (by kernel_rfl) (fun K hK => ?_)
  go_simp
  refine Calls.mono (HTP.out _ (HZ.out.below (HX5.out.bel.drew) (Nat.le_refl _))) ?_
  rintro e u5a ⟨k5, rfl, ho6, hb6⟩
  refine hK.out _ _ (HSW.out.trans hb6) ?_
  have HS6 := Lib.hid (HSW.out.trans hb6)
  have HO6 := Lib.hid ho6
  clear hK hb6 ho6
  try simp only [Act.put, List.setIfInBounds_toArray, List.set_cons_zero, List.set_cons_succ]
  refine hl_one 3 rfl (by kernel_rfl) (fun K hK => ?_)
  go_simp
  refine Calls.mono (HEQ.out h4 k5 _ (HL5.out.below HS6.out (Nat.le_refl _)) HO6.out) ?_
  rintro e u5b ⟨rfl, hb7⟩
  refine hK.out _ _ (HS6.out.trans (hb7.mono HS6.out.size)) ?_
  have HS7 := Lib.hid (HS6.out.trans (hb7.mono HS6.out.size))
  clear hK hb7 HS6 HO6 HSW
  try simp only [Act.put, List.setIfInBounds_toArray, List.set_cons_zero, List.set_cons_succ]
  refine hl_done (by kernel_rfl) ?_
  go_simp
  go_wp2
  go_ret
  exact ⟨rfl, (HX5.out.to HS7.out).bel⟩
theorem FnExactImageText_came (cs : Array Value) (W : World) (h : Came Tryz.prog W 27 cs.toList) (hf : OpTab W ∧ EffTab W ∧ FbTab W ∧ ∃ aR bE, Sent W aR bE) : Calls Tryz.prog 3 #[.agg cs] W fun e w' => e = .returned (.bool true) ∧ Below W.heap.size W w' := by
  obtain ⟨H, D, e, hz, hm⟩ := came_pgm h
  rw [e]
  obtain ⟨f1, f2, f3, aR, bE, f4⟩ := hf
  exact FnExactImageText_walk H D hm W aR bE ⟨f1, f2, f3⟩ f4 hz
end Go.Proofs.YtpdnkcfphjbbfaaGreatDoor
