/- The exact law of LoadOf. (Written by tools/gen_ldl.py.) -/
import Derived.Test.YtppgknjpbfopjaaGreatDoorCkP
import Derived.Test.YtppgknjpbfopjaaGreatDoorBd
namespace Go.Proofs.YtppgknjpbfopjaaGreatDoor
open Go.ChangeShapes Go.WideShapes Go.ChangeAt Go.RowKit
set_option linter.unusedVariables false
theorem FnExactLoadOf_walk (h : PH) (D : Pgm) (hm : D.le maxLen) (w : World) (ht : VTabs w) (hz : PLies w h D) :
    Calls Tryz.prog 5 #[pV h D] w fun e w' => e = .returned (.bool true) ∧ Below w.heap.size w w' := by
  have HX := Lib.hid (Bx.start w (pO h D 27))
  have HZ := Lib.hid hz
  have HT := Lib.hid (fun X (hb : Below w.heap.size w X) => ht.below hb (Nat.le_refl _))
  have HSZ := Lib.hid (fun X hz => szProgram_any h D 1048576 (by decide) hm X hz)
  have HSP : Hid (∀ X e X', SzPPost D 1048576 X e X' → ∃ v : Int, e = .returned (.int .i64 v) ∧ Below X.heap.size X X' ∧ (v < 0 ∨ 0 ≤ v ∧ v ≤ 1048576 ∧ D.le 1048576 ∧ sumL D.rs D.rs.length ≤ 1048576)) := Lib.hid (fun _ _ _ h => h)
  have HTP := Lib.hid (fun hle X hz => toProgram_any h D hle X hz)
  have HSC := Lib.hid (fun h X hz => specLoadOf_any h D hm X hz)
  have HIC := Lib.hid (fun h X ht hz => LoadOf_any h D hm X ht hz)
  have HEQ := Lib.hid (fun hle h h' X hz hy => eqProgram_same h h' D hle X hz hy)
  clear hz ht
  generalize (ldR D).1 = R1 at *
  generalize (ldR D).2 = R2 at *
  have e1 : (R1 != R1) = false := by simp
  have e2 : (R2 != R2) = false := by simp
  go_enter Tryz.func5, Tryz.ntmps5
  go_wp2_with fail
  refine Calls.mono (HSZ.out _ (HZ.out.below HX.out.bel (Nat.le_refl _))) ?_
  intro e w1 hsp
  obtain ⟨v, rfl, hb, hv⟩ := HSP.out _ _ _ hsp
  have HX := Lib.hid (HX.out.to hb)
  clear hb hsp
  by_cases hv0 : v < 0
  · clear hv
    go_wp2
    go_ret
    exact ⟨rfl, HX.out.bel⟩
  have hle : D.le 1048576 := by
    rcases hv with h | h
    · exact absurd h hv0
    · exact h.2.2.1
  have HTP := Lib.hid (HTP.out hle)
  have HEQ := Lib.hid (HEQ.out hle)
  clear hv hle
  have q0 := cell_of_row w1 w.heap.size 0 _ _ _ HX.out.box
  have q1 := cell_of_row w1 w.heap.size 1 _ _ _ HX.out.box
  have q2 := cell_of_row w1 w.heap.size 2 _ _ _ HX.out.box
  have q3 := cell_of_row w1 w.heap.size 3 _ _ _ HX.out.box
  go_wp2_with fail
  refine Calls.mono (HTP.out _ (HZ.out.below HX.out.bel (Nat.le_refl _))) ?_
  rintro e w2 ⟨h2, rfl, ho2, hb⟩
  have HX := Lib.hid (HX.out.to hb)
  have HO2 := Lib.hid ho2
  clear ho2 hb q0 q1 q2 q3
  go_wp2_with fail
  refine Calls.mono (HSC.out _ _ HO2.out) ?_
  rintro e w3 ⟨rfl, hb⟩
  have HX := Lib.hid (HX.out.to hb)
  clear hb HO2
  have q0 := cell_of_row w3 w.heap.size 0 _ _ _ HX.out.box
  have q1 := cell_of_row w3 w.heap.size 1 _ _ _ HX.out.box
  have q2 := cell_of_row w3 w.heap.size 2 _ _ _ HX.out.box
  have q3 := cell_of_row w3 w.heap.size 3 _ _ _ HX.out.box
  go_wp2_with fail
  refine Calls.mono (HTP.out _ (HZ.out.below HX.out.bel (Nat.le_refl _))) ?_
  rintro e w4 ⟨h4, rfl, ho4, hb⟩
  have HX := Lib.hid (HX.out.to hb)
  have HO4 := Lib.hid ho4
  clear ho4 hb q0 q1 q2 q3
  go_wp2_with fail
  have HXa := Lib.hid (HX.out.to (dbox w4 (pO h4 D 35)))
  have HLa := Lib.hid (HO4.out.below (dbox w4 (pO h4 D 35)) (Nat.le_refl _))
  refine Calls.mono (HIC.out h4 _ (HT.out _ HXa.out.bel) HLa.out) ?_
  rintro e w5 ⟨rfl, hb⟩
  have HX5 := Lib.hid (HXa.out.to hb)
  have HY5 := Lib.hid (blk_bel (heap_alloc_new w4 (pO h4 D 35)) hb)
  have HL5 := Lib.hid (HLa.out.below hb (Nat.le_refl _))
  clear hb HX HO4 HXa HLa
  go_wp2_with fail
  have HSW : Hid (Below w5.heap.size w5 w5.drew) := Lib.hid (Below.refl _ _).drew
  refine wp_region_hl 4 (fun X => Below w5.heap.size w5 X) (by kernel_rfl) rfl rfl (by kernel_rfl) ?_
  refine hl_take (v := ?v50) 0 rfl (by kernel_rfl) (fun _ _ _ h => h) (Or.inl ⟨by rfl, ?hy50⟩) HSW.out ?rest50
  case hy50 =>
    intro X hSw
    have hk := blk_bel HY5.out hSw
    have q0 := cell_of_row X _ 0 _ _ _ hk
    have q1 := cell_of_row X _ 1 _ _ _ hk
    have q2 := cell_of_row X _ 2 _ _ _ hk
    have q3 := cell_of_row X _ 3 _ _ _ hk
    clear hk
    go_simp <;> with_reducible rfl
  try simp only [Act.put, List.setIfInBounds_toArray, List.set_cons_zero, List.set_cons_succ]
  refine hl_take (v := ?v51) 1 rfl (by kernel_rfl) (fun _ _ _ h => h) (Or.inl ⟨by rfl, ?hy51⟩) HSW.out ?rest51
  case hy51 =>
    intro X hSw
    have hk := blk_bel HX5.out.box hSw
    have q0 := cell_of_row X _ 0 _ _ _ hk
    have q1 := cell_of_row X _ 1 _ _ _ hk
    have q2 := cell_of_row X _ 2 _ _ _ hk
    have q3 := cell_of_row X _ 3 _ _ _ hk
    clear hk
    go_simp <;> with_reducible rfl
  try simp only [Act.put, List.setIfInBounds_toArray, List.set_cons_zero, List.set_cons_succ]
  refine hl_one 2 rfl (by kernel_rfl) (fun K hK => ?_)
  go_simp
  refine Calls.mono (HTP.out _ (HZ.out.below (HX5.out.bel.drew) (Nat.le_refl _))) ?_
  rintro e u5a ⟨k5, rfl, ho6, hb6⟩
  refine hK.out _ _ (HSW.out.trans hb6) ?_
  have HS6 := Lib.hid (HSW.out.trans hb6)
  have HO6 := Lib.hid ho6
  clear hK hb6 ho6
  try simp only [Act.put, List.setIfInBounds_toArray, List.set_cons_zero, List.set_cons_succ]
  refine hl_one 3 rfl (by kernel_rfl) (fun K hK => ?_)
  go_simp
  refine Calls.mono (HEQ.out h4 k5 _ (HL5.out.below HS6.out (Nat.le_refl _)) HO6.out) ?_
  rintro e u5b ⟨rfl, hb7⟩
  refine hK.out _ _ (HS6.out.trans (hb7.mono HS6.out.size)) ?_
  have HS7 := Lib.hid (HS6.out.trans (hb7.mono HS6.out.size))
  clear hK hb7 HS6 HO6 HSW
  try simp only [Act.put, List.setIfInBounds_toArray, List.set_cons_zero, List.set_cons_succ]
  refine hl_done (by kernel_rfl) ?_
  go_simp
  go_wp2
  go_ret
  exact ⟨rfl, (HX5.out.to HS7.out).bel⟩
theorem FnExactLoadOf_came (cs : Array Value) (W : World) (h : Came Tryz.prog W 27 cs.toList) (hf : OpTab W ∧ EffTab W ∧ FbTab W) : Calls Tryz.prog 5 #[.agg cs] W fun e w' => e = .returned (.bool true) ∧ Below W.heap.size W w' := by
  obtain ⟨H, D, e, hz, hm⟩ := came_pgm h
  rw [e]
  exact FnExactLoadOf_walk H D hm W ⟨hf.1, hf.2.1, hf.2.2⟩ hz
end Go.Proofs.YtppgknjpbfopjaaGreatDoor
