/- The exact law of DataOK. -/
import Derived.Test.YtgiegppakoiaiaaDoorDatOK
namespace Go.Proofs.YtgiegppakoiaiaaDoor
open Go.ChangeShapes Go.WideShapes Go.ChangeAt Go.RowKit
set_option linter.unusedVariables false
theorem le_mono {D : Dat} {m n : Nat} (h : D.le m) (g : m ≤ n) : D.le n := ⟨Nat.le_trans h.h0 g, Nat.le_trans h.h1 g, Nat.le_trans h.h2 g, Nat.le_trans h.h3 g, Nat.le_trans h.h4 g, Nat.le_trans h.h5 g⟩
theorem le_max {D : Dat} (h : D.le 1048576) : D.le maxLen := le_mono h (by decide)
/-- What was there, and the argument's box. -/
structure Bx (w : World) (O : Obj) (X : World) : Prop where
  bel : Below w.heap.size w X
  box : X.heap[w.heap.size]? = some O
theorem Bx.start (w : World) (O : Obj) : Bx w O (w.alloc O) := ⟨dbox w O, heap_alloc_new w O⟩
theorem Bx.to {w X Y : World} {O : Obj} (h : Bx w O X) (hb : Below X.heap.size X Y) : Bx w O Y := ⟨h.bel.trans (hb.mono h.bel.size), blk_bel h.box hb⟩
theorem FnExactDataOK_walk (h : DH) (D : Dat) (hm : D.le maxLen) (w : World) (ht : FbTab w) (hz : DLies w h D) :
    Calls Tryd.prog 5 #[dV h D] w fun e w' => e = .returned (.bool true) ∧ Below w.heap.size w w' := by
  have HM := Lib.hid hm
  have HT := Lib.hid ht
  have HZ := Lib.hid hz
  have HB := Lib.hid (Bx.start w (dO h D 56))
  clear hm ht hz
  go_enter Tryd.func5, Tryd.ntmps5
  go_wp2_with fail
  refine Calls.mono (szData_any h D HM.out 1048576 (by omega) _) ?_
  rintro e w1 ⟨hb1, r, rfl, hr⟩
  have HB1 := Lib.hid (HB.out.to hb1)
  clear hb1
  rcases hr with rfl | ⟨r0, r1, hle⟩
  · go_wp2
    go_ret
    exact ⟨rfl, HB1.out.bel⟩
  have HL := Lib.hid hle
  have q0 := cell_of_row w1 w.heap.size 0 _ _ _ HB1.out.box
  have q1 := cell_of_row w1 w.heap.size 1 _ _ _ HB1.out.box
  have q2 := cell_of_row w1 w.heap.size 2 _ _ _ HB1.out.box
  have q3 := cell_of_row w1 w.heap.size 3 _ _ _ HB1.out.box
  have q4 := cell_of_row w1 w.heap.size 4 _ _ _ HB1.out.box
  have q5 := cell_of_row w1 w.heap.size 5 _ _ _ HB1.out.box
  have q6 := cell_of_row w1 w.heap.size 6 _ _ _ HB1.out.box
  clear hle
  go_wp2_with fail
  refine Calls.mono (toData_any h D HL.out _ (HZ.out.below HB1.out.bel (Nat.le_refl _))) ?_
  rintro e w2 ⟨h2, rfl, ho2, hb2⟩
  have HB2 := Lib.hid (HB1.out.to hb2)
  have HO2 := Lib.hid ho2
  clear ho2 hb2 q0 q1 q2 q3 q4 q5 q6
  go_wp2_with fail
  refine Calls.mono (specDataOK_any h2 D HM.out _ HO2.out.lies) ?_
  rintro e w3 ⟨rfl, hb3⟩
  have HB3 := Lib.hid (HB2.out.to hb3)
  clear hb3
  have q0 := cell_of_row w3 w.heap.size 0 _ _ _ HB3.out.box
  have q1 := cell_of_row w3 w.heap.size 1 _ _ _ HB3.out.box
  have q2 := cell_of_row w3 w.heap.size 2 _ _ _ HB3.out.box
  have q3 := cell_of_row w3 w.heap.size 3 _ _ _ HB3.out.box
  have q4 := cell_of_row w3 w.heap.size 4 _ _ _ HB3.out.box
  have q5 := cell_of_row w3 w.heap.size 5 _ _ _ HB3.out.box
  have q6 := cell_of_row w3 w.heap.size 6 _ _ _ HB3.out.box
  go_wp2_with fail
  refine Calls.mono (toData_any h D HL.out _ (HZ.out.below HB3.out.bel (Nat.le_refl _))) ?_
  rintro e w4 ⟨h4, rfl, ho4, hb4⟩
  have HB4 := Lib.hid (HB3.out.to hb4)
  have HO4 := Lib.hid ho4
  clear ho4 hb4 q0 q1 q2 q3 q4 q5 q6
  go_wp2_with fail
  have HBa := Lib.hid (HB4.out.to (dbox w4 (dO h4 D 27)))
  have HLa := Lib.hid (HO4.out.lies.below (dbox w4 (dO h4 D 27)) (Nat.le_refl _))
  refine Calls.mono (dataOK_any h4 D HM.out _ (HT.out.below HBa.out.bel (Nat.le_refl _)) HLa.out) ?_
  rintro e w5 ⟨rfl, hb5⟩
  have HB5 := Lib.hid (HBa.out.to hb5)
  have HX5 := Lib.hid (blk_bel (heap_alloc_new w4 (dO h4 D 27)) hb5)
  have HL5 := Lib.hid (HLa.out.below hb5 (Nat.le_refl _))
  have HSW : Hid (Below w5.heap.size w5 w5.drew) := Lib.hid (Below.refl _ _).drew
  clear hb5
  go_wp2_with fail
  refine wp_region_hl 4 (fun X => Below w5.heap.size w5 X) (by kernel_rfl) rfl rfl (by kernel_rfl) ?_
  refine hl_take (v := ?v0) 0 rfl (by kernel_rfl) (fun _ _ _ h => h) (Or.inl ⟨by rfl, ?hy0⟩) HSW.out ?rest0
  case hy0 =>
    intro X hSw
    have hk := blk_bel HX5.out hSw
    have q0 := cell_of_row X _ 0 _ _ _ hk
    have q1 := cell_of_row X _ 1 _ _ _ hk
    have q2 := cell_of_row X _ 2 _ _ _ hk
    have q3 := cell_of_row X _ 3 _ _ _ hk
    have q4 := cell_of_row X _ 4 _ _ _ hk
    have q5 := cell_of_row X _ 5 _ _ _ hk
    have q6 := cell_of_row X _ 6 _ _ _ hk
    clear hk
    go_simp <;> with_reducible rfl
  try simp only [Act.put, List.setIfInBounds_toArray, List.set_cons_zero, List.set_cons_succ]
  refine hl_take (v := ?v1) 1 rfl (by kernel_rfl) (fun _ _ _ h => h) (Or.inl ⟨by rfl, ?hy1⟩) HSW.out ?rest1
  case hy1 =>
    intro X hSw
    have hk := blk_bel HB5.out.box hSw
    have q0 := cell_of_row X _ 0 _ _ _ hk
    have q1 := cell_of_row X _ 1 _ _ _ hk
    have q2 := cell_of_row X _ 2 _ _ _ hk
    have q3 := cell_of_row X _ 3 _ _ _ hk
    have q4 := cell_of_row X _ 4 _ _ _ hk
    have q5 := cell_of_row X _ 5 _ _ _ hk
    have q6 := cell_of_row X _ 6 _ _ _ hk
    clear hk
    go_simp <;> with_reducible rfl
  try simp only [Act.put, List.setIfInBounds_toArray, List.set_cons_zero, List.set_cons_succ]
  refine hl_one 2 rfl (by kernel_rfl) (fun K hK => ?_)
  go_simp
  refine Calls.mono (toData_any h D HL.out _ (HZ.out.below (HB5.out.bel.drew) (Nat.le_refl _))) ?_
  rintro e w6 ⟨h6, rfl, ho6, hb6⟩
  refine hK.out _ _ (HSW.out.trans hb6) ?_
  have HS6 := Lib.hid (HSW.out.trans hb6)
  have HO6 := Lib.hid ho6
  clear hK hb6 ho6
  try simp only [Act.put, List.setIfInBounds_toArray, List.set_cons_zero, List.set_cons_succ]
  refine hl_one 3 rfl (by kernel_rfl) (fun K hK => ?_)
  go_simp
  refine Calls.mono (eqData_same h4 h6 D HL.out _ (HL5.out.below HS6.out (Nat.le_refl _)) HO6.out.lies) ?_
  rintro e w7 ⟨rfl, hb7⟩
  refine hK.out _ _ (HS6.out.trans (hb7.mono HS6.out.size)) ?_
  have HS7 := Lib.hid (HS6.out.trans (hb7.mono HS6.out.size))
  clear hK hb7
  try simp only [Act.put, List.setIfInBounds_toArray, List.set_cons_zero, List.set_cons_succ]
  refine hl_done (by kernel_rfl) ?_
  go_simp
  go_wp2
  go_ret
  exact ⟨rfl, (HB5.out.to HS7.out).bel⟩
theorem FnExactDataOK_came (cs : Array Value) (W : World) (h : Came Tryd.prog W 56 cs.toList) (ht : FbTab W) : Calls Tryd.prog 5 #[.agg cs] W fun e w' => e = .returned (.bool true) ∧ Below W.heap.size W w' := by
  obtain ⟨H, D, e, hz, hm⟩ := came_dat h
  rw [e]
  exact FnExactDataOK_walk H D hm W ht hz
end Go.Proofs.YtgiegppakoiaiaaDoor
