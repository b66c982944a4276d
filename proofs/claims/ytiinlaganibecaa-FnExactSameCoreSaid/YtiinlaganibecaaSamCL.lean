/- The exact law of SameCore.  -/
import Derived.Test.YtiinlaganibecaaSamC
import Derived.Test.YtiinlaganibecaaHeld
namespace Go.Proofs.Ytiinlaganibecaa
open Go.ChangeShapes Go.WideShapes Go.ChangeAt Go.RowKit
set_option linter.unusedVariables false
set_option maxRecDepth 100000 in
set_option maxHeartbeats 4000000 in
theorem FnExactSameCore_walk (h g : CH) (A B : Cor) (hA : A.le maxLen) (hB : B.le maxLen) (w : World) (hz : CLies w h A) (hy : CLies w g B) :
    Calls Try.prog 3 #[cV h A, cV g B] w fun e w' => e = .returned (.bool true) ∧ Below w.heap.size w w' := by
  have HA := Lib.hid hA
  have HBm := Lib.hid hB
  have HZ := Lib.hid hz
  have HY := Lib.hid hy
  have HB := Lib.hid (Bx2.start w (cO h A 25) (cO g B 25))
  clear hA hB hz hy
  have hyy : (sameCB A B != sameCB A B) = false := by simp
  go_enter Try.func3, Try.ntmps3
  go_wp2_with fail
  refine Calls.mono (szCore_any h A 1048576 (by omega) HA.out _ (HZ.out.below HB.out.bel (Nat.le_refl _))) ?_
  rintro e w1 ⟨r, rfl, hb1, hr⟩
  have HB := Lib.hid (HB.out.to hb1)
  clear hb1
  rcases hr with rfl | ⟨r0, r1, hle⟩
  · go_wp2
    go_ret
    exact ⟨rfl, HB.out.bel⟩
  have HLA := Lib.hid (cor_le hle)
  clear hle
  have q0 := cell_of_row w1 (w.heap.size + 1) 0 _ _ _ HB.out.box2
  have q1 := cell_of_row w1 (w.heap.size + 1) 1 _ _ _ HB.out.box2
  go_wp2_with fail
  refine Calls.mono (szCore_any g B r ⟨r0, r1⟩ HBm.out _ (HY.out.below HB.out.bel (Nat.le_refl _))) ?_
  rintro e w2 ⟨r', rfl, hb1, hr⟩
  have HB := Lib.hid (HB.out.to hb1)
  clear hb1 q0 q1
  rcases hr with rfl | ⟨r0', r1', hle⟩
  · go_wp2
    go_ret
    exact ⟨rfl, HB.out.bel⟩
  have HLB := Lib.hid (cor_le hle)
  clear hle
  have HSW : Hid (Below w2.heap.size w2 w2.drew) := Lib.hid (Below.refl _ _).drew
  have HBd := Lib.hid (HB.out.to HSW.out)
  go_wp2_with fail
  refine wp_region_hl 5 (fun X => Below w2.heap.size w2 X) (by kernel_rfl) rfl rfl (by kernel_rfl) ?_
  refine hl_take (v := ?v0) 0 rfl (by kernel_rfl) (fun _ _ _ h => h) (Or.inl ⟨by rfl, ?hy0⟩) HSW.out ?rest0
  case hy0 =>
    intro X hSw
    have hk := blk_bel HB.out.box hSw
    have q0 := cell_of_row X _ 0 _ _ _ hk
    have q1 := cell_of_row X _ 1 _ _ _ hk
    clear hk
    go_simp <;> with_reducible rfl
  try simp only [Act.put, List.setIfInBounds_toArray, List.set_cons_zero, List.set_cons_succ]
  refine hl_take (v := ?v2) 2 rfl (by kernel_rfl) (fun _ _ _ h => h) (Or.inl ⟨by rfl, ?hy2⟩) HSW.out ?rest2
  case hy2 =>
    intro X hSw
    have hk := blk_bel HB.out.box2 hSw
    have q0 := cell_of_row X _ 0 _ _ _ hk
    have q1 := cell_of_row X _ 1 _ _ _ hk
    clear hk
    go_simp <;> with_reducible rfl
  try simp only [Act.put, List.setIfInBounds_toArray, List.set_cons_zero, List.set_cons_succ]
  refine hl_one 1 rfl (by kernel_rfl) (fun K hK => ?_)
  go_simp
  refine Calls.mono (toCore_any h A HLA.out _ (HZ.out.below HBd.out.bel (Nat.le_refl _))) ?_
  rintro e w3 ⟨h3, rfl, ho3, hb3⟩
  refine hK.out _ _ (HSW.out.trans hb3) ?_
  have HS3 := Lib.hid (HSW.out.trans hb3)
  have HO3 := Lib.hid ho3
  clear hK hb3 ho3
  try simp only [Act.put, List.setIfInBounds_toArray, List.set_cons_zero, List.set_cons_succ]
  refine hl_one 3 rfl (by kernel_rfl) (fun K hK => ?_)
  go_simp
  refine Calls.mono (toCore_any g B HLB.out _ (HY.out.below (HB.out.to HS3.out).bel (Nat.le_refl _))) ?_
  rintro e w4 ⟨h4, rfl, ho4, hb4⟩
  refine hK.out _ _ (HS3.out.trans (hb4.mono HS3.out.size)) ?_
  have HS4 := Lib.hid (HS3.out.trans (hb4.mono HS3.out.size))
  have HO3 := Lib.hid (HO3.out.bel hb4)
  have HO4 := Lib.hid ho4
  clear hK hb4 ho4
  try simp only [Act.put, List.setIfInBounds_toArray, List.set_cons_zero, List.set_cons_succ]
  refine hl_one 4 rfl (by kernel_rfl) (fun K hK => ?_)
  go_simp
  refine Calls.mono (specSameCore_any h3 h4 A B HA.out HBm.out _ HO3.out.lies HO4.out.lies) ?_
  rintro e w5 ⟨rfl, hb5⟩
  refine hK.out _ _ (HS4.out.trans (hb5.mono HS4.out.size)) ?_
  have HS5 := Lib.hid (HS4.out.trans (hb5.mono HS4.out.size))
  clear hK hb5
  try simp only [Act.put, List.setIfInBounds_toArray, List.set_cons_zero, List.set_cons_succ]
  refine hl_done (by kernel_rfl) ?_
  go_simp
  have HB := Lib.hid (HB.out.to HS5.out)
  have q0 := cell_of_row w5 w.heap.size 0 _ _ _ HB.out.box
  have q1 := cell_of_row w5 w.heap.size 1 _ _ _ HB.out.box
  go_wp2_with fail
  refine Calls.mono (toCore_any h A HLA.out _ (HZ.out.below HB.out.bel (Nat.le_refl _))) ?_
  rintro e w6 ⟨h6, rfl, ho, hb⟩
  have HB := Lib.hid (HB.out.to hb)
  have HO6 := Lib.hid ho
  clear ho hb q0 q1
  have q0 := cell_of_row w6 (w.heap.size + 1) 0 _ _ _ HB.out.box2
  have q1 := cell_of_row w6 (w.heap.size + 1) 1 _ _ _ HB.out.box2
  have hlt := (Array.getElem?_eq_some_iff.1 HB.out.box2).1
  have HD := Lib.hid (dbox w6 (cO h6 A 30))
  have HB := Lib.hid (HB.out.to HD.out)
  have HO6 := Lib.hid (HO6.out.bel HD.out)
  have HX6 := Lib.hid (heap_alloc_new w6 (cO h6 A 30))
  go_wp2_with fail
  refine Calls.mono (toCore_any g B HLB.out _ (HY.out.below HB.out.bel (Nat.le_refl _))) ?_
  rintro e w7 ⟨h7, rfl, ho, hb⟩
  have HB := Lib.hid (HB.out.to hb)
  have HO6 := Lib.hid (HO6.out.bel hb)
  have HX6 := Lib.hid (blk_bel HX6.out hb)
  have HO7 := Lib.hid ho
  clear ho hb hlt q0 q1
  have q0 := cell_of_row w7 w6.heap.size 0 _ _ _ HX6.out
  have q1 := cell_of_row w7 w6.heap.size 1 _ _ _ HX6.out
  have hlt := (Array.getElem?_eq_some_iff.1 HX6.out).1
  have HD := Lib.hid (dbox w7 (cO h7 B 30))
  have HB := Lib.hid (HB.out.to HD.out)
  have HO6 := Lib.hid (HO6.out.bel HD.out)
  have HX6 := Lib.hid (blk_bel HX6.out HD.out)
  have HO7 := Lib.hid (HO7.out.bel HD.out)
  have HX7 := Lib.hid (heap_alloc_new w7 (cO h7 B 30))
  go_wp2_with fail
  refine Calls.mono (sameCore_any h6 h7 A B HA.out HBm.out _ HO6.out.lies HO7.out.lies) ?_
  rintro e w8 ⟨rfl, hb⟩
  have HB := Lib.hid (HB.out.to hb)
  have HO6 := Lib.hid (HO6.out.bel hb)
  have HX6 := Lib.hid (blk_bel HX6.out hb)
  have HO7 := Lib.hid (HO7.out.bel hb)
  have HX7 := Lib.hid (blk_bel HX7.out hb)
  clear hb hlt q0 q1
  have HSW : Hid (Below w8.heap.size w8 w8.drew) := Lib.hid (Below.refl _ _).drew
  have HBd := Lib.hid (HB.out.to HSW.out)
  go_wp2_with fail
  refine wp_region_hl 4 (fun X => Below w8.heap.size w8 X) (by kernel_rfl) rfl rfl (by kernel_rfl) ?_
  refine hl_take (v := ?va9) 0 rfl (by kernel_rfl) (fun _ _ _ h => h) (Or.inl ⟨by rfl, ?hya9⟩) HSW.out ?ra9
  case hya9 =>
    intro X hSw
    have hk := blk_bel HX6.out hSw
    have q0 := cell_of_row X _ 0 _ _ _ hk
    have q1 := cell_of_row X _ 1 _ _ _ hk
    clear hk
    go_simp <;> with_reducible rfl
  try simp only [Act.put, List.setIfInBounds_toArray, List.set_cons_zero, List.set_cons_succ]
  refine hl_take (v := ?vb9) 1 rfl (by kernel_rfl) (fun _ _ _ h => h) (Or.inl ⟨by rfl, ?hyb9⟩) HSW.out ?rb9
  case hyb9 =>
    intro X hSw
    have hk := blk_bel HB.out.box hSw
    have q0 := cell_of_row X _ 0 _ _ _ hk
    have q1 := cell_of_row X _ 1 _ _ _ hk
    clear hk
    go_simp <;> with_reducible rfl
  try simp only [Act.put, List.setIfInBounds_toArray, List.set_cons_zero, List.set_cons_succ]
  refine hl_one 2 rfl (by kernel_rfl) (fun K hK => ?_)
  go_simp
  refine Calls.mono (toCore_any h A HLA.out _ (HZ.out.below HBd.out.bel (Nat.le_refl _))) ?_
  rintro e w9 ⟨h9, rfl, ho, hb⟩
  refine hK.out _ _ (HSW.out.trans hb) ?_
  have HS := Lib.hid (HSW.out.trans hb)
  have HO9 := Lib.hid ho
  clear hK hb ho
  try simp only [Act.put, List.setIfInBounds_toArray, List.set_cons_zero, List.set_cons_succ]
  refine hl_one 3 rfl (by kernel_rfl) (fun K hK => ?_)
  go_simp
  refine Calls.mono (eqCore_same h6 h9 A HLA.out _ (HO6.out.lies.below HS.out (Nat.le_refl _)) HO9.out.lies) ?_
  rintro e w10 ⟨rfl, hb⟩
  refine hK.out _ _ (HS.out.trans (hb.mono HS.out.size)) ?_
  have HS := Lib.hid (HS.out.trans (hb.mono HS.out.size))
  clear hK hb
  try simp only [Act.put, List.setIfInBounds_toArray, List.set_cons_zero, List.set_cons_succ]
  refine hl_done (by kernel_rfl) ?_
  go_simp
  have HB := Lib.hid (HB.out.to HS.out)
  have HO6 := Lib.hid (HO6.out.bel HS.out)
  have HX6 := Lib.hid (blk_bel HX6.out HS.out)
  have HO7 := Lib.hid (HO7.out.bel HS.out)
  have HX7 := Lib.hid (blk_bel HX7.out HS.out)
  have HSW : Hid (Below w10.heap.size w10 w10.drew) := Lib.hid (Below.refl _ _).drew
  have HBd := Lib.hid (HB.out.to HSW.out)
  go_wp2_with fail
  refine wp_region_hl 4 (fun X => Below w10.heap.size w10 X) (by kernel_rfl) rfl rfl (by kernel_rfl) ?_
  refine hl_take (v := ?va11) 0 rfl (by kernel_rfl) (fun _ _ _ h => h) (Or.inl ⟨by rfl, ?hya11⟩) HSW.out ?ra11
  case hya11 =>
    intro X hSw
    have hk := blk_bel HX7.out hSw
    have q0 := cell_of_row X _ 0 _ _ _ hk
    have q1 := cell_of_row X _ 1 _ _ _ hk
    clear hk
    go_simp <;> with_reducible rfl
  try simp only [Act.put, List.setIfInBounds_toArray, List.set_cons_zero, List.set_cons_succ]
  refine hl_take (v := ?vb11) 1 rfl (by kernel_rfl) (fun _ _ _ h => h) (Or.inl ⟨by rfl, ?hyb11⟩) HSW.out ?rb11
  case hyb11 =>
    intro X hSw
    have hk := blk_bel HB.out.box2 hSw
    have q0 := cell_of_row X _ 0 _ _ _ hk
    have q1 := cell_of_row X _ 1 _ _ _ hk
    clear hk
    go_simp <;> with_reducible rfl
  try simp only [Act.put, List.setIfInBounds_toArray, List.set_cons_zero, List.set_cons_succ]
  refine hl_one 2 rfl (by kernel_rfl) (fun K hK => ?_)
  go_simp
  refine Calls.mono (toCore_any g B HLB.out _ (HY.out.below HBd.out.bel (Nat.le_refl _))) ?_
  rintro e w11 ⟨h11, rfl, ho, hb⟩
  refine hK.out _ _ (HSW.out.trans hb) ?_
  have HS := Lib.hid (HSW.out.trans hb)
  have HO11 := Lib.hid ho
  clear hK hb ho
  try simp only [Act.put, List.setIfInBounds_toArray, List.set_cons_zero, List.set_cons_succ]
  refine hl_one 3 rfl (by kernel_rfl) (fun K hK => ?_)
  go_simp
  refine Calls.mono (eqCore_same h7 h11 B HLB.out _ (HO7.out.lies.below HS.out (Nat.le_refl _)) HO11.out.lies) ?_
  rintro e w12 ⟨rfl, hb⟩
  refine hK.out _ _ (HS.out.trans (hb.mono HS.out.size)) ?_
  have HS := Lib.hid (HS.out.trans (hb.mono HS.out.size))
  clear hK hb
  try simp only [Act.put, List.setIfInBounds_toArray, List.set_cons_zero, List.set_cons_succ]
  refine hl_done (by kernel_rfl) ?_
  go_simp
  have HB := Lib.hid (HB.out.to HS.out)
  have HO6 := Lib.hid (HO6.out.bel HS.out)
  have HX6 := Lib.hid (blk_bel HX6.out HS.out)
  have HO7 := Lib.hid (HO7.out.bel HS.out)
  have HX7 := Lib.hid (blk_bel HX7.out HS.out)
  go_wp2
  go_ret
  exact ⟨rfl, HB.out.bel⟩
theorem FnExactSameCore_came (cs ds : Array Value) (W : World) (h : Came Try.prog W 25 cs.toList) (h' : Came Try.prog W 25 ds.toList) : Calls Try.prog 3 #[.agg cs, .agg ds] W fun e w' => e = .returned (.bool true) ∧ Below W.heap.size W w' := by
  obtain ⟨H, D, e, hz, hm⟩ := came_cor h
  obtain ⟨H', D', e', hz', hm'⟩ := came_cor h'
  rw [e, e']
  exact FnExactSameCore_walk H H' D D' hm hm' W hz hz'
end Go.Proofs.Ytiinlaganibecaa
