/- The exact law of KindsOf. (Written by tools/gen_kindslaw.py.) -/
import Derived.Test.YtgiegppakoiaiaaDoorKinds
namespace Go.Proofs.YtgiegppakoiaiaaDoor
open Go.ChangeShapes Go.WideShapes Go.ChangeAt Go.RowKit
set_option linter.unusedVariables false
theorem Bx.mid {w X Y : World} {O : Obj} {lo hi : Nat} (h : Bx w O X) (m : Mid lo hi X Y) (hl : w.heap.size + 1 ≤ lo) (hx : lo ≤ X.heap.size) : Bx w O Y :=
  ⟨h.bel.trans ((m.below hx).mono (by omega)), m.at h.box (.inl (by omega))⟩
theorem own_rlt {w : World} {B size n c : Nat} {e : TypeId} {a : Option Addr} {xs : List Value} (h : w.ownsRow B e size (.slice a n c) n xs) : ∀ x, a = some x → x.block < w.heap.size := fun x e => (h.lt x.block (by rw [e]; rfl)).2
theorem own_rge {w : World} {B size n c : Nat} {e : TypeId} {a : Option Addr} {xs : List Value} (h : w.ownsRow B e size (.slice a n c) n xs) : ∀ x, a = some x → B ≤ x.block := fun x e => (h.lt x.block (by rw [e]; rfl)).1
theorem own_gr {w w' : World} {B size n c n' c' : Nat} {e : TypeId} {a b : Option Addr} {xs : List Value} (h : w.ownsRow B e size (.slice a n c) n xs) (hg : w.grownBy w' (Value.ownBlock (.slice b n' c'))) (hd : Dis a b) : w'.ownsRow B e size (.slice a n c) n xs := h.kept hg (hd.own _ _ _ _)
theorem dis_of {a b : Option Addr} {k : Nat} (h : ∀ x, a = some x → x.block < k) (g : ∀ x, b = some x → k ≤ x.block) : Dis a b := fun x y hx hy e => by have := h x hx; have := g y hy; omega
theorem Bx.grn {w X Y : World} {O : Obj} {b : Option Addr} {n c : Nat} (h : Bx w O X) (hg : X.grownBy Y (Value.ownBlock (.slice b n c))) (hr : ∀ x, b = some x → w.heap.size + 1 ≤ x.block) : Bx w O Y :=
  h.grow (Below.refl _ _) hg (fun g e => by
    cases b with
    | none => cases e
    | some x => simp only [Value.ownBlock, Option.some.injEq] at e; subst e; exact hr x rfl)
theorem kdR_le {D : Dat} {n : Nat} (h : D.n1 ≤ n) : (kdR D).length ≤ n := by
  unfold kdR
  split
  · rw [kindsF_len]; exact h
  · exact Nat.zero_le _
set_option maxRecDepth 100000 in
set_option maxHeartbeats 4000000 in
theorem FnExactKindsOf_walk (h : DH) (D : Dat) (hm : D.le maxLen) (w : World) (ht : FbTab w) (hz : DLies w h D) :
    Calls Tryd.prog 6 #[dV h D] w fun e w' => e = .returned (.bool true) ∧ Below w.heap.size w w' := by
  have HM := Lib.hid hm
  have HT := Lib.hid ht
  have HZ := Lib.hid hz
  have HB := Lib.hid (Bx.start w (dO h D 56))
  clear hm ht hz
  have hy : (kdC D != kdC D) = false := by simp
  go_enter Tryd.func6, Tryd.ntmps6
  go_wp2_with fail
  refine Calls.mono (szData_any h D HM.out 1048576 (by omega) _) ?_
  rintro e w1 ⟨hb1, r, rfl, hr⟩
  have HB := Lib.hid (HB.out.to hb1)
  clear hb1
  rcases hr with rfl | ⟨r0, r1, hle⟩
  · go_wp2
    go_ret
    exact ⟨rfl, HB.out.bel⟩
  have HL := Lib.hid hle
  have HN1 := Lib.hid hle.h1
  have HLN := Lib.hid (kdR_le hle.h1)
  have HSUM := Lib.hid (sum_le hle)
  clear hle
  have q0 := cell_of_row w1 w.heap.size 0 _ _ _ HB.out.box
  have q1 := cell_of_row w1 w.heap.size 1 _ _ _ HB.out.box
  have q2 := cell_of_row w1 w.heap.size 2 _ _ _ HB.out.box
  have q3 := cell_of_row w1 w.heap.size 3 _ _ _ HB.out.box
  have q4 := cell_of_row w1 w.heap.size 4 _ _ _ HB.out.box
  have q5 := cell_of_row w1 w.heap.size 5 _ _ _ HB.out.box
  have q6 := cell_of_row w1 w.heap.size 6 _ _ _ HB.out.box
  go_wp2_with fail
  refine Calls.mono (toData_any h D HL.out _ (HZ.out.below HB.out.bel (Nat.le_refl _))) ?_
  rintro e w2 ⟨hw2, rfl, ho, hb⟩
  have HB := Lib.hid (HB.out.to hb)
  have HO2 := Lib.hid ho
  clear ho hb q0 q1 q2 q3 q4 q5 q6
  go_wp2_with fail
  refine Calls.mono (specKindsOf_any hw2 D HM.out HN1.out _ HO2.out.lies) ?_
  rintro e w3 ⟨a3, c3, rfl, ho, hb⟩
  have HB := Lib.hid (HB.out.to hb)
  have RS := Lib.hid (ho)
  have HSlt := Lib.hid (own_rlt ho)
  have H3 := Lib.hid HB.out.lt
  clear ho hb
  have q0 := cell_of_row w3 w.heap.size 0 _ _ _ HB.out.box
  have q1 := cell_of_row w3 w.heap.size 1 _ _ _ HB.out.box
  have q2 := cell_of_row w3 w.heap.size 2 _ _ _ HB.out.box
  have q3 := cell_of_row w3 w.heap.size 3 _ _ _ HB.out.box
  have q4 := cell_of_row w3 w.heap.size 4 _ _ _ HB.out.box
  have q5 := cell_of_row w3 w.heap.size 5 _ _ _ HB.out.box
  have q6 := cell_of_row w3 w.heap.size 6 _ _ _ HB.out.box
  go_wp2_with fail
  refine Calls.mono (toData_any h D HL.out _ (HZ.out.below HB.out.bel (Nat.le_refl _))) ?_
  rintro e w4 ⟨hw4, rfl, ho, hb⟩
  have HB := Lib.hid (HB.out.to hb)
  have RS := Lib.hid (own_bl RS.out hb)
  have HO4 := Lib.hid ho
  have H34 := Lib.hid hb.size
  clear ho hb q0 q1 q2 q3 q4 q5 q6
  go_wp2_with fail
  have HD := Lib.hid (dbox w4 (dO hw4 D 27))
  have HX := Lib.hid (heap_alloc_new w4 (dO hw4 D 27))
  have HO := Lib.hid (HO4.out.bel HD.out)
  have HQ4 := Lib.hid HO4.out.hlt
  have HSZ := Lib.hid (show w4.heap.size + 1 ≤ (w4.alloc (dO hw4 D 27)).heap.size by simp)
  have HB := Lib.hid (HB.out.to HD.out)
  have RS := Lib.hid (own_bl RS.out HD.out)
  refine Calls.mono (kindsOf_any hw4 D HM.out HN1.out _ (HT.out.below HB.out.bel (Nat.le_refl _)) HO.out.lies) ?_
  rintro e w5 ⟨a5, c5, rfl, ho, hb⟩
  have HB := Lib.hid (HB.out.to hb)
  have RS := Lib.hid (own_bl RS.out hb)
  have HX := Lib.hid (blk_bel HX.out hb)
  have HO := Lib.hid (HO.out.bel hb)
  have RG := Lib.hid (own_base ho HSZ.out)
  have HGge := Lib.hid (own_rge RG.out)
  clear ho hb
  go_wp2_with fail
  refine Calls.mono (eqIntS_same (kdR D) a5 a3 c5 c3 HLN.out _ (lies_own RG.out) (lies_own RS.out)) ?_
  rintro e w6 ⟨rfl, hb⟩
  have HB := Lib.hid (HB.out.to hb)
  have RS := Lib.hid (own_bl RS.out hb)
  have HX := Lib.hid (blk_bel HX.out hb)
  have HO := Lib.hid (HO.out.bel hb)
  have RG := Lib.hid (own_bl RG.out hb)
  clear hb
  have HSW : Hid (Below w6.heap.size w6 w6.drew) := Lib.hid (Below.refl _ _).drew
  have HBd := Lib.hid (HB.out.to HSW.out)
  go_wp2_with fail
  refine wp_region_hl 4 (fun X => Below w6.heap.size w6 X) (by kernel_rfl) rfl rfl (by kernel_rfl) ?_
  refine hl_take (v := ?v0) 0 rfl (by kernel_rfl) (fun _ _ _ h => h) (Or.inl ⟨by rfl, ?hy0⟩) HSW.out ?rest0
  case hy0 =>
    intro X hSw
    have hk := blk_bel HX.out hSw
    have q0 := cell_of_row X _ 0 _ _ _ hk
    have q1 := cell_of_row X _ 1 _ _ _ hk
    have q2 := cell_of_row X _ 2 _ _ _ hk
    have q3 := cell_of_row X _ 3 _ _ _ hk
    have q4 := cell_of_row X _ 4 _ _ _ hk
    have q5 := cell_of_row X _ 5 _ _ _ hk
    have q6 := cell_of_row X _ 6 _ _ _ hk
    clear hk
    go_simp <;> with_reducible rfl
  try simp only [Act.put, List.setIfInBounds_toArray, List.set_cons_zero, List.set_cons_succ]
  refine hl_take (v := ?v1) 1 rfl (by kernel_rfl) (fun _ _ _ h => h) (Or.inl ⟨by rfl, ?hy1⟩) HSW.out ?rest1
  case hy1 =>
    intro X hSw
    have hk := blk_bel HB.out.box hSw
    have q0 := cell_of_row X _ 0 _ _ _ hk
    have q1 := cell_of_row X _ 1 _ _ _ hk
    have q2 := cell_of_row X _ 2 _ _ _ hk
    have q3 := cell_of_row X _ 3 _ _ _ hk
    have q4 := cell_of_row X _ 4 _ _ _ hk
    have q5 := cell_of_row X _ 5 _ _ _ hk
    have q6 := cell_of_row X _ 6 _ _ _ hk
    clear hk
    go_simp <;> with_reducible rfl
  try simp only [Act.put, List.setIfInBounds_toArray, List.set_cons_zero, List.set_cons_succ]
  refine hl_one 2 rfl (by kernel_rfl) (fun K hK => ?_)
  go_simp
  refine Calls.mono (toData_any h D HL.out _ (HZ.out.below HBd.out.bel (Nat.le_refl _))) ?_
  rintro e w7 ⟨h7, rfl, ho7, hb7⟩
  refine hK.out _ _ (HSW.out.trans hb7) ?_
  have HS7 := Lib.hid (HSW.out.trans hb7)
  have HO7 := Lib.hid ho7
  clear hK hb7 ho7
  try simp only [Act.put, List.setIfInBounds_toArray, List.set_cons_zero, List.set_cons_succ]
  refine hl_one 3 rfl (by kernel_rfl) (fun K hK => ?_)
  go_simp
  refine Calls.mono (eqData_same hw4 h7 D HL.out _ (HO.out.lies.below HS7.out (Nat.le_refl _)) HO7.out.lies) ?_
  rintro e w8 ⟨rfl, hb8⟩
  refine hK.out _ _ (HS7.out.trans (hb8.mono HS7.out.size)) ?_
  have HS8 := Lib.hid (HS7.out.trans (hb8.mono HS7.out.size))
  clear hK hb8
  try simp only [Act.put, List.setIfInBounds_toArray, List.set_cons_zero, List.set_cons_succ]
  refine hl_done (by kernel_rfl) ?_
  go_simp
  have HB := Lib.hid (HB.out.to HS8.out)
  have RS := Lib.hid (own_bl RS.out HS8.out)
  have HX := Lib.hid (blk_bel HX.out HS8.out)
  have HO := Lib.hid (HO.out.bel HS8.out)
  have RG := Lib.hid (own_bl RG.out HS8.out)
  have q0 := cell_of_row w8 w4.heap.size 0 _ _ _ HX.out
  have q1 := cell_of_row w8 w4.heap.size 1 _ _ _ HX.out
  have q2 := cell_of_row w8 w4.heap.size 2 _ _ _ HX.out
  have q3 := cell_of_row w8 w4.heap.size 3 _ _ _ HX.out
  have q4 := cell_of_row w8 w4.heap.size 4 _ _ _ HX.out
  have q5 := cell_of_row w8 w4.heap.size 5 _ _ _ HX.out
  have q6 := cell_of_row w8 w4.heap.size 6 _ _ _ HX.out
  have hs8 := HB.out.lt
  go_wp2_with fail
  refine Calls.mono (markData_own w3.heap.size w4.heap.size hw4 D 1 (by omega) HL.out _ (Nat.le_trans H34.out (Nat.le_of_lt (Array.getElem?_eq_some_iff.1 HX.out).1)) HO.out HQ4.out (Nat.le_of_lt (Array.getElem?_eq_some_iff.1 HX.out).1)) ?_
  rintro e w9 ⟨rfl, ho, hmid, hb⟩
  have HB := Lib.hid (HB.out.mid hmid H3.out (Nat.le_trans H34.out (Nat.le_of_lt (Array.getElem?_eq_some_iff.1 HX.out).1)))
  have RS := Lib.hid (hmid.own RS.out (fun x e => .inl (HSlt.out x e)))
  have RG := Lib.hid (hmid.own RG.out (fun x e => .inr (by have := HGge.out x e; omega)))
  clear ho hmid hb q0 q1 q2 q3 q4 q5 q6
  have hk1 : ¬ ((1 : Int) + D.sum < 0) := by have := HSUM.out; omega
  go_wp2_with fail
  refine Calls.mono (eqIntS_same (kdR D) a5 a3 c5 c3 HLN.out _ (lies_own RG.out) (lies_own RS.out)) ?_
  rintro e w10 ⟨rfl, hb⟩
  have HB := Lib.hid (HB.out.to hb)
  have RS := Lib.hid (own_bl RS.out hb)
  have RG := Lib.hid (own_bl RG.out hb)
  clear hb
  go_wp2_with fail
  refine Calls.mono (markIntS_own _ (kdR D).length c5 a5 _ 1 (by omega) HLN.out _ RG.out) ?_
  rintro e w11 ⟨rfl, ho, hg⟩
  have HB := Lib.hid (HB.out.grn hg (fun x e => by have := HGge.out x e; have := H3.out; have := H34.out; omega))
  have RS := Lib.hid (own_gr RS.out hg (dis_of (k := w3.heap.size) HSlt.out (fun x e => by have := HGge.out x e; have := H34.out; omega)))
  have RM := Lib.hid ho
  clear ho hg
  have hk2 : ¬ ((1 : Int) + (kdR D).length < 0) := by omega
  have hk3 : ((1 : Int) + (kdR D).length != 1 + (kdR D).length) = false := by simp
  go_wp2_with fail
  refine Calls.mono (heldIntS_any _ c5 a5 1 (by omega) HLN.out _ (lies_own RM.out)) ?_
  rintro e w' ⟨rfl, rfl⟩
  have q0 := cell_of_row w11 w.heap.size 0 _ _ _ HB.out.box
  have q1 := cell_of_row w11 w.heap.size 1 _ _ _ HB.out.box
  have q2 := cell_of_row w11 w.heap.size 2 _ _ _ HB.out.box
  have q3 := cell_of_row w11 w.heap.size 3 _ _ _ HB.out.box
  have q4 := cell_of_row w11 w.heap.size 4 _ _ _ HB.out.box
  have q5 := cell_of_row w11 w.heap.size 5 _ _ _ HB.out.box
  have q6 := cell_of_row w11 w.heap.size 6 _ _ _ HB.out.box
  go_wp2_with fail
  refine Calls.mono (toData_any h D HL.out _ (HZ.out.below HB.out.bel (Nat.le_refl _))) ?_
  rintro e w12 ⟨hw12, rfl, ho, hb⟩
  have HB := Lib.hid (HB.out.to hb)
  have RS := Lib.hid (own_bl RS.out hb)
  have RM := Lib.hid (own_bl RM.out hb)
  have HO12 := Lib.hid ho
  clear ho hb q0 q1 q2 q3 q4 q5 q6
  go_wp2_with fail
  refine Calls.mono (kindsOf_any hw12 D HM.out HN1.out _ (HT.out.below HB.out.bel (Nat.le_refl _)) HO12.out.lies) ?_
  rintro e w13 ⟨a13, c13, rfl, ho, hb⟩
  have HB := Lib.hid (HB.out.to hb)
  have RS := Lib.hid (own_bl RS.out hb)
  have RM := Lib.hid (own_bl RM.out hb)
  have RH := Lib.hid (ho)
  clear ho hb
  go_wp2_with fail
  refine Calls.mono (eqIntS_same (kdR D) a13 a3 c13 c3 HLN.out _ (lies_own RH.out) (lies_own RS.out)) ?_
  rintro e w14 ⟨rfl, hb⟩
  have HB := Lib.hid (HB.out.to hb)
  have RS := Lib.hid (own_bl RS.out hb)
  have RM := Lib.hid (own_bl RM.out hb)
  have RH := Lib.hid (own_bl RH.out hb)
  clear hb
  go_wp2_with fail
  refine Calls.mono (heldIntS_any _ c5 a5 1 (by omega) HLN.out _ (lies_own RM.out)) ?_
  rintro e w' ⟨rfl, rfl⟩
  go_wp2
  go_ret
  exact ⟨rfl, HB.out.bel⟩
theorem FnExactKindsOf_came (cs : Array Value) (W : World) (h : Came Tryd.prog W 56 cs.toList) (ht : FbTab W) : Calls Tryd.prog 6 #[.agg cs] W fun e w' => e = .returned (.bool true) ∧ Below W.heap.size W w' := by
  obtain ⟨H, D, e, hz, hm⟩ := came_dat h
  rw [e]
  exact FnExactKindsOf_walk H D hm W ht hz
end Go.Proofs.YtgiegppakoiaiaaDoor
