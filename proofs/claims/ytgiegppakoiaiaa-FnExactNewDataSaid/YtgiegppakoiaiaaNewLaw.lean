/- The exact law of NewData. (Written by tools/gen_newlaw.py.) -/
import Derived.Test.YtgiegppakoiaiaaNewD4
namespace Go.Proofs.Ytgiegppakoiaiaa
open Go.ChangeShapes Go.WideShapes Go.ChangeAt Go.RowKit
set_option linter.unusedVariables false
theorem own_rlt {w : World} {B size n c : Nat} {e : TypeId} {a : Option Addr} {xs : List Value} (h : w.ownsRow B e size (.slice a n c) n xs) : ∀ x, a = some x → x.block < w.heap.size := fun x e => (h.lt x.block (by rw [e]; rfl)).2
theorem own_rge {w : World} {B size n c : Nat} {e : TypeId} {a : Option Addr} {xs : List Value} (h : w.ownsRow B e size (.slice a n c) n xs) : ∀ x, a = some x → B ≤ x.block := fun x e => (h.lt x.block (by rw [e]; rfl)).1
theorem own_gr {w w' : World} {B size n c n' c' : Nat} {e : TypeId} {a b : Option Addr} {xs : List Value} (h : w.ownsRow B e size (.slice a n c) n xs) (hg : w.grownBy w' (Value.ownBlock (.slice b n' c'))) (hd : Dis a b) : w'.ownsRow B e size (.slice a n c) n xs := h.kept hg (hd.own _ _ _ _)
theorem dis_of {a b : Option Addr} {k : Nat} (h : ∀ x, a = some x → x.block < k) (g : ∀ x, b = some x → k ≤ x.block) : Dis a b := fun x y hx hy e => by have := h x hx; have := g y hy; omega
theorem dbox (w : World) (O : Obj) : Below w.heap.size w (w.alloc O) := (Below.refl w.heap.size w).alloc (Nat.le_refl _) O
theorem nd_le (ks : List Int) : (ndRd ks).le 1048576 := by
  unfold ndRd
  split
  · exact ⟨by decide, by decide, by decide, by decide, by decide, by decide⟩
  · split
    · rename_i h
      have := (kindsB_all h).1
      refine ⟨by simp [ndD, Dat.n0], ?_, by simp [ndD, Dat.n2], by simp [ndD, Dat.n3], by simp [ndD, Dat.n4], by simp [ndD, Dat.n5]⟩
      simp [ndD, Dat.n1]
      omega
    · exact ⟨by decide, by decide, by decide, by decide, by decide, by decide⟩
def TiPost (n : Nat) (xs : List Value) (w : World) (e : Ending) (w' : World) : Prop := ∃ g, e = .returned (.slice (some ⟨g, 0, none⟩) n n) ∧ w'.ownsRow w.heap.size 3 1 (.slice (some ⟨g, 0, none⟩) n n) n xs ∧ Below w.heap.size w w'
theorem toIntS_e (ks : List Int) (a : Option Addr) (c : Nat) (hn : ks.length ≤ 1048576) (w : World) (hz : Lies w a (kC ks)) : Calls Try.prog 5 #[.slice a ks.length c] w (TiPost ks.length (kC ks) w) :=
  (toIntS_any ks a c hn w hz).mono fun e w' ⟨h1, h2, h3⟩ => ⟨_, h1, h2, h3⟩
theorem down_gr {B : Nat} {H : DH} {D : Dat} {w w' : World} {b : Option Addr} {n c : Nat} (o : DOwn B H D w) (hg : w.grownBy w' (Value.ownBlock (.slice b n c))) (h0 : Dis H.a0 b) (h1 : Dis H.a1 b) (h2 : Dis H.a2 b) (h3 : Dis H.a3 b) (h4 : Dis H.a4 b) (h5 : Dis H.a5 b) : DOwn B H D w' :=
  ⟨own_gr o.gl hg h0, own_gr o.bl hg h1, own_gr o.la hg h2, own_gr o.pi hg h3, own_gr o.ou hg h4, own_gr o.wi hg h5, o.d01, o.d02, o.d03, o.d04, o.d05, o.d12, o.d13, o.d14, o.d15, o.d23, o.d24, o.d25, o.d34, o.d35, o.d45⟩
theorem down_lo {B k : Nat} {H : DH} {D : Dat} {w w' : World} {b : Option Addr} {n c : Nat} (o : DOwn B H D w) (hg : w.grownBy w' (Value.ownBlock (.slice b n c))) (hl : H.lt k) (hb : ∀ x, b = some x → k ≤ x.block) : DOwn B H D w' :=
  down_gr o hg (dis_of hl.k0 hb) (dis_of hl.k1 hb) (dis_of hl.k2 hb) (dis_of hl.k3 hb) (dis_of hl.k4 hb) (dis_of hl.k5 hb)
theorem down_hi {B k : Nat} {H : DH} {D : Dat} {w w' : World} {b : Option Addr} {n c : Nat} (o : DOwn B H D w) (hg : w.grownBy w' (Value.ownBlock (.slice b n c))) (hl : H.ge k) (hb : ∀ x, b = some x → x.block < k) : DOwn B H D w' :=
  down_gr o hg (dis_of hb hl.k0).symm (dis_of hb hl.k1).symm (dis_of hb hl.k2).symm (dis_of hb hl.k3).symm (dis_of hb hl.k4).symm (dis_of hb hl.k5).symm
theorem blk_gr {w w' : World} {b : Option Addr} {n c k : Nat} {O : Obj} (h : w.heap[k]? = some O) (hg : w.grownBy w' (Value.ownBlock (.slice b n c))) (hb : ∀ x, b = some x → x.block ≠ k) : w'.heap[k]? = some O :=
  (hg.block k (Array.getElem?_eq_some_iff.1 h).1 (fun e => by
    cases b with
    | none => cases e
    | some x => simp only [Value.ownBlock, Option.some.injEq] at e; exact hb x rfl e.symm)).trans h
theorem bel_gr {w X Y : World} {b : Option Addr} {n c : Nat} (h : Below w.heap.size w X) (hg : X.grownBy Y (Value.ownBlock (.slice b n c))) (hb : ∀ x, b = some x → w.heap.size ≤ x.block) : Below w.heap.size w Y :=
  h.grown hg h.size (fun g e => by
    cases b with
    | none => cases e
    | some x => simp only [Value.ownBlock, Option.some.injEq] at e; subst e; exact hb x rfl)
theorem blk_bel {w w' : World} {k : Nat} {O : Obj} (h : w.heap[k]? = some O) (hb : Below w.heap.size w w') : w'.heap[k]? = some O := (hb.block k (Array.getElem?_eq_some_iff.1 h).1).trans h
set_option maxRecDepth 100000 in
set_option maxHeartbeats 4000000 in
theorem FnExactNewData_walk (ks : List Int) (a : Option Addr) (c : Nat) (w : World) (hm : ks.length ≤ maxLen) (hz : Lies w a (kC ks)) :
    Calls Try.prog 3 #[.slice a ks.length c] w fun e w' => e = .returned (.bool true) ∧ Below w.heap.size w w' := by
  by_cases hbig : 1048576 < ks.length
  · unfold maxLen at hm
    clear hz
    generalize ks.length = n at *
    go_enter Try.func3, Try.ntmps3
    go_wp2
    go_ret
    exact ⟨rfl, Below.refl _ _⟩
  have HZ := Lib.hid hz
  have HLE := Lib.hid (nd_le ks)
  have HSUM := Lib.hid (sum_le (nd_le ks))
  have HT := Lib.hid (fun w hz => toIntS_e ks a c (by omega) w hz)
  have HS := Lib.hid (fun a c w hz => specNewData_any ks a c w hm hz)
  have HI := Lib.hid (fun a c w hz => newData_any ks a c w hm hz)
  have HQ := Lib.hid (fun a b c d w hz hy => eqIntS_same ks a b c d (by omega) w hz hy)
  have HMK := Lib.hid (fun B c a xs w ho => markIntS_own B ks.length c a xs 1 (by omega) (by omega) w ho)
  have hn : ks.length ≤ 1048576 := by omega
  clear hz hm hbig
  generalize ndRd ks = D at *
  generalize ndRc ks = y at *
  have hy : (y != y) = false := by simp
  generalize ks.length = n at *
  have HB := Lib.hid (Below.refl w.heap.size w)
  go_enter Try.func3, Try.ntmps3
  go_wp2_with fail
  refine Calls.mono (HT.out _ (HZ.out.below HB.out (Nat.le_refl _))) ?_
  rintro e w1 ⟨gw1, rfl, ho, hb⟩
  have HB := Lib.hid (HB.out.trans (hb.mono HB.out.size))
  have HR1 := Lib.hid (lies_own ho)
  clear ho hb
  go_wp2_with fail
  refine Calls.mono (HS.out _ _ _ HR1.out) ?_
  rintro e w2 ⟨H0, rfl, ho, hb⟩
  have HB := Lib.hid (HB.out.trans (hb.mono HB.out.size))
  have HBw2 := Lib.hid HB.out
  have HO0 := Lib.hid ho
  have HL0 := Lib.hid ho.hlt
  have HD := Lib.hid (dbox w2 (dO H0 D 26))
  clear ho hb
  have HB := Lib.hid (HB.out.trans (HD.out.mono HB.out.size))
  have HO0 := Lib.hid (HO0.out.bel HD.out)
  have HX0 := Lib.hid (heap_alloc_new w2 (dO H0 D 26))
  go_wp2_with fail
  refine Calls.mono (HT.out _ (HZ.out.below HB.out (Nat.le_refl _))) ?_
  rintro e w3 ⟨gw3, rfl, ho, hb⟩
  have HB := Lib.hid (HB.out.trans (hb.mono HB.out.size))
  have HO0 := Lib.hid (HO0.out.bel hb)
  have HX0 := Lib.hid (blk_bel HX0.out hb)
  have RX := Lib.hid ho
  have HD0 := Lib.hid (show w.heap.size ≤ w2.heap.size from HBw2.out.size)
  have HXge := Lib.hid (show w2.heap.size + 1 ≤ (w2.alloc (dO H0 D 26)).heap.size by simp)
  have HXr := Lib.hid (fun x e => Nat.le_trans HXge.out (own_rge ho x e))
  have HXl := Lib.hid (own_rlt ho)
  have H23 := Lib.hid (Nat.le_trans HXge.out hb.size)
  clear ho hb
  go_wp2_with fail
  refine Calls.mono (HI.out _ _ _ (lies_own RX.out)) ?_
  rintro e w4 ⟨H1, rfl, ho, hb⟩
  have HB := Lib.hid (HB.out.trans (hb.mono HB.out.size))
  have HO0 := Lib.hid (HO0.out.bel hb)
  have HX0 := Lib.hid (blk_bel HX0.out hb)
  have RX := Lib.hid (own_bl RX.out hb)
  have HO1 := Lib.hid ho
  have HG1 := Lib.hid ho.hge
  have HL1 := Lib.hid ho.hlt
  have H34 := Lib.hid hb.size
  have HD := Lib.hid (dbox w4 (dO H1 D 26))
  clear ho hb
  have q0 := cell_of_row w4 w2.heap.size 0 _ _ _ HX0.out
  have q1 := cell_of_row w4 w2.heap.size 1 _ _ _ HX0.out
  have q2 := cell_of_row w4 w2.heap.size 2 _ _ _ HX0.out
  have q3 := cell_of_row w4 w2.heap.size 3 _ _ _ HX0.out
  have q4 := cell_of_row w4 w2.heap.size 4 _ _ _ HX0.out
  have q5 := cell_of_row w4 w2.heap.size 5 _ _ _ HX0.out
  have q6 := cell_of_row w4 w2.heap.size 6 _ _ _ HX0.out
  have hlt := (Array.getElem?_eq_some_iff.1 HX0.out).1
  have HB := Lib.hid (HB.out.trans (HD.out.mono HB.out.size))
  have HO0 := Lib.hid (HO0.out.bel HD.out)
  have HX0 := Lib.hid (blk_bel HX0.out HD.out)
  have RX := Lib.hid (own_bl RX.out HD.out)
  have HO1 := Lib.hid (HO1.out.bel HD.out)
  have HX1 := Lib.hid (heap_alloc_new w4 (dO H1 D 26))
  go_wp2_with fail
  refine Calls.mono (eqData_same H1 H0 D HLE.out _ HO1.out.lies HO0.out.lies) ?_
  rintro e w5 ⟨rfl, hb⟩
  have HB := Lib.hid (HB.out.trans (hb.mono HB.out.size))
  have HO0 := Lib.hid (HO0.out.bel hb)
  have HX0 := Lib.hid (blk_bel HX0.out hb)
  have RX := Lib.hid (own_bl RX.out hb)
  have HO1 := Lib.hid (HO1.out.bel hb)
  have HX1 := Lib.hid (blk_bel HX1.out hb)
  clear hb hlt q0 q1 q2 q3 q4 q5 q6
  go_wp2_with fail
  refine Calls.mono (HT.out _ (HZ.out.below HB.out (Nat.le_refl _))) ?_
  rintro e w6 ⟨gw6, rfl, ho, hb⟩
  have HB := Lib.hid (HB.out.trans (hb.mono HB.out.size))
  have HO0 := Lib.hid (HO0.out.bel hb)
  have HX0 := Lib.hid (blk_bel HX0.out hb)
  have RX := Lib.hid (own_bl RX.out hb)
  have HO1 := Lib.hid (HO1.out.bel hb)
  have HX1 := Lib.hid (blk_bel HX1.out hb)
  have HR6 := Lib.hid (lies_own ho)
  clear ho hb
  go_wp2_with fail
  refine Calls.mono (HQ.out _ _ _ _ _ (lies_own RX.out) HR6.out) ?_
  rintro e w7 ⟨rfl, hb⟩
  have HB := Lib.hid (HB.out.trans (hb.mono HB.out.size))
  have HO0 := Lib.hid (HO0.out.bel hb)
  have HX0 := Lib.hid (blk_bel HX0.out hb)
  have RX := Lib.hid (own_bl RX.out hb)
  have HO1 := Lib.hid (HO1.out.bel hb)
  have HX1 := Lib.hid (blk_bel HX1.out hb)
  clear hb
  go_wp2_with fail
  refine Calls.mono (HMK.out _ _ _ _ _ RX.out) ?_
  rintro e w8 ⟨rfl, ho, hg⟩
  have HB := Lib.hid (bel_gr HB.out hg (fun x e => by have := HXr.out x e; have := HD0.out; omega))
  have HO0 := Lib.hid (down_lo (k := w2.heap.size) HO0.out hg HL0.out (fun x e => by have := HXr.out x e; have := HXge.out; omega))
  have HO1 := Lib.hid (down_hi (k := w3.heap.size) HO1.out hg HG1.out HXl.out)
  have HX0 := Lib.hid (blk_gr HX0.out hg (fun x e => by have := HXr.out x e; have := HXge.out; omega))
  have HX1 := Lib.hid (blk_gr HX1.out hg (fun x e => by have := HXl.out x e; have := H34.out; omega))
  clear ho hg
  have hk1 : ¬ ((1 : Int) + n < 0) := by omega
  have q0 := cell_of_row w8 w2.heap.size 0 _ _ _ HX0.out
  have q1 := cell_of_row w8 w2.heap.size 1 _ _ _ HX0.out
  have q2 := cell_of_row w8 w2.heap.size 2 _ _ _ HX0.out
  have q3 := cell_of_row w8 w2.heap.size 3 _ _ _ HX0.out
  have q4 := cell_of_row w8 w2.heap.size 4 _ _ _ HX0.out
  have q5 := cell_of_row w8 w2.heap.size 5 _ _ _ HX0.out
  have q6 := cell_of_row w8 w2.heap.size 6 _ _ _ HX0.out
  have p0 := cell_of_row w8 w4.heap.size 0 _ _ _ HX1.out
  have p1 := cell_of_row w8 w4.heap.size 1 _ _ _ HX1.out
  have p2 := cell_of_row w8 w4.heap.size 2 _ _ _ HX1.out
  have p3 := cell_of_row w8 w4.heap.size 3 _ _ _ HX1.out
  have p4 := cell_of_row w8 w4.heap.size 4 _ _ _ HX1.out
  have p5 := cell_of_row w8 w4.heap.size 5 _ _ _ HX1.out
  have p6 := cell_of_row w8 w4.heap.size 6 _ _ _ HX1.out
  go_wp2_with fail
  refine Calls.mono (eqData_same H1 H0 D HLE.out _ HO1.out.lies HO0.out.lies) ?_
  rintro e w9 ⟨rfl, hb⟩
  have HB := Lib.hid (HB.out.trans (hb.mono HB.out.size))
  have HO0 := Lib.hid (HO0.out.bel hb)
  have HX0 := Lib.hid (blk_bel HX0.out hb)
  have HO1 := Lib.hid (HO1.out.bel hb)
  have HX1 := Lib.hid (blk_bel HX1.out hb)
  clear hb q0 q1 q2 q3 q4 q5 q6 p0 p1 p2 p3 p4 p5 p6
  have p0 := cell_of_row w9 w4.heap.size 0 _ _ _ HX1.out
  have p1 := cell_of_row w9 w4.heap.size 1 _ _ _ HX1.out
  have p2 := cell_of_row w9 w4.heap.size 2 _ _ _ HX1.out
  have p3 := cell_of_row w9 w4.heap.size 3 _ _ _ HX1.out
  have p4 := cell_of_row w9 w4.heap.size 4 _ _ _ HX1.out
  have p5 := cell_of_row w9 w4.heap.size 5 _ _ _ HX1.out
  have p6 := cell_of_row w9 w4.heap.size 6 _ _ _ HX1.out
  go_wp2_with fail
  refine Calls.mono (markData_own w3.heap.size w4.heap.size H1 D 1 (by omega) HLE.out _ (Nat.le_trans H34.out (Nat.le_of_lt (Array.getElem?_eq_some_iff.1 HX1.out).1)) HO1.out HL1.out (Nat.le_of_lt (Array.getElem?_eq_some_iff.1 HX1.out).1)) ?_
  rintro e w10 ⟨rfl, ho, hmid, hb⟩
  have h23 := H23.out
  have hge := HXge.out
  have HB := Lib.hid (HB.out.trans (hb.mono (by have := HD0.out; omega)))
  have HO0 := Lib.hid (hmid.down HO0.out (.inl ⟨fun x e => by have := HL0.out.k0 x e; omega, fun x e => by have := HL0.out.k1 x e; omega, fun x e => by have := HL0.out.k2 x e; omega, fun x e => by have := HL0.out.k3 x e; omega, fun x e => by have := HL0.out.k4 x e; omega, fun x e => by have := HL0.out.k5 x e; omega⟩))
  have HX0 := Lib.hid (hmid.at HX0.out (.inl (by omega)))
  have HX1 := Lib.hid (hmid.at HX1.out (.inr (Nat.le_refl _)))
  have HM := Lib.hid ho.lies
  clear ho hmid hb h23 hge p0 p1 p2 p3 p4 p5 p6
  have hk2 : ¬ ((1 : Int) + D.sum < 0) := by have := HSUM.out; omega
  have hk3 : ((1 : Int) + D.sum != 1 + D.sum) = false := by simp
  have p0 := cell_of_row w10 w4.heap.size 0 _ _ _ HX1.out
  have p1 := cell_of_row w10 w4.heap.size 1 _ _ _ HX1.out
  have p2 := cell_of_row w10 w4.heap.size 2 _ _ _ HX1.out
  have p3 := cell_of_row w10 w4.heap.size 3 _ _ _ HX1.out
  have p4 := cell_of_row w10 w4.heap.size 4 _ _ _ HX1.out
  have p5 := cell_of_row w10 w4.heap.size 5 _ _ _ HX1.out
  have p6 := cell_of_row w10 w4.heap.size 6 _ _ _ HX1.out
  go_wp2_with fail
  refine Calls.mono (heldData_any H1 D 1 (by omega) HLE.out _ HM.out) ?_
  rintro e w11 ⟨rfl, hb⟩
  have HB := Lib.hid (HB.out.trans (hb.mono HB.out.size))
  have HO0 := Lib.hid (HO0.out.bel hb)
  have HX0 := Lib.hid (blk_bel HX0.out hb)
  have HX1 := Lib.hid (blk_bel HX1.out hb)
  have HM := Lib.hid (HM.out.below hb (Nat.le_refl _))
  clear hb p0 p1 p2 p3 p4 p5 p6
  go_wp2_with fail
  refine Calls.mono (HT.out _ (HZ.out.below HB.out (Nat.le_refl _))) ?_
  rintro e w12 ⟨gw12, rfl, ho, hb⟩
  have HB := Lib.hid (HB.out.trans (hb.mono HB.out.size))
  have HO0 := Lib.hid (HO0.out.bel hb)
  have HX0 := Lib.hid (blk_bel HX0.out hb)
  have HX1 := Lib.hid (blk_bel HX1.out hb)
  have HM := Lib.hid (HM.out.below hb (Nat.le_refl _))
  have HR12 := Lib.hid (lies_own ho)
  clear ho hb
  go_wp2_with fail
  refine Calls.mono (HI.out _ _ _ HR12.out) ?_
  rintro e w13 ⟨H2, rfl, ho, hb⟩
  have HB := Lib.hid (HB.out.trans (hb.mono HB.out.size))
  have HO0 := Lib.hid (HO0.out.bel hb)
  have HX0 := Lib.hid (blk_bel HX0.out hb)
  have HX1 := Lib.hid (blk_bel HX1.out hb)
  have HM := Lib.hid (HM.out.below hb (Nat.le_refl _))
  have HO2 := Lib.hid ho
  have HD := Lib.hid (dbox w13 (dO H2 D 26))
  clear ho hb
  have q0 := cell_of_row w13 w2.heap.size 0 _ _ _ HX0.out
  have q1 := cell_of_row w13 w2.heap.size 1 _ _ _ HX0.out
  have q2 := cell_of_row w13 w2.heap.size 2 _ _ _ HX0.out
  have q3 := cell_of_row w13 w2.heap.size 3 _ _ _ HX0.out
  have q4 := cell_of_row w13 w2.heap.size 4 _ _ _ HX0.out
  have q5 := cell_of_row w13 w2.heap.size 5 _ _ _ HX0.out
  have q6 := cell_of_row w13 w2.heap.size 6 _ _ _ HX0.out
  have hlt := (Array.getElem?_eq_some_iff.1 HX0.out).1
  have HB := Lib.hid (HB.out.trans (HD.out.mono HB.out.size))
  have HO0 := Lib.hid (HO0.out.bel HD.out)
  have HX0 := Lib.hid (blk_bel HX0.out HD.out)
  have HX1 := Lib.hid (blk_bel HX1.out HD.out)
  have HM := Lib.hid (HM.out.below HD.out (Nat.le_refl _))
  have HO2 := Lib.hid (HO2.out.bel HD.out)
  go_wp2_with fail
  refine Calls.mono (eqData_same H2 H0 D HLE.out _ HO2.out.lies HO0.out.lies) ?_
  rintro e w14 ⟨rfl, hb⟩
  have HB := Lib.hid (HB.out.trans (hb.mono HB.out.size))
  have HO0 := Lib.hid (HO0.out.bel hb)
  have HX0 := Lib.hid (blk_bel HX0.out hb)
  have HX1 := Lib.hid (blk_bel HX1.out hb)
  have HM := Lib.hid (HM.out.below hb (Nat.le_refl _))
  have HO2 := Lib.hid (HO2.out.bel hb)
  clear hb hlt q0 q1 q2 q3 q4 q5 q6
  have p0 := cell_of_row w14 w4.heap.size 0 _ _ _ HX1.out
  have p1 := cell_of_row w14 w4.heap.size 1 _ _ _ HX1.out
  have p2 := cell_of_row w14 w4.heap.size 2 _ _ _ HX1.out
  have p3 := cell_of_row w14 w4.heap.size 3 _ _ _ HX1.out
  have p4 := cell_of_row w14 w4.heap.size 4 _ _ _ HX1.out
  have p5 := cell_of_row w14 w4.heap.size 5 _ _ _ HX1.out
  have p6 := cell_of_row w14 w4.heap.size 6 _ _ _ HX1.out
  go_wp2_with fail
  refine Calls.mono (heldData_any H1 D 1 (by omega) HLE.out _ HM.out) ?_
  rintro e w15 ⟨rfl, hb⟩
  have HB := Lib.hid (HB.out.trans (hb.mono HB.out.size))
  have HO0 := Lib.hid (HO0.out.bel hb)
  have HX0 := Lib.hid (blk_bel HX0.out hb)
  have HX1 := Lib.hid (blk_bel HX1.out hb)
  have HM := Lib.hid (HM.out.below hb (Nat.le_refl _))
  have HO2 := Lib.hid (HO2.out.bel hb)
  clear hb p0 p1 p2 p3 p4 p5 p6
  go_wp2
  go_ret
  exact ⟨rfl, HB.out⟩
theorem FnExactNewData_came (a : Option Addr) (n c : Nat) (W : World) (h : Came Try.prog W 22 [.slice a n c]) : Calls Try.prog 3 #[.slice a n c] W fun e w' => e = .returned (.bool true) ∧ Below W.heap.size W w' := by
  obtain ⟨hm, _, ks, rfl, hz⟩ := came_ks h
  exact FnExactNewData_walk ks a c W hm hz
end Go.Proofs.Ytgiegppakoiaiaa
