/- The laws BalanceOf, NewSource. (Written by tools/gen_evl.py.) -/
import Derived.Test.YtgbnoaclklbjbaaEvL
import Derived.Test.YtgbnoaclklbjbaaPhj
namespace Go.Proofs.Ytgbnoaclklbjbaa
open Go.ChangeShapes Go.WideShapes Go.ChangeAt Go.RowKit
set_option linter.unusedVariables false
set_option maxRecDepth 100000 in
set_option maxHeartbeats 1000000 in
theorem FnExactBalanceOf_walk (l a d t s p : Int) (q : List Int) (zk zp zd zi zq zr : Int) (b : Option Addr) (c : Nat) (hm : q.length ≤ maxLen) (w : World) (hz : Lies w b (kC q)) :
    Calls Try.prog 9 #[.agg #[.int .i64 l, .int .i64 a, .int .i64 d, .int .i64 t, .int .i64 s, .int .i64 p, .slice b q.length c], .agg #[.int .i64 zk, .int .i64 zp, .int .i64 zd, .int .i64 zi, .int .i64 zq, .int .i64 zr]] w fun e w' => e = .returned (.bool true) ∧ Below w.heap.size w w' := by
  have HX := Lib.hid (Bx2.start w (.cells #[.int .i64 l, .int .i64 a, .int .i64 d, .int .i64 t, .int .i64 s, .int .i64 p, .slice b q.length c] 29) (.cells #[.int .i64 zk, .int .i64 zp, .int .i64 zd, .int .i64 zi, .int .i64 zq, .int .i64 zr] 31))
  have HZ := Lib.hid hz
  have HSZ := Lib.hid (fun X => szSource_any ⟨l, a, d, t, s, p, q⟩ b c hm X)
  have HSZ : Hid (∀ X, Calls Try.prog 17 #[.agg #[.int .i64 l, .int .i64 a, .int .i64 d, .int .i64 t, .int .i64 s, .int .i64 p, .slice b q.length c], .int .i64 1048576] X fun e w' => Below X.heap.size X w' ∧ ∃ r : Int, e = .returned (.int .i64 r) ∧ (r = -1 ∨ (0 ≤ r ∧ q.length ≤ 1048576))) := HSZ
  have HS := Lib.hid (fun b c w hz => specBalanceOf_any ⟨l, a, d, t, s, p, q⟩ ⟨zk, zp, zd, zi, zq, zr⟩ b c hm w hz)
  have HI := Lib.hid (fun b c w hz => implBalanceOf_any ⟨l, a, d, t, s, p, q⟩ ⟨zk, zp, zd, zi, zq, zr⟩ b c hm w hz)
  generalize balF ⟨l, a, d, t, s, p, q⟩ ⟨zk, zp, zd, zi, zq, zr⟩ = R at *
  obtain ⟨k1, k2⟩ := R
  have n1 : (k1 != k1) = false := by simp
  have n2 : (k2 != k2) = false := by simp
  clear hz
  go_enter Try.func9, Try.ntmps9
  go_upto_region 2 with (fail)
  generalize (w.alloc (.cells #[.int .i64 l, .int .i64 a, .int .i64 d, .int .i64 t, .int .i64 s, .int .i64 p, .slice b q.length c] 29)).alloc (.cells #[.int .i64 zk, .int .i64 zp, .int .i64 zd, .int .i64 zi, .int .i64 zq, .int .i64 zr] 31) = W0 at *
  have c0 := cell_of_row W0 w.heap.size 0 _ _ _ HX.out.box
  have c1 := cell_of_row W0 w.heap.size 1 _ _ _ HX.out.box
  have c2 := cell_of_row W0 w.heap.size 2 _ _ _ HX.out.box
  have c3 := cell_of_row W0 w.heap.size 3 _ _ _ HX.out.box
  have c4 := cell_of_row W0 w.heap.size 4 _ _ _ HX.out.box
  have c5 := cell_of_row W0 w.heap.size 5 _ _ _ HX.out.box
  have c6 := cell_of_row W0 w.heap.size 6 _ _ _ HX.out.box
  go_wp2_with fail
  refine Calls.mono (HSZ.out _) ?_
  rintro e w1 ⟨hb, r, rfl, hr⟩
  have HX := Lib.hid (HX.out.to hb)
  clear hb HSZ c0 c1 c2 c3 c4 c5 c6
  by_cases hr0 : r < 0
  · clear hr
    go_wp2
    go_ret
    exact ⟨rfl, HX.out.bel⟩
  have hn : q.length ≤ 1048576 := by omega
  have HTS := Lib.hid (fun b c w hz => toS_ph l a d t s p q b c hn w hz)
  have HTT := Lib.hid (fun w => toT_ph zk zp zd zi zq zr w)
  have HEQ := Lib.hid (fun b b' c c' w hz hy => eqS_ph l a d t s p q b b' c c' hn w hz hy)
  clear hr
  go_upto_region 5 with (fail)
  go_cut [6, 7] (fun sA sB wx => sA = .int .i64 k1 ∧ sB = .int .i64 k2 ∧ Hid (Bx2 w (.cells #[.int .i64 l, .int .i64 a, .int .i64 d, .int .i64 t, .int .i64 s, .int .i64 p, .slice b q.length c] 29) (.cells #[.int .i64 zk, .int .i64 zp, .int .i64 zd, .int .i64 zi, .int .i64 zq, .int .i64 zr] 31) wx))
  case first =>
    refine wp_region_phj 10 [some 17, some 18, some 19, some 20, some 21, some 16, some 22, some 23, some 6, some 7] (fun X => Below w1.heap.size w1 X) (herQ [atK 0 (isV (.agg #[.int .i64 l, .int .i64 a, .int .i64 d, .int .i64 t, .int .i64 s, .int .i64 p, .slice b q.length c])), atK 1 (isSrc l a d t s p q), atK 2 (isV (.agg #[.int .i64 zk, .int .i64 zp, .int .i64 zd, .int .i64 zi, .int .i64 zq, .int .i64 zr])), atK 3 (isV (.agg #[.int .i64 zk, .int .i64 zp, .int .i64 zd, .int .i64 zi, .int .i64 zq, .int .i64 zr])), atK 4 (isV (.tuple #[.int .i64 k1, .int .i64 k2])), atK 5 (isV (.tuple #[.int .i64 k1, .int .i64 k2])), atK 6 (isV (.int .i64 k1)), atK 7 (isV (.int .i64 k2)), atK 8 (isV (.int .i64 k1)), atK 9 (isV (.int .i64 k2))]) (herD [atK 0 (isV (.agg #[.int .i64 l, .int .i64 a, .int .i64 d, .int .i64 t, .int .i64 s, .int .i64 p, .slice b q.length c])), atK 1 (isSrc l a d t s p q), atK 2 (isV (.agg #[.int .i64 zk, .int .i64 zp, .int .i64 zd, .int .i64 zi, .int .i64 zq, .int .i64 zr])), atK 3 (isV (.agg #[.int .i64 zk, .int .i64 zp, .int .i64 zd, .int .i64 zi, .int .i64 zq, .int .i64 zr])), atK 4 (isV (.tuple #[.int .i64 k1, .int .i64 k2])), atK 5 (isV (.tuple #[.int .i64 k1, .int .i64 k2])), atK 6 (isV (.int .i64 k1)), atK 7 (isV (.int .i64 k2)), atK 8 (isV (.int .i64 k1)), atK 9 (isV (.int .i64 k2))]) (by kernel_rfl) (by kernel_rfl) (by kernel_rfl) (Below.refl _ _).drew ?steps ?fin
    case steps =>
      refine PjSteps.cons ?s0 (PjSteps.cons ?s1 (PjSteps.cons ?s2 (PjSteps.cons ?s3 (PjSteps.cons ?s4 (PjSteps.cons ?s5 (PjSteps.cons ?s6 (PjSteps.cons ?s7 (PjSteps.cons ?s8 (PjSteps.cons ?s9 (PjSteps.nil))))))))))
      case s0 =>
        intro v f a X hat hS hv hnk hcl haf K hK
        have ev := hat.old 2 (fun k hk => absurd (List.mem_of_getElem? hk) (by decide))
        obtain ⟨tm, df⟩ := a
        have c0 := cell_of_row X w.heap.size 0 _ _ _ (blk_bel HX.out.box hS)
        have c1 := cell_of_row X w.heap.size 1 _ _ _ (blk_bel HX.out.box hS)
        have c2 := cell_of_row X w.heap.size 2 _ _ _ (blk_bel HX.out.box hS)
        have c3 := cell_of_row X w.heap.size 3 _ _ _ (blk_bel HX.out.box hS)
        have c4 := cell_of_row X w.heap.size 4 _ _ _ (blk_bel HX.out.box hS)
        have c5 := cell_of_row X w.heap.size 5 _ _ _ (blk_bel HX.out.box hS)
        have c6 := cell_of_row X w.heap.size 6 _ _ _ (blk_bel HX.out.box hS)
        go_simp
        exact hK.out _ _ (herQ_at rfl (show _ = _ from rfl)) (herQ_same hv hnk hcl _) hS
      case s1 =>
        intro v f a X hat hS hv hnk hcl haf K hK
        have f0 := ph_haf haf 0 (by kernel_rfl)
        have ev0 := hat.done 0 17 f0 rfl
        have h0 := hv 0 f0
        rw [show v 0 = _ from h0] at ev0
        obtain ⟨tm, df⟩ := a
        go_simp
        refine Calls.mono (HTS.out b c _ (HZ.out.below (HX.out.bel.trans (hS.mono HX.out.bel.size)) (Nat.le_refl _))) ?_
        rintro e Y ⟨g, rfl, ho, hb⟩
        exact hK.out _ _ (herQ_at rfl (⟨_, _, rfl, lies_own ho, Nat.le_refl _, by intro h; cases h⟩)) (herQ_keep hv hnk hcl hb _) (hS.trans (hb.mono hS.size))
      case s2 =>
        intro v f a X hat hS hv hnk hcl haf K hK
        have ev := hat.old 3 (fun k hk => absurd (List.mem_of_getElem? hk) (by decide))
        obtain ⟨tm, df⟩ := a
        have c0 := cell_of_row X (w.heap.size + 1) 0 _ _ _ (blk_bel HX.out.box2 hS)
        have c1 := cell_of_row X (w.heap.size + 1) 1 _ _ _ (blk_bel HX.out.box2 hS)
        have c2 := cell_of_row X (w.heap.size + 1) 2 _ _ _ (blk_bel HX.out.box2 hS)
        have c3 := cell_of_row X (w.heap.size + 1) 3 _ _ _ (blk_bel HX.out.box2 hS)
        have c4 := cell_of_row X (w.heap.size + 1) 4 _ _ _ (blk_bel HX.out.box2 hS)
        have c5 := cell_of_row X (w.heap.size + 1) 5 _ _ _ (blk_bel HX.out.box2 hS)
        go_simp
        exact hK.out _ _ (herQ_at rfl (show _ = _ from rfl)) (herQ_same hv hnk hcl _) hS
      case s3 =>
        intro v f a X hat hS hv hnk hcl haf K hK
        have f0 := ph_haf haf 2 (by kernel_rfl)
        have ev0 := hat.done 2 19 f0 rfl
        have h0 := hv 2 f0
        rw [show v 2 = _ from h0] at ev0
        obtain ⟨tm, df⟩ := a
        go_simp
        refine Calls.mono (HTT.out _) ?_
        rintro e Y ⟨rfl, hb⟩
        exact hK.out _ _ (herQ_at rfl (show _ = _ from rfl)) (herQ_keep hv hnk hcl hb _) (hS.trans (hb.mono hS.size))
      case s4 =>
        intro v f a X hat hS hv hnk hcl haf K hK
        have f0 := ph_haf haf 1 (by kernel_rfl)
        have ev0 := hat.done 1 18 f0 rfl
        obtain ⟨b0, c0, h0, l0, ft0⟩ := hv 1 f0
        rw [h0] at ev0
        have f1 := ph_haf haf 3 (by kernel_rfl)
        have ev1 := hat.done 3 20 f1 rfl
        have h1 := hv 3 f1
        rw [show v 3 = _ from h1] at ev1
        obtain ⟨tm, df⟩ := a
        go_simp
        refine Calls.mono (HS.out b0 c0 _ l0) ?_
        rintro e Y ⟨rfl, hb⟩
        exact hK.out _ _ (herQ_at rfl (show _ = _ from rfl)) (herQ_keep hv hnk hcl hb _) (hS.trans (hb.mono hS.size))
      case s5 =>
        intro v f a X hat hS hv hnk hcl haf K hK
        have f0 := ph_haf haf 4 (by kernel_rfl)
        have ev0 := hat.done 4 21 f0 rfl
        have h0 := hv 4 f0
        rw [show v 4 = _ from h0] at ev0
        obtain ⟨tm, df⟩ := a
        go_simp
        exact hK.out _ _ (herQ_at rfl (show _ = _ from rfl)) (herQ_same hv hnk hcl _) hS
      case s6 =>
        intro v f a X hat hS hv hnk hcl haf K hK
        have f0 := ph_haf haf 5 (by kernel_rfl)
        have ev0 := hat.done 5 16 f0 rfl
        have h0 := hv 5 f0
        rw [show v 5 = _ from h0] at ev0
        obtain ⟨tm, df⟩ := a
        go_simp
        exact hK.out _ _ (herQ_at rfl (show _ = _ from rfl)) (herQ_same hv hnk hcl _) hS
      case s7 =>
        intro v f a X hat hS hv hnk hcl haf K hK
        have f0 := ph_haf haf 5 (by kernel_rfl)
        have ev0 := hat.done 5 16 f0 rfl
        have h0 := hv 5 f0
        rw [show v 5 = _ from h0] at ev0
        obtain ⟨tm, df⟩ := a
        go_simp
        exact hK.out _ _ (herQ_at rfl (show _ = _ from rfl)) (herQ_same hv hnk hcl _) hS
      case s8 =>
        intro v f a X hat hS hv hnk hcl haf K hK
        have f0 := ph_haf haf 6 (by kernel_rfl)
        have ev0 := hat.done 6 22 f0 rfl
        have h0 := hv 6 f0
        rw [show v 6 = _ from h0] at ev0
        obtain ⟨tm, df⟩ := a
        go_simp
        exact hK.out _ _ (herQ_at rfl (show _ = _ from rfl)) (herQ_same hv hnk hcl _) hS
      case s9 =>
        intro v f a X hat hS hv hnk hcl haf K hK
        have f0 := ph_haf haf 7 (by kernel_rfl)
        have ev0 := hat.done 7 23 f0 rfl
        have h0 := hv 7 f0
        rw [show v 7 = _ from h0] at ev0
        obtain ⟨tm, df⟩ := a
        go_simp
        exact hK.out _ _ (herQ_at rfl (show _ = _ from rfl)) (herQ_same hv hnk hcl _) hS
    case fin =>
      intro v X hX hv
      have r0 := hv 8 (by decide)
      have r1 := hv 9 (by decide)
      simp only [pjAll, Act.put, List.setIfInBounds_toArray, List.set_cons_zero, List.set_cons_succ]
      rw [show v 8 = _ from r0, show v 9 = _ from r1]
      simp only [phTail, List.drop_succ_cons, List.drop_zero]
      go_wp2_with fail
      go_meet
      exact ⟨rfl, rfl, Lib.hid (HX.out.to hX)⟩
  case rest =>
  obtain ⟨rfl, rfl, HX⟩ := hcut
  have c0 := cell_of_row wc w.heap.size 0 _ _ _ HX.out.box
  have c1 := cell_of_row wc w.heap.size 1 _ _ _ HX.out.box
  have c2 := cell_of_row wc w.heap.size 2 _ _ _ HX.out.box
  have c3 := cell_of_row wc w.heap.size 3 _ _ _ HX.out.box
  have c4 := cell_of_row wc w.heap.size 4 _ _ _ HX.out.box
  have c5 := cell_of_row wc w.heap.size 5 _ _ _ HX.out.box
  have c6 := cell_of_row wc w.heap.size 6 _ _ _ HX.out.box
  go_wp2_with fail
  refine Calls.mono (HTS.out b c _ (HZ.out.below HX.out.bel (Nat.le_refl _))) ?_
  rintro e w2 ⟨g1, rfl, ho, hb⟩
  have HX := Lib.hid (HX.out.to hb)
  have HO1 := Lib.hid ho
  clear hb ho c0 c1 c2 c3 c4 c5 c6
  go_upto_region 7 with (fail)
  have HB1 := Lib.hid (heap_alloc_new w2 (.cells #[.int .i64 l, .int .i64 a, .int .i64 d, .int .i64 t, .int .i64 s, .int .i64 p, .slice (some ⟨g1, 0, none⟩) q.length q.length] 24))
  have HX := Lib.hid (HX.out.to (dbox w2 (.cells #[.int .i64 l, .int .i64 a, .int .i64 d, .int .i64 t, .int .i64 s, .int .i64 p, .slice (some ⟨g1, 0, none⟩) q.length q.length] 24)))
  have HO1 := Lib.hid (own_bl HO1.out (dbox w2 (.cells #[.int .i64 l, .int .i64 a, .int .i64 d, .int .i64 t, .int .i64 s, .int .i64 p, .slice (some ⟨g1, 0, none⟩) q.length q.length] 24)))
  have hlt : w2.heap.size < (w2.alloc (.cells #[.int .i64 l, .int .i64 a, .int .i64 d, .int .i64 t, .int .i64 s, .int .i64 p, .slice (some ⟨g1, 0, none⟩) q.length q.length] 24)).heap.size := by simp
  generalize w2.alloc (.cells #[.int .i64 l, .int .i64 a, .int .i64 d, .int .i64 t, .int .i64 s, .int .i64 p, .slice (some ⟨g1, 0, none⟩) q.length q.length] 24) = W3 at *
  go_cut [9, 10] (fun sA sB wx => sA = .int .i64 k1 ∧ sB = .int .i64 k2 ∧ Hid (Bx2 w (.cells #[.int .i64 l, .int .i64 a, .int .i64 d, .int .i64 t, .int .i64 s, .int .i64 p, .slice b q.length c] 29) (.cells #[.int .i64 zk, .int .i64 zp, .int .i64 zd, .int .i64 zi, .int .i64 zq, .int .i64 zr] 31) wx ∧ wx.heap[w2.heap.size]? = some (.cells #[.int .i64 l, .int .i64 a, .int .i64 d, .int .i64 t, .int .i64 s, .int .i64 p, .slice (some ⟨g1, 0, none⟩) q.length q.length] 24) ∧ Lies wx (some ⟨g1, 0, none⟩) (kC q)))
  case first =>
    refine wp_region_phj 9 [some 27, some 28, some 29, some 30, some 26, some 31, some 32, some 9, some 10] (fun X => Below W3.heap.size W3 X) (herQ [atK 0 (isV (.agg #[.int .i64 l, .int .i64 a, .int .i64 d, .int .i64 t, .int .i64 s, .int .i64 p, .slice (some ⟨g1, 0, none⟩) q.length q.length])), atK 1 (isV (.agg #[.int .i64 zk, .int .i64 zp, .int .i64 zd, .int .i64 zi, .int .i64 zq, .int .i64 zr])), atK 2 (isV (.agg #[.int .i64 zk, .int .i64 zp, .int .i64 zd, .int .i64 zi, .int .i64 zq, .int .i64 zr])), atK 3 (isV (.tuple #[.int .i64 k1, .int .i64 k2])), atK 4 (isV (.tuple #[.int .i64 k1, .int .i64 k2])), atK 5 (isV (.int .i64 k1)), atK 6 (isV (.int .i64 k2)), atK 7 (isV (.int .i64 k1)), atK 8 (isV (.int .i64 k2))]) (herD [atK 0 (isV (.agg #[.int .i64 l, .int .i64 a, .int .i64 d, .int .i64 t, .int .i64 s, .int .i64 p, .slice (some ⟨g1, 0, none⟩) q.length q.length])), atK 1 (isV (.agg #[.int .i64 zk, .int .i64 zp, .int .i64 zd, .int .i64 zi, .int .i64 zq, .int .i64 zr])), atK 2 (isV (.agg #[.int .i64 zk, .int .i64 zp, .int .i64 zd, .int .i64 zi, .int .i64 zq, .int .i64 zr])), atK 3 (isV (.tuple #[.int .i64 k1, .int .i64 k2])), atK 4 (isV (.tuple #[.int .i64 k1, .int .i64 k2])), atK 5 (isV (.int .i64 k1)), atK 6 (isV (.int .i64 k2)), atK 7 (isV (.int .i64 k1)), atK 8 (isV (.int .i64 k2))]) (by kernel_rfl) (by kernel_rfl) (by kernel_rfl) (Below.refl _ _).drew ?steps ?fin
    case steps =>
      refine PjSteps.cons ?s0 (PjSteps.cons ?s1 (PjSteps.cons ?s2 (PjSteps.cons ?s3 (PjSteps.cons ?s4 (PjSteps.cons ?s5 (PjSteps.cons ?s6 (PjSteps.cons ?s7 (PjSteps.cons ?s8 (PjSteps.nil)))))))))
      case s0 =>
        intro v f a X hat hS hv hnk hcl haf K hK
        have ev := hat.old 8 (fun k hk => absurd (List.mem_of_getElem? hk) (by decide))
        obtain ⟨tm, df⟩ := a
        have c0 := cell_of_row X w2.heap.size 0 _ _ _ (blk_bel HB1.out hS)
        have c1 := cell_of_row X w2.heap.size 1 _ _ _ (blk_bel HB1.out hS)
        have c2 := cell_of_row X w2.heap.size 2 _ _ _ (blk_bel HB1.out hS)
        have c3 := cell_of_row X w2.heap.size 3 _ _ _ (blk_bel HB1.out hS)
        have c4 := cell_of_row X w2.heap.size 4 _ _ _ (blk_bel HB1.out hS)
        have c5 := cell_of_row X w2.heap.size 5 _ _ _ (blk_bel HB1.out hS)
        have c6 := cell_of_row X w2.heap.size 6 _ _ _ (blk_bel HB1.out hS)
        go_simp
        exact hK.out _ _ (herQ_at rfl (show _ = _ from rfl)) (herQ_same hv hnk hcl _) hS
      case s1 =>
        intro v f a X hat hS hv hnk hcl haf K hK
        have ev := hat.old 3 (fun k hk => absurd (List.mem_of_getElem? hk) (by decide))
        obtain ⟨tm, df⟩ := a
        have c0 := cell_of_row X (w.heap.size + 1) 0 _ _ _ (blk_bel HX.out.box2 hS)
        have c1 := cell_of_row X (w.heap.size + 1) 1 _ _ _ (blk_bel HX.out.box2 hS)
        have c2 := cell_of_row X (w.heap.size + 1) 2 _ _ _ (blk_bel HX.out.box2 hS)
        have c3 := cell_of_row X (w.heap.size + 1) 3 _ _ _ (blk_bel HX.out.box2 hS)
        have c4 := cell_of_row X (w.heap.size + 1) 4 _ _ _ (blk_bel HX.out.box2 hS)
        have c5 := cell_of_row X (w.heap.size + 1) 5 _ _ _ (blk_bel HX.out.box2 hS)
        go_simp
        exact hK.out _ _ (herQ_at rfl (show _ = _ from rfl)) (herQ_same hv hnk hcl _) hS
      case s2 =>
        intro v f a X hat hS hv hnk hcl haf K hK
        have f0 := ph_haf haf 1 (by kernel_rfl)
        have ev0 := hat.done 1 28 f0 rfl
        have h0 := hv 1 f0
        rw [show v 1 = _ from h0] at ev0
        obtain ⟨tm, df⟩ := a
        go_simp
        refine Calls.mono (HTT.out _) ?_
        rintro e Y ⟨rfl, hb⟩
        exact hK.out _ _ (herQ_at rfl (show _ = _ from rfl)) (herQ_keep hv hnk hcl hb _) (hS.trans (hb.mono hS.size))
      case s3 =>
        intro v f a X hat hS hv hnk hcl haf K hK
        have f0 := ph_haf haf 0 (by kernel_rfl)
        have ev0 := hat.done 0 27 f0 rfl
        have h0 := hv 0 f0
        rw [show v 0 = _ from h0] at ev0
        have f1 := ph_haf haf 2 (by kernel_rfl)
        have ev1 := hat.done 2 29 f1 rfl
        have h1 := hv 2 f1
        rw [show v 2 = _ from h1] at ev1
        obtain ⟨tm, df⟩ := a
        go_simp
        refine Calls.mono (HI.out (some ⟨g1, 0, none⟩) q.length _ ((lies_own HO1.out).below hS (Nat.le_refl _))) ?_
        rintro e Y ⟨rfl, hb⟩
        exact hK.out _ _ (herQ_at rfl (show _ = _ from rfl)) (herQ_keep hv hnk hcl hb _) (hS.trans (hb.mono hS.size))
      case s4 =>
        intro v f a X hat hS hv hnk hcl haf K hK
        have f0 := ph_haf haf 3 (by kernel_rfl)
        have ev0 := hat.done 3 30 f0 rfl
        have h0 := hv 3 f0
        rw [show v 3 = _ from h0] at ev0
        obtain ⟨tm, df⟩ := a
        go_simp
        exact hK.out _ _ (herQ_at rfl (show _ = _ from rfl)) (herQ_same hv hnk hcl _) hS
      case s5 =>
        intro v f a X hat hS hv hnk hcl haf K hK
        have f0 := ph_haf haf 4 (by kernel_rfl)
        have ev0 := hat.done 4 26 f0 rfl
        have h0 := hv 4 f0
        rw [show v 4 = _ from h0] at ev0
        obtain ⟨tm, df⟩ := a
        go_simp
        exact hK.out _ _ (herQ_at rfl (show _ = _ from rfl)) (herQ_same hv hnk hcl _) hS
      case s6 =>
        intro v f a X hat hS hv hnk hcl haf K hK
        have f0 := ph_haf haf 4 (by kernel_rfl)
        have ev0 := hat.done 4 26 f0 rfl
        have h0 := hv 4 f0
        rw [show v 4 = _ from h0] at ev0
        obtain ⟨tm, df⟩ := a
        go_simp
        exact hK.out _ _ (herQ_at rfl (show _ = _ from rfl)) (herQ_same hv hnk hcl _) hS
      case s7 =>
        intro v f a X hat hS hv hnk hcl haf K hK
        have f0 := ph_haf haf 5 (by kernel_rfl)
        have ev0 := hat.done 5 31 f0 rfl
        have h0 := hv 5 f0
        rw [show v 5 = _ from h0] at ev0
        obtain ⟨tm, df⟩ := a
        go_simp
        exact hK.out _ _ (herQ_at rfl (show _ = _ from rfl)) (herQ_same hv hnk hcl _) hS
      case s8 =>
        intro v f a X hat hS hv hnk hcl haf K hK
        have f0 := ph_haf haf 6 (by kernel_rfl)
        have ev0 := hat.done 6 32 f0 rfl
        have h0 := hv 6 f0
        rw [show v 6 = _ from h0] at ev0
        obtain ⟨tm, df⟩ := a
        go_simp
        exact hK.out _ _ (herQ_at rfl (show _ = _ from rfl)) (herQ_same hv hnk hcl _) hS
    case fin =>
      intro v X hX hv
      have r0 := hv 7 (by decide)
      have r1 := hv 8 (by decide)
      simp only [pjAll, Act.put, List.setIfInBounds_toArray, List.set_cons_zero, List.set_cons_succ]
      rw [show v 7 = _ from r0, show v 8 = _ from r1]
      simp only [phTail, List.drop_succ_cons, List.drop_zero]
      go_wp2_with fail
      go_meet
      exact ⟨rfl, rfl, Lib.hid ⟨HX.out.to hX, blk_bel HB1.out hX, (lies_own HO1.out).below hX (Nat.le_refl _)⟩⟩
  case rest =>
  obtain ⟨rfl, rfl, hc⟩ := hcut
  have HX := Lib.hid hc.out.1
  have HB1 := Lib.hid hc.out.2.1
  have HL1 := Lib.hid hc.out.2.2
  clear hc HO1 hlt
  go_upto_region 10 with (fail)
  go_cut [45] (fun sA wx => sA = .bool false ∧ Hid (Bx2 w (.cells #[.int .i64 l, .int .i64 a, .int .i64 d, .int .i64 t, .int .i64 s, .int .i64 p, .slice b q.length c] 29) (.cells #[.int .i64 zk, .int .i64 zp, .int .i64 zd, .int .i64 zi, .int .i64 zq, .int .i64 zr] 31) wx))
  case first =>
    refine wp_region_phi 4 [41, 42, 43, 44] (fun X => Below wc.heap.size wc X) (herL [isV (.agg #[.int .i64 l, .int .i64 a, .int .i64 d, .int .i64 t, .int .i64 s, .int .i64 p, .slice (some ⟨g1, 0, none⟩) q.length q.length]), isV (.agg #[.int .i64 l, .int .i64 a, .int .i64 d, .int .i64 t, .int .i64 s, .int .i64 p, .slice b q.length c]), isSrc l a d t s p q, isV (.bool true)]) (by kernel_rfl) (by kernel_rfl) (by kernel_rfl) (herL_keep _) (fun X Y h hb => h.trans (hb.mono h.size)) ((Below.refl _ _).drew) ?steps ?fin
    case steps =>
      refine PhSteps.cons ?s0 (PhSteps.cons ?s1 (PhSteps.cons ?s2 (PhSteps.cons ?s3 (PhSteps.nil))))
      case s0 =>
        intro v f a X hat hS hv haf K hK
        have ev := hat.old 8 (fun k hk => absurd (List.mem_of_getElem? hk) (by decide))
        obtain ⟨tm, df⟩ := a
        have c0 := cell_of_row X w2.heap.size 0 _ _ _ (blk_bel HB1.out hS)
        have c1 := cell_of_row X w2.heap.size 1 _ _ _ (blk_bel HB1.out hS)
        have c2 := cell_of_row X w2.heap.size 2 _ _ _ (blk_bel HB1.out hS)
        have c3 := cell_of_row X w2.heap.size 3 _ _ _ (blk_bel HB1.out hS)
        have c4 := cell_of_row X w2.heap.size 4 _ _ _ (blk_bel HB1.out hS)
        have c5 := cell_of_row X w2.heap.size 5 _ _ _ (blk_bel HB1.out hS)
        have c6 := cell_of_row X w2.heap.size 6 _ _ _ (blk_bel HB1.out hS)
        go_simp
        exact hK.out _ _ (show _ = _ from rfl) (Below.refl _ _)
      case s1 =>
        intro v f a X hat hS hv haf K hK
        have ev := hat.old 2 (fun k hk => absurd (List.mem_of_getElem? hk) (by decide))
        obtain ⟨tm, df⟩ := a
        have c0 := cell_of_row X w.heap.size 0 _ _ _ (blk_bel HX.out.box hS)
        have c1 := cell_of_row X w.heap.size 1 _ _ _ (blk_bel HX.out.box hS)
        have c2 := cell_of_row X w.heap.size 2 _ _ _ (blk_bel HX.out.box hS)
        have c3 := cell_of_row X w.heap.size 3 _ _ _ (blk_bel HX.out.box hS)
        have c4 := cell_of_row X w.heap.size 4 _ _ _ (blk_bel HX.out.box hS)
        have c5 := cell_of_row X w.heap.size 5 _ _ _ (blk_bel HX.out.box hS)
        have c6 := cell_of_row X w.heap.size 6 _ _ _ (blk_bel HX.out.box hS)
        go_simp
        exact hK.out _ _ (show _ = _ from rfl) (Below.refl _ _)
      case s2 =>
        intro v f a X hat hS hv haf K hK
        have f0 := ph_haf haf 1 (by kernel_rfl)
        have ev0 := hat.done 1 42 f0 rfl
        have h0 := hv 1 f0
        rw [show v 1 = _ from h0] at ev0
        obtain ⟨tm, df⟩ := a
        go_simp
        refine Calls.mono (HTS.out b c _ (HZ.out.below (HX.out.bel.trans (hS.mono HX.out.bel.size)) (Nat.le_refl _))) ?_
        rintro e Y ⟨g, rfl, ho, hb⟩
        exact hK.out _ _ (⟨_, _, rfl, lies_own ho, Nat.le_refl _, by intro h; cases h⟩) hb
      case s3 =>
        intro v f a X hat hS hv haf K hK
        have f0 := ph_haf haf 0 (by kernel_rfl)
        have ev0 := hat.done 0 41 f0 rfl
        have h0 := hv 0 f0
        rw [show v 0 = _ from h0] at ev0
        have f1 := ph_haf haf 2 (by kernel_rfl)
        have ev1 := hat.done 2 43 f1 rfl
        obtain ⟨b1, c1, h1, l1, ft1⟩ := hv 2 f1
        rw [h1] at ev1
        obtain ⟨tm, df⟩ := a
        go_simp
        refine Calls.mono (HEQ.out (some ⟨g1, 0, none⟩) b1 q.length c1 _ (HL1.out.below hS (Nat.le_refl _)) l1) ?_
        rintro e Y ⟨rfl, hb⟩
        exact hK.out _ _ (show _ = _ from rfl) hb
    case fin =>
      intro v X hX hv
      have r0 := hv 3 (by decide)
      simp only [phAll, Act.put, List.setIfInBounds_toArray, List.set_cons_zero, List.set_cons_succ]
      rw [show v 3 = _ from r0]
      simp only [phTail, List.drop_succ_cons, List.drop_zero]
      go_wp2_with fail
      go_meet
      exact ⟨rfl, Lib.hid (HX.out.to hX)⟩
  case rest =>
  obtain ⟨rfl, HX⟩ := hcut
  go_wp2
  go_ret
  exact ⟨rfl, HX.out.bel⟩
theorem FnExactBalanceOf_came (cs ds : Array Value) (W : World) (h : Came Try.prog W 29 cs.toList) (g : Came Try.prog W 31 ds.toList) : Calls Try.prog 9 #[.agg cs, .agg ds] W fun e w' => e = .returned (.bool true) ∧ Below W.heap.size W w' := by
  obtain ⟨x, b, c, e, hz, hm⟩ := came_src h
  obtain ⟨z, e'⟩ := came_tsk g
  rw [e, e']
  exact FnExactBalanceOf_walk x.l x.a x.d x.t x.s x.p x.q z.k z.p z.d z.i z.q z.r b c hm W hz
set_option maxHeartbeats 1000000 in
theorem FnExactNewSource_came (W : World) : Calls Try.prog 3 #[] W fun e w' => e = .returned (.bool true) ∧ Below W.heap.size W w' := by
  have HI := Lib.hid (fun w => implNewSource_any w)
  have HI : Hid (∀ w, Calls Try.prog 13 #[] w fun e w' => e = .returned (.agg #[.int .i64 (-1), .int .i64 0, .int .i64 0, .int .i64 0, .int .i64 0, .int .i64 0, .slice none 0 0]) ∧ Below w.heap.size w w') := HI
  have HEQ := Lib.hid (fun b b' w hz hy => eqS_ph (-1) 0 0 0 0 0 [] b b' 0 0 (by decide) w hz hy)
  have HEQ : Hid (∀ b b' w, Calls Try.prog 14 #[.agg #[.int .i64 (-1), .int .i64 0, .int .i64 0, .int .i64 0, .int .i64 0, .int .i64 0, .slice b 0 0], .agg #[.int .i64 (-1), .int .i64 0, .int .i64 0, .int .i64 0, .int .i64 0, .int .i64 0, .slice b' 0 0]] w fun e w' => e = .returned (.bool true) ∧ Below w.heap.size w w') := Lib.hid (fun b b' w => HEQ.out b b' w (.inl rfl) (.inl rfl))
  have HMK : Hid (∀ w, Calls Try.prog 15 #[.agg #[.int .i64 (-1), .int .i64 0, .int .i64 0, .int .i64 0, .int .i64 0, .int .i64 0, .slice none 0 0], .int .i64 1] w fun e w' => e = .returned (.int .i64 1) ∧ Below w.heap.size w w') := Lib.hid (fun w => (markSource_own s9 0 0 none [] 1 (by omega) (by decide) w (World.ownsRow_nil _ _ _ _)).mono fun e w' ⟨h1, _, h2⟩ => ⟨h1, ⟨h2.os, h2.tape, h2.output, h2.size, fun k hk => h2.block k hk (by simp [Value.ownBlock])⟩⟩)
  have HHD : Hid (∀ w, Calls Try.prog 16 #[.agg #[.int .i64 (-1), .int .i64 0, .int .i64 0, .int .i64 0, .int .i64 0, .int .i64 0, .slice none 0 0], .int .i64 1] w fun e w' => e = .returned (.int .i64 1) ∧ Below w.heap.size w w') := Lib.hid (fun w => heldSource_any s9 0 none 1 (by omega) (by decide) w (.inl rfl))
  go_enter Try.func3, Try.ntmps3
  go_wp2_with fail
  refine Calls.mono (specNewSource_any _) ?_
  rintro e w1 ⟨⟨g, rfl⟩, hb⟩
  have HB := Lib.hid (hb.trans ((dbox w1 (.cells #[.int .i64 (-1), .int .i64 0, .int .i64 0, .int .i64 0, .int .i64 0, .int .i64 0, .slice (some ⟨g, 0, none⟩) 0 0] 24)).mono hb.size))
  have K1 := Lib.hid (heap_alloc_new w1 (.cells #[.int .i64 (-1), .int .i64 0, .int .i64 0, .int .i64 0, .int .i64 0, .int .i64 0, .slice (some ⟨g, 0, none⟩) 0 0] 24))
  clear hb
  go_wp2_with fail
  refine Calls.mono (HI.out _) ?_
  rintro e w2 ⟨rfl, hb⟩
  have HB := Lib.hid (HB.out.trans (hb.mono HB.out.size))
  have K1 := Lib.hid (blk_bel K1.out hb)
  clear hb
  go_upto_region 3 with (fail)
  have K2 := Lib.hid (heap_alloc_new w2 (.cells #[.int .i64 (-1), .int .i64 0, .int .i64 0, .int .i64 0, .int .i64 0, .int .i64 0, .slice none 0 0] 24))
  have K1 := Lib.hid (blk_bel K1.out (dbox w2 (.cells #[.int .i64 (-1), .int .i64 0, .int .i64 0, .int .i64 0, .int .i64 0, .int .i64 0, .slice none 0 0] 24)))
  have HB := Lib.hid (HB.out.trans ((dbox w2 (.cells #[.int .i64 (-1), .int .i64 0, .int .i64 0, .int .i64 0, .int .i64 0, .int .i64 0, .slice none 0 0] 24)).mono HB.out.size))
  generalize w2.alloc (.cells #[.int .i64 (-1), .int .i64 0, .int .i64 0, .int .i64 0, .int .i64 0, .int .i64 0, .slice none 0 0] 24) = W3 at *
  have c0 := cell_of_row W3 w2.heap.size 0 _ _ _ K2.out
  have c1 := cell_of_row W3 w2.heap.size 1 _ _ _ K2.out
  have c2 := cell_of_row W3 w2.heap.size 2 _ _ _ K2.out
  have c3 := cell_of_row W3 w2.heap.size 3 _ _ _ K2.out
  have c4 := cell_of_row W3 w2.heap.size 4 _ _ _ K2.out
  have c5 := cell_of_row W3 w2.heap.size 5 _ _ _ K2.out
  have c6 := cell_of_row W3 w2.heap.size 6 _ _ _ K2.out
  have d0 := cell_of_row W3 w1.heap.size 0 _ _ _ K1.out
  have d1 := cell_of_row W3 w1.heap.size 1 _ _ _ K1.out
  have d2 := cell_of_row W3 w1.heap.size 2 _ _ _ K1.out
  have d3 := cell_of_row W3 w1.heap.size 3 _ _ _ K1.out
  have d4 := cell_of_row W3 w1.heap.size 4 _ _ _ K1.out
  have d5 := cell_of_row W3 w1.heap.size 5 _ _ _ K1.out
  have d6 := cell_of_row W3 w1.heap.size 6 _ _ _ K1.out
  go_wp2_with fail
  refine Calls.mono (HEQ.out _ _ _) ?_
  rintro e w4 ⟨rfl, hb⟩
  have HB := Lib.hid (HB.out.trans (hb.mono HB.out.size))
  have K1 := Lib.hid (blk_bel K1.out hb)
  have K2 := Lib.hid (blk_bel K2.out hb)
  clear hb
  clear c0 c1 c2 c3 c4 c5 c6 d0 d1 d2 d3 d4 d5 d6
  have c0 := cell_of_row w4 w2.heap.size 0 _ _ _ K2.out
  have c1 := cell_of_row w4 w2.heap.size 1 _ _ _ K2.out
  have c2 := cell_of_row w4 w2.heap.size 2 _ _ _ K2.out
  have c3 := cell_of_row w4 w2.heap.size 3 _ _ _ K2.out
  have c4 := cell_of_row w4 w2.heap.size 4 _ _ _ K2.out
  have c5 := cell_of_row w4 w2.heap.size 5 _ _ _ K2.out
  have c6 := cell_of_row w4 w2.heap.size 6 _ _ _ K2.out
  go_wp2_with fail
  refine Calls.mono (HMK.out _) ?_
  rintro e w5 ⟨rfl, hb⟩
  have HB := Lib.hid (HB.out.trans (hb.mono HB.out.size))
  have K1 := Lib.hid (blk_bel K1.out hb)
  have K2 := Lib.hid (blk_bel K2.out hb)
  clear hb
  clear c0 c1 c2 c3 c4 c5 c6
  have c0 := cell_of_row w5 w2.heap.size 0 _ _ _ K2.out
  have c1 := cell_of_row w5 w2.heap.size 1 _ _ _ K2.out
  have c2 := cell_of_row w5 w2.heap.size 2 _ _ _ K2.out
  have c3 := cell_of_row w5 w2.heap.size 3 _ _ _ K2.out
  have c4 := cell_of_row w5 w2.heap.size 4 _ _ _ K2.out
  have c5 := cell_of_row w5 w2.heap.size 5 _ _ _ K2.out
  have c6 := cell_of_row w5 w2.heap.size 6 _ _ _ K2.out
  go_wp2_with fail
  refine Calls.mono (HHD.out _) ?_
  rintro e w6 ⟨rfl, hb⟩
  have HB := Lib.hid (HB.out.trans (hb.mono HB.out.size))
  have K1 := Lib.hid (blk_bel K1.out hb)
  have K2 := Lib.hid (blk_bel K2.out hb)
  clear hb
  clear c0 c1 c2 c3 c4 c5 c6
  go_wp2_with fail
  refine Calls.mono (HI.out _) ?_
  rintro e w7 ⟨rfl, hb⟩
  have HB := Lib.hid (HB.out.trans (hb.mono HB.out.size))
  have K1 := Lib.hid (blk_bel K1.out hb)
  have K2 := Lib.hid (blk_bel K2.out hb)
  clear hb
  go_upto_region 14 with (fail)
  have K3 := Lib.hid (heap_alloc_new w7 (.cells #[.int .i64 (-1), .int .i64 0, .int .i64 0, .int .i64 0, .int .i64 0, .int .i64 0, .slice none 0 0] 24))
  have K1 := Lib.hid (blk_bel K1.out (dbox w7 (.cells #[.int .i64 (-1), .int .i64 0, .int .i64 0, .int .i64 0, .int .i64 0, .int .i64 0, .slice none 0 0] 24)))
  have K2 := Lib.hid (blk_bel K2.out (dbox w7 (.cells #[.int .i64 (-1), .int .i64 0, .int .i64 0, .int .i64 0, .int .i64 0, .int .i64 0, .slice none 0 0] 24)))
  have HB := Lib.hid (HB.out.trans ((dbox w7 (.cells #[.int .i64 (-1), .int .i64 0, .int .i64 0, .int .i64 0, .int .i64 0, .int .i64 0, .slice none 0 0] 24)).mono HB.out.size))
  generalize w7.alloc (.cells #[.int .i64 (-1), .int .i64 0, .int .i64 0, .int .i64 0, .int .i64 0, .int .i64 0, .slice none 0 0] 24) = W8 at *
  have c0 := cell_of_row W8 w7.heap.size 0 _ _ _ K3.out
  have c1 := cell_of_row W8 w7.heap.size 1 _ _ _ K3.out
  have c2 := cell_of_row W8 w7.heap.size 2 _ _ _ K3.out
  have c3 := cell_of_row W8 w7.heap.size 3 _ _ _ K3.out
  have c4 := cell_of_row W8 w7.heap.size 4 _ _ _ K3.out
  have c5 := cell_of_row W8 w7.heap.size 5 _ _ _ K3.out
  have c6 := cell_of_row W8 w7.heap.size 6 _ _ _ K3.out
  have d0 := cell_of_row W8 w1.heap.size 0 _ _ _ K1.out
  have d1 := cell_of_row W8 w1.heap.size 1 _ _ _ K1.out
  have d2 := cell_of_row W8 w1.heap.size 2 _ _ _ K1.out
  have d3 := cell_of_row W8 w1.heap.size 3 _ _ _ K1.out
  have d4 := cell_of_row W8 w1.heap.size 4 _ _ _ K1.out
  have d5 := cell_of_row W8 w1.heap.size 5 _ _ _ K1.out
  have d6 := cell_of_row W8 w1.heap.size 6 _ _ _ K1.out
  go_wp2_with fail
  refine Calls.mono (HEQ.out _ _ _) ?_
  rintro e w9 ⟨rfl, hb⟩
  have HB := Lib.hid (HB.out.trans (hb.mono HB.out.size))
  have K1 := Lib.hid (blk_bel K1.out hb)
  have K2 := Lib.hid (blk_bel K2.out hb)
  clear hb
  clear c0 c1 c2 c3 c4 c5 c6 d0 d1 d2 d3 d4 d5 d6
  have c0 := cell_of_row w9 w2.heap.size 0 _ _ _ K2.out
  have c1 := cell_of_row w9 w2.heap.size 1 _ _ _ K2.out
  have c2 := cell_of_row w9 w2.heap.size 2 _ _ _ K2.out
  have c3 := cell_of_row w9 w2.heap.size 3 _ _ _ K2.out
  have c4 := cell_of_row w9 w2.heap.size 4 _ _ _ K2.out
  have c5 := cell_of_row w9 w2.heap.size 5 _ _ _ K2.out
  have c6 := cell_of_row w9 w2.heap.size 6 _ _ _ K2.out
  go_wp2_with fail
  refine Calls.mono (HHD.out _) ?_
  rintro e w10 ⟨rfl, hb⟩
  have HB := Lib.hid (HB.out.trans (hb.mono HB.out.size))
  have K1 := Lib.hid (blk_bel K1.out hb)
  have K2 := Lib.hid (blk_bel K2.out hb)
  clear hb
  clear c0 c1 c2 c3 c4 c5 c6
  go_wp2
  go_ret
  exact ⟨rfl, HB.out⟩
end Go.Proofs.Ytgbnoaclklbjbaa
