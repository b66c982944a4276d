/- Laws over sources: SourceOK, BalanceOf. (Written by tools/gen_evl.py.) -/
import Derived.Test.YtgbnoaclklbjbaaEvU
import Derived.Test.YtgbnoaclklbjbaaPhi
import Derived.Deep.DeepCutAuto
namespace Go.Proofs.Ytgbnoaclklbjbaa
open Go.ChangeShapes Go.WideShapes Go.ChangeAt Go.RowKit
set_option linter.unusedVariables false
/-- A source whose queue can be read. -/
def isSrc (l a d t s p : Int) (q : List Int) : HerP := ⟨fun v X => ∃ b c, v = .agg #[.int .i64 l, .int .i64 a, .int .i64 d, .int .i64 t, .int .i64 s, .int .i64 p, .slice b q.length c] ∧ Lies X b (kC q) ∧ Fits b q.length c, fun _ _ _ ⟨b, c, h1, h2, h3⟩ hb => ⟨b, c, h1, h2.below hb (Nat.le_refl _), h3⟩⟩
theorem toS_ph (l a d t s p : Int) (q : List Int) (b : Option Addr) (c : Nat) (hn : q.length ≤ 1048576) (w : World) (hz : Lies w b (kC q)) : Calls Try.prog 19 #[.agg #[.int .i64 l, .int .i64 a, .int .i64 d, .int .i64 t, .int .i64 s, .int .i64 p, .slice b q.length c]] w fun e w' => ∃ g, e = .returned (.agg #[.int .i64 l, .int .i64 a, .int .i64 d, .int .i64 t, .int .i64 s, .int .i64 p, .slice (some ⟨g, 0, none⟩) q.length q.length]) ∧ w'.ownsRow w.heap.size 3 1 (.slice (some ⟨g, 0, none⟩) q.length q.length) q.length (kC q) ∧ Below w.heap.size w w' :=
  toSource_any ⟨l, a, d, t, s, p, q⟩ b c hn w hz
theorem toT_ph (zk zp zd zi zq zr : Int) (w : World) : Calls Try.prog 20 #[.agg #[.int .i64 zk, .int .i64 zp, .int .i64 zd, .int .i64 zi, .int .i64 zq, .int .i64 zr]] w fun e w' => e = .returned (.agg #[.int .i64 zk, .int .i64 zp, .int .i64 zd, .int .i64 zi, .int .i64 zq, .int .i64 zr]) ∧ Below w.heap.size w w' := toTask_cp ⟨zk, zp, zd, zi, zq, zr⟩ w
theorem eqS_ph (l a d t s p : Int) (q : List Int) (b b' : Option Addr) (c c' : Nat) (hn : q.length ≤ 1048576) (w : World) (hz : Lies w b (kC q)) (hy : Lies w b' (kC q)) : Calls Try.prog 14 #[.agg #[.int .i64 l, .int .i64 a, .int .i64 d, .int .i64 t, .int .i64 s, .int .i64 p, .slice b q.length c], .agg #[.int .i64 l, .int .i64 a, .int .i64 d, .int .i64 t, .int .i64 s, .int .i64 p, .slice b' q.length c']] w fun e w' => e = .returned (.bool true) ∧ Below w.heap.size w w' := eqSource_same ⟨l, a, d, t, s, p, q⟩ b b' c c' hn w hz hy
theorem came_tsk {W : World} {cs : Array Value} (h : Came Try.prog W 31 cs.toList) : ∃ z : TT, Value.agg cs = tV z := by
  obtain ⟨z, e⟩ := came_tt h
  refine ⟨z, ?_⟩
  obtain ⟨l⟩ := cs
  simp only at e
  rw [e]
  rfl
set_option maxRecDepth 100000 in
set_option maxHeartbeats 1000000 in
theorem FnExactSourceOK_walk (l a d t s p : Int) (q : List Int) (zk zp zd zi zq zr : Int) (b : Option Addr) (c : Nat) (hm : q.length ≤ maxLen) (w : World) (hz : Lies w b (kC q)) :
    Calls Try.prog 4 #[.agg #[.int .i64 l, .int .i64 a, .int .i64 d, .int .i64 t, .int .i64 s, .int .i64 p, .slice b q.length c], .agg #[.int .i64 zk, .int .i64 zp, .int .i64 zd, .int .i64 zi, .int .i64 zq, .int .i64 zr]] w fun e w' => e = .returned (.bool true) ∧ Below w.heap.size w w' := by
  have HX := Lib.hid (Bx2.start w (.cells #[.int .i64 l, .int .i64 a, .int .i64 d, .int .i64 t, .int .i64 s, .int .i64 p, .slice b q.length c] 29) (.cells #[.int .i64 zk, .int .i64 zp, .int .i64 zd, .int .i64 zi, .int .i64 zq, .int .i64 zr] 31))
  have HZ := Lib.hid hz
  have HSZ := Lib.hid (fun X => szSource_any ⟨l, a, d, t, s, p, q⟩ b c hm X)
  have HSZ : Hid (∀ X, Calls Try.prog 17 #[.agg #[.int .i64 l, .int .i64 a, .int .i64 d, .int .i64 t, .int .i64 s, .int .i64 p, .slice b q.length c], .int .i64 1048576] X fun e w' => Below X.heap.size X w' ∧ ∃ r : Int, e = .returned (.int .i64 r) ∧ (r = -1 ∨ (0 ≤ r ∧ q.length ≤ 1048576))) := HSZ
  have HS := Lib.hid (fun b c w hz => specSourceOK_any ⟨l, a, d, t, s, p, q⟩ ⟨zk, zp, zd, zi, zq, zr⟩ b c hm w hz)
  have HI := Lib.hid (fun b c w hz => sourceOK_any ⟨l, a, d, t, s, p, q⟩ ⟨zk, zp, zd, zi, zq, zr⟩ b c hm w hz)
  generalize sOK ⟨l, a, d, t, s, p, q⟩ ⟨zk, zp, zd, zi, zq, zr⟩ = R at *
  clear hz
  go_enter Try.func4, Try.ntmps4
  go_upto_region 2 with (fail)
  generalize (w.alloc (.cells #[.int .i64 l, .int .i64 a, .int .i64 d, .int .i64 t, .int .i64 s, .int .i64 p, .slice b q.length c] 29)).alloc (.cells #[.int .i64 zk, .int .i64 zp, .int .i64 zd, .int .i64 zi, .int .i64 zq, .int .i64 zr] 31) = W0 at *
  have c0 := cell_of_row W0 w.heap.size 0 _ _ _ HX.out.box
  have c1 := cell_of_row W0 w.heap.size 1 _ _ _ HX.out.box
  have c2 := cell_of_row W0 w.heap.size 2 _ _ _ HX.out.box
  have c3 := cell_of_row W0 w.heap.size 3 _ _ _ HX.out.box
  have c4 := cell_of_row W0 w.heap.size 4 _ _ _ HX.out.box
  have c5 := cell_of_row W0 w.heap.size 5 _ _ _ HX.out.box
  have c6 := cell_of_row W0 w.heap.size 6 _ _ _ HX.out.box
  go_wp2_with fail
  refine Calls.mono (HSZ.out _) ?_
  rintro e w1 ⟨hb, r, rfl, hr⟩
  have HX := Lib.hid (HX.out.to hb)
  clear hb HSZ c0 c1 c2 c3 c4 c5 c6
  by_cases hr0 : r < 0
  · clear hr
    go_wp2
    go_ret
    exact ⟨rfl, HX.out.bel⟩
  have hn : q.length ≤ 1048576 := by omega
  have HTS := Lib.hid (fun b c w hz => toS_ph l a d t s p q b c hn w hz)
  have HTT := Lib.hid (fun w => toT_ph zk zp zd zi zq zr w)
  have HEQ := Lib.hid (fun b b' c c' w hz hy => eqS_ph l a d t s p q b b' c c' hn w hz hy)
  clear hr
  go_upto_region 5 with (fail)
  go_cut [6] (fun s6 wx => s6 = .bool R ∧ Hid (Bx2 w (.cells #[.int .i64 l, .int .i64 a, .int .i64 d, .int .i64 t, .int .i64 s, .int .i64 p, .slice b q.length c] 29) (.cells #[.int .i64 zk, .int .i64 zp, .int .i64 zd, .int .i64 zi, .int .i64 zq, .int .i64 zr] 31) wx))
  case first =>
    refine wp_region_phi 5 [14, 15, 16, 17, 18] (fun X => Below w1.heap.size w1 X) (herL [isV (.agg #[.int .i64 l, .int .i64 a, .int .i64 d, .int .i64 t, .int .i64 s, .int .i64 p, .slice b q.length c]), isSrc l a d t s p q, isV (.agg #[.int .i64 zk, .int .i64 zp, .int .i64 zd, .int .i64 zi, .int .i64 zq, .int .i64 zr]), isV (.agg #[.int .i64 zk, .int .i64 zp, .int .i64 zd, .int .i64 zi, .int .i64 zq, .int .i64 zr]), isV (.bool R)]) (by kernel_rfl) (by kernel_rfl) (by kernel_rfl) (herL_keep _) (fun X Y h hb => h.trans (hb.mono h.size)) ((Below.refl _ _).drew) ?steps ?fin
    case steps =>
      refine PhSteps.cons ?s0 (PhSteps.cons ?s1 (PhSteps.cons ?s2 (PhSteps.cons ?s3 (PhSteps.cons ?s4 (PhSteps.nil)))))
      case s0 =>
        intro v f a X hat hS hv haf K hK
        have ev := hat.old 2 (fun k hk => absurd (List.mem_of_getElem? hk) (by decide))
        obtain ⟨tm, df⟩ := a
        have c0 := cell_of_row X w.heap.size 0 _ _ _ (blk_bel HX.out.box hS)
        have c1 := cell_of_row X w.heap.size 1 _ _ _ (blk_bel HX.out.box hS)
        have c2 := cell_of_row X w.heap.size 2 _ _ _ (blk_bel HX.out.box hS)
        have c3 := cell_of_row X w.heap.size 3 _ _ _ (blk_bel HX.out.box hS)
        have c4 := cell_of_row X w.heap.size 4 _ _ _ (blk_bel HX.out.box hS)
        have c5 := cell_of_row X w.heap.size 5 _ _ _ (blk_bel HX.out.box hS)
        have c6 := cell_of_row X w.heap.size 6 _ _ _ (blk_bel HX.out.box hS)
        go_simp
        exact hK.out _ _ (show _ = _ from rfl) (Below.refl _ _)
      case s1 =>
        intro v f a X hat hS hv haf K hK
        have f0 := ph_haf haf 0 (by kernel_rfl)
        have ev0 := hat.done 0 14 f0 rfl
        have h0 := hv 0 f0
        rw [show v 0 = _ from h0] at ev0
        obtain ⟨tm, df⟩ := a
        go_simp
        refine Calls.mono (HTS.out b c _ (HZ.out.below (HX.out.bel.trans (hS.mono HX.out.bel.size)) (Nat.le_refl _))) ?_
        rintro e Y ⟨g, rfl, ho, hb⟩
        exact hK.out _ _ (⟨_, _, rfl, lies_own ho, Nat.le_refl _, by intro h; cases h⟩) hb
      case s2 =>
        intro v f a X hat hS hv haf K hK
        have ev := hat.old 3 (fun k hk => absurd (List.mem_of_getElem? hk) (by decide))
        obtain ⟨tm, df⟩ := a
        have c0 := cell_of_row X (w.heap.size + 1) 0 _ _ _ (blk_bel HX.out.box2 hS)
        have c1 := cell_of_row X (w.heap.size + 1) 1 _ _ _ (blk_bel HX.out.box2 hS)
        have c2 := cell_of_row X (w.heap.size + 1) 2 _ _ _ (blk_bel HX.out.box2 hS)
        have c3 := cell_of_row X (w.heap.size + 1) 3 _ _ _ (blk_bel HX.out.box2 hS)
        have c4 := cell_of_row X (w.heap.size + 1) 4 _ _ _ (blk_bel HX.out.box2 hS)
        have c5 := cell_of_row X (w.heap.size + 1) 5 _ _ _ (blk_bel HX.out.box2 hS)
        go_simp
        exact hK.out _ _ (show _ = _ from rfl) (Below.refl _ _)
      case s3 =>
        intro v f a X hat hS hv haf K hK
        have f0 := ph_haf haf 2 (by kernel_rfl)
        have ev0 := hat.done 2 16 f0 rfl
        have h0 := hv 2 f0
        rw [show v 2 = _ from h0] at ev0
        obtain ⟨tm, df⟩ := a
        go_simp
        refine Calls.mono (HTT.out _) ?_
        rintro e Y ⟨rfl, hb⟩
        exact hK.out _ _ (show _ = _ from rfl) hb
      case s4 =>
        intro v f a X hat hS hv haf K hK
        have f0 := ph_haf haf 1 (by kernel_rfl)
        have ev0 := hat.done 1 15 f0 rfl
        obtain ⟨b0, c0, h0, l0, ft0⟩ := hv 1 f0
        rw [h0] at ev0
        have f1 := ph_haf haf 3 (by kernel_rfl)
        have ev1 := hat.done 3 17 f1 rfl
        have h1 := hv 3 f1
        rw [show v 3 = _ from h1] at ev1
        obtain ⟨tm, df⟩ := a
        go_simp
        refine Calls.mono (HS.out b0 c0 _ l0) ?_
        rintro e Y ⟨rfl, hb⟩
        exact hK.out _ _ (show _ = _ from rfl) hb
    case fin =>
      intro v X hX hv
      have r0 := hv 4 (by decide)
      simp only [phAll, Act.put, List.setIfInBounds_toArray, List.set_cons_zero, List.set_cons_succ]
      rw [show v 4 = _ from r0]
      simp only [phTail, List.drop_succ_cons, List.drop_zero]
      go_wp2_with fail
      go_meet
      exact ⟨rfl, Lib.hid (HX.out.to hX)⟩
  case rest =>
  obtain ⟨rfl, HX⟩ := hcut
  have c0 := cell_of_row wc w.heap.size 0 _ _ _ HX.out.box
  have c1 := cell_of_row wc w.heap.size 1 _ _ _ HX.out.box
  have c2 := cell_of_row wc w.heap.size 2 _ _ _ HX.out.box
  have c3 := cell_of_row wc w.heap.size 3 _ _ _ HX.out.box
  have c4 := cell_of_row wc w.heap.size 4 _ _ _ HX.out.box
  have c5 := cell_of_row wc w.heap.size 5 _ _ _ HX.out.box
  have c6 := cell_of_row wc w.heap.size 6 _ _ _ HX.out.box
  go_wp2_with fail
  refine Calls.mono (HTS.out b c _ (HZ.out.below HX.out.bel (Nat.le_refl _))) ?_
  rintro e w2 ⟨g1, rfl, ho, hb⟩
  have HX := Lib.hid (HX.out.to hb)
  have HO1 := Lib.hid ho
  clear hb ho c0 c1 c2 c3 c4 c5 c6
  go_upto_region 7 with (fail)
  have HB1 := Lib.hid (heap_alloc_new w2 (.cells #[.int .i64 l, .int .i64 a, .int .i64 d, .int .i64 t, .int .i64 s, .int .i64 p, .slice (some ⟨g1, 0, none⟩) q.length q.length] 24))
  have HX := Lib.hid (HX.out.to (dbox w2 (.cells #[.int .i64 l, .int .i64 a, .int .i64 d, .int .i64 t, .int .i64 s, .int .i64 p, .slice (some ⟨g1, 0, none⟩) q.length q.length] 24)))
  have HO1 := Lib.hid (own_bl HO1.out (dbox w2 (.cells #[.int .i64 l, .int .i64 a, .int .i64 d, .int .i64 t, .int .i64 s, .int .i64 p, .slice (some ⟨g1, 0, none⟩) q.length q.length] 24)))
  have hlt : w2.heap.size < (w2.alloc (.cells #[.int .i64 l, .int .i64 a, .int .i64 d, .int .i64 t, .int .i64 s, .int .i64 p, .slice (some ⟨g1, 0, none⟩) q.length q.length] 24)).heap.size := by simp
  generalize w2.alloc (.cells #[.int .i64 l, .int .i64 a, .int .i64 d, .int .i64 t, .int .i64 s, .int .i64 p, .slice (some ⟨g1, 0, none⟩) q.length q.length] 24) = W3 at *
  go_cut [8] (fun s8 wx => s8 = .bool R ∧ Hid (Bx2 w (.cells #[.int .i64 l, .int .i64 a, .int .i64 d, .int .i64 t, .int .i64 s, .int .i64 p, .slice b q.length c] 29) (.cells #[.int .i64 zk, .int .i64 zp, .int .i64 zd, .int .i64 zi, .int .i64 zq, .int .i64 zr] 31) wx ∧ wx.heap[w2.heap.size]? = some (.cells #[.int .i64 l, .int .i64 a, .int .i64 d, .int .i64 t, .int .i64 s, .int .i64 p, .slice (some ⟨g1, 0, none⟩) q.length q.length] 24) ∧ Lies wx (some ⟨g1, 0, none⟩) (kC q)))
  case first =>
    refine wp_region_phi 4 [21, 22, 23, 24] (fun X => Below W3.heap.size W3 X) (herL [isV (.agg #[.int .i64 l, .int .i64 a, .int .i64 d, .int .i64 t, .int .i64 s, .int .i64 p, .slice (some ⟨g1, 0, none⟩) q.length q.length]), isV (.agg #[.int .i64 zk, .int .i64 zp, .int .i64 zd, .int .i64 zi, .int .i64 zq, .int .i64 zr]), isV (.agg #[.int .i64 zk, .int .i64 zp, .int .i64 zd, .int .i64 zi, .int .i64 zq, .int .i64 zr]), isV (.bool R)]) (by kernel_rfl) (by kernel_rfl) (by kernel_rfl) (herL_keep _) (fun X Y h hb => h.trans (hb.mono h.size)) ((Below.refl _ _).drew) ?steps ?fin
    case steps =>
      refine PhSteps.cons ?s0 (PhSteps.cons ?s1 (PhSteps.cons ?s2 (PhSteps.cons ?s3 (PhSteps.nil))))
      case s0 =>
        intro v f a X hat hS hv haf K hK
        have ev := hat.old 7 (fun k hk => absurd (List.mem_of_getElem? hk) (by decide))
        obtain ⟨tm, df⟩ := a
        have c0 := cell_of_row X w2.heap.size 0 _ _ _ (blk_bel HB1.out hS)
        have c1 := cell_of_row X w2.heap.size 1 _ _ _ (blk_bel HB1.out hS)
        have c2 := cell_of_row X w2.heap.size 2 _ _ _ (blk_bel HB1.out hS)
        have c3 := cell_of_row X w2.heap.size 3 _ _ _ (blk_bel HB1.out hS)
        have c4 := cell_of_row X w2.heap.size 4 _ _ _ (blk_bel HB1.out hS)
        have c5 := cell_of_row X w2.heap.size 5 _ _ _ (blk_bel HB1.out hS)
        have c6 := cell_of_row X w2.heap.size 6 _ _ _ (blk_bel HB1.out hS)
        go_simp
        exact hK.out _ _ (show _ = _ from rfl) (Below.refl _ _)
      case s1 =>
        intro v f a X hat hS hv haf K hK
        have ev := hat.old 3 (fun k hk => absurd (List.mem_of_getElem? hk) (by decide))
        obtain ⟨tm, df⟩ := a
        have c0 := cell_of_row X (w.heap.size + 1) 0 _ _ _ (blk_bel HX.out.box2 hS)
        have c1 := cell_of_row X (w.heap.size + 1) 1 _ _ _ (blk_bel HX.out.box2 hS)
        have c2 := cell_of_row X (w.heap.size + 1) 2 _ _ _ (blk_bel HX.out.box2 hS)
        have c3 := cell_of_row X (w.heap.size + 1) 3 _ _ _ (blk_bel HX.out.box2 hS)
        have c4 := cell_of_row X (w.heap.size + 1) 4 _ _ _ (blk_bel HX.out.box2 hS)
        have c5 := cell_of_row X (w.heap.size + 1) 5 _ _ _ (blk_bel HX.out.box2 hS)
        go_simp
        exact hK.out _ _ (show _ = _ from rfl) (Below.refl _ _)
      case s2 =>
        intro v f a X hat hS hv haf K hK
        have f0 := ph_haf haf 1 (by kernel_rfl)
        have ev0 := hat.done 1 22 f0 rfl
        have h0 := hv 1 f0
        rw [show v 1 = _ from h0] at ev0
        obtain ⟨tm, df⟩ := a
        go_simp
        refine Calls.mono (HTT.out _) ?_
        rintro e Y ⟨rfl, hb⟩
        exact hK.out _ _ (show _ = _ from rfl) hb
      case s3 =>
        intro v f a X hat hS hv haf K hK
        have f0 := ph_haf haf 0 (by kernel_rfl)
        have ev0 := hat.done 0 21 f0 rfl
        have h0 := hv 0 f0
        rw [show v 0 = _ from h0] at ev0
        have f1 := ph_haf haf 2 (by kernel_rfl)
        have ev1 := hat.done 2 23 f1 rfl
        have h1 := hv 2 f1
        rw [show v 2 = _ from h1] at ev1
        obtain ⟨tm, df⟩ := a
        go_simp
        refine Calls.mono (HI.out (some ⟨g1, 0, none⟩) q.length _ ((lies_own HO1.out).below hS (Nat.le_refl _))) ?_
        rintro e Y ⟨rfl, hb⟩
        exact hK.out _ _ (show _ = _ from rfl) hb
    case fin =>
      intro v X hX hv
      have r0 := hv 3 (by decide)
      simp only [phAll, Act.put, List.setIfInBounds_toArray, List.set_cons_zero, List.set_cons_succ]
      rw [show v 3 = _ from r0]
      simp only [phTail, List.drop_succ_cons, List.drop_zero]
      go_wp2_with fail
      go_meet
      exact ⟨rfl, Lib.hid ⟨HX.out.to hX, blk_bel HB1.out hX, (lies_own HO1.out).below hX (Nat.le_refl _)⟩⟩
  case rest =>
  obtain ⟨rfl, hc⟩ := hcut
  have HX := Lib.hid hc.out.1
  have HB1 := Lib.hid hc.out.2.1
  have HL1 := Lib.hid hc.out.2.2
  clear hc HO1 hlt
  have hR : (R != R) = false := by simp
  go_upto_region 10 with (fail)
  go_cut [32] (fun s32 wx => s32 = .bool false ∧ Hid (Bx2 w (.cells #[.int .i64 l, .int .i64 a, .int .i64 d, .int .i64 t, .int .i64 s, .int .i64 p, .slice b q.length c] 29) (.cells #[.int .i64 zk, .int .i64 zp, .int .i64 zd, .int .i64 zi, .int .i64 zq, .int .i64 zr] 31) wx))
  case first =>
    refine wp_region_phi 4 [28, 29, 30, 31] (fun X => Below wc.heap.size wc X) (herL [isV (.agg #[.int .i64 l, .int .i64 a, .int .i64 d, .int .i64 t, .int .i64 s, .int .i64 p, .slice (some ⟨g1, 0, none⟩) q.length q.length]), isV (.agg #[.int .i64 l, .int .i64 a, .int .i64 d, .int .i64 t, .int .i64 s, .int .i64 p, .slice b q.length c]), isSrc l a d t s p q, isV (.bool true)]) (by kernel_rfl) (by kernel_rfl) (by kernel_rfl) (herL_keep _) (fun X Y h hb => h.trans (hb.mono h.size)) ((Below.refl _ _).drew) ?steps ?fin
    case steps =>
      refine PhSteps.cons ?s0 (PhSteps.cons ?s1 (PhSteps.cons ?s2 (PhSteps.cons ?s3 (PhSteps.nil))))
      case s0 =>
        intro v f a X hat hS hv haf K hK
        have ev := hat.old 7 (fun k hk => absurd (List.mem_of_getElem? hk) (by decide))
        obtain ⟨tm, df⟩ := a
        have c0 := cell_of_row X w2.heap.size 0 _ _ _ (blk_bel HB1.out hS)
        have c1 := cell_of_row X w2.heap.size 1 _ _ _ (blk_bel HB1.out hS)
        have c2 := cell_of_row X w2.heap.size 2 _ _ _ (blk_bel HB1.out hS)
        have c3 := cell_of_row X w2.heap.size 3 _ _ _ (blk_bel HB1.out hS)
        have c4 := cell_of_row X w2.heap.size 4 _ _ _ (blk_bel HB1.out hS)
        have c5 := cell_of_row X w2.heap.size 5 _ _ _ (blk_bel HB1.out hS)
        have c6 := cell_of_row X w2.heap.size 6 _ _ _ (blk_bel HB1.out hS)
        go_simp
        exact hK.out _ _ (show _ = _ from rfl) (Below.refl _ _)
      case s1 =>
        intro v f a X hat hS hv haf K hK
        have ev := hat.old 2 (fun k hk => absurd (List.mem_of_getElem? hk) (by decide))
        obtain ⟨tm, df⟩ := a
        have c0 := cell_of_row X w.heap.size 0 _ _ _ (blk_bel HX.out.box hS)
        have c1 := cell_of_row X w.heap.size 1 _ _ _ (blk_bel HX.out.box hS)
        have c2 := cell_of_row X w.heap.size 2 _ _ _ (blk_bel HX.out.box hS)
        have c3 := cell_of_row X w.heap.size 3 _ _ _ (blk_bel HX.out.box hS)
        have c4 := cell_of_row X w.heap.size 4 _ _ _ (blk_bel HX.out.box hS)
        have c5 := cell_of_row X w.heap.size 5 _ _ _ (blk_bel HX.out.box hS)
        have c6 := cell_of_row X w.heap.size 6 _ _ _ (blk_bel HX.out.box hS)
        go_simp
        exact hK.out _ _ (show _ = _ from rfl) (Below.refl _ _)
      case s2 =>
        intro v f a X hat hS hv haf K hK
        have f0 := ph_haf haf 1 (by kernel_rfl)
        have ev0 := hat.done 1 29 f0 rfl
        have h0 := hv 1 f0
        rw [show v 1 = _ from h0] at ev0
        obtain ⟨tm, df⟩ := a
        go_simp
        refine Calls.mono (HTS.out b c _ (HZ.out.below (HX.out.bel.trans (hS.mono HX.out.bel.size)) (Nat.le_refl _))) ?_
        rintro e Y ⟨g, rfl, ho, hb⟩
        exact hK.out _ _ (⟨_, _, rfl, lies_own ho, Nat.le_refl _, by intro h; cases h⟩) hb
      case s3 =>
        intro v f a X hat hS hv haf K hK
        have f0 := ph_haf haf 0 (by kernel_rfl)
        have ev0 := hat.done 0 28 f0 rfl
        have h0 := hv 0 f0
        rw [show v 0 = _ from h0] at ev0
        have f1 := ph_haf haf 2 (by kernel_rfl)
        have ev1 := hat.done 2 30 f1 rfl
        obtain ⟨b1, c1, h1, l1, ft1⟩ := hv 2 f1
        rw [h1] at ev1
        obtain ⟨tm, df⟩ := a
        go_simp
        refine Calls.mono (HEQ.out (some ⟨g1, 0, none⟩) b1 q.length c1 _ (HL1.out.below hS (Nat.le_refl _)) l1) ?_
        rintro e Y ⟨rfl, hb⟩
        exact hK.out _ _ (show _ = _ from rfl) hb
    case fin =>
      intro v X hX hv
      have r0 := hv 3 (by decide)
      simp only [phAll, Act.put, List.setIfInBounds_toArray, List.set_cons_zero, List.set_cons_succ]
      rw [show v 3 = _ from r0]
      simp only [phTail, List.drop_succ_cons, List.drop_zero]
      go_wp2_with fail
      go_meet
      exact ⟨rfl, Lib.hid (HX.out.to hX)⟩
  case rest =>
  obtain ⟨rfl, HX⟩ := hcut
  go_wp2
  go_ret
  exact ⟨rfl, HX.out.bel⟩
theorem FnExactSourceOK_came (cs ds : Array Value) (W : World) (h : Came Try.prog W 29 cs.toList) (g : Came Try.prog W 31 ds.toList) : Calls Try.prog 4 #[.agg cs, .agg ds] W fun e w' => e = .returned (.bool true) ∧ Below W.heap.size W w' := by
  obtain ⟨x, b, c, e, hz, hm⟩ := came_src h
  obtain ⟨z, e'⟩ := came_tsk g
  rw [e, e']
  exact FnExactSourceOK_walk x.l x.a x.d x.t x.s x.p x.q z.k z.p z.d z.i z.q z.r b c hm W hz
end Go.Proofs.Ytgbnoaclklbjbaa
