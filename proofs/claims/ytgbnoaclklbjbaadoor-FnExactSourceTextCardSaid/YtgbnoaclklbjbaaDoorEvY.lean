/- The law SourceText. (Written by tools/gen_evl.py.) -/
import Derived.Test.YtgbnoaclklbjbaaDoorEvX
import Derived.Test.YtgbnoaclklbjbaaDoorPhi
import Derived.Deep.DeepCutAuto
namespace Go.Proofs.YtgbnoaclklbjbaaDoor
open Go.ChangeShapes Go.WideShapes Go.ChangeAt Go.RowKit
set_option linter.unusedVariables false
def Fits (b : Option Addr) (n c : Nat) : Prop := n ≤ c ∧ (b = none → c = 0)
/-- A source whose queue can be read. -/
def isSrc (l a d t s p : Int) (q : List Int) : HerP := ⟨fun v X => ∃ b c, v = .agg #[.int .i64 l, .int .i64 a, .int .i64 d, .int .i64 t, .int .i64 s, .int .i64 p, .slice b q.length c] ∧ Lies X b (kC q) ∧ Fits b q.length c, fun _ _ _ ⟨b, c, h1, h2, h3⟩ hb => ⟨b, c, h1, h2.below hb (Nat.le_refl _), h3⟩⟩
theorem toS_ph (l a d t s p : Int) (q : List Int) (b : Option Addr) (c : Nat) (hn : q.length ≤ 1048576) (w : World) (hz : Lies w b (kC q)) : Calls Tryd.prog 7 #[.agg #[.int .i64 l, .int .i64 a, .int .i64 d, .int .i64 t, .int .i64 s, .int .i64 p, .slice b q.length c]] w fun e w' => ∃ g, e = .returned (.agg #[.int .i64 l, .int .i64 a, .int .i64 d, .int .i64 t, .int .i64 s, .int .i64 p, .slice (some ⟨g, 0, none⟩) q.length q.length]) ∧ w'.ownsRow w.heap.size 3 1 (.slice (some ⟨g, 0, none⟩) q.length q.length) q.length (kC q) ∧ Below w.heap.size w w' :=
  toSource_any ⟨l, a, d, t, s, p, q⟩ b c hn w hz
theorem toT_ph (zk zp zd zi zq zr : Int) (w : World) : Calls Tryd.prog 8 #[.agg #[.int .i64 zk, .int .i64 zp, .int .i64 zd, .int .i64 zi, .int .i64 zq, .int .i64 zr]] w fun e w' => e = .returned (.agg #[.int .i64 zk, .int .i64 zp, .int .i64 zd, .int .i64 zi, .int .i64 zq, .int .i64 zr]) ∧ Below w.heap.size w w' := toTask_cp ⟨zk, zp, zd, zi, zq, zr⟩ w
theorem eqS_ph (l a d t s p : Int) (q : List Int) (b b' : Option Addr) (c c' : Nat) (hn : q.length ≤ 1048576) (w : World) (hz : Lies w b (kC q)) (hy : Lies w b' (kC q)) : Calls Tryd.prog 10 #[.agg #[.int .i64 l, .int .i64 a, .int .i64 d, .int .i64 t, .int .i64 s, .int .i64 p, .slice b q.length c], .agg #[.int .i64 l, .int .i64 a, .int .i64 d, .int .i64 t, .int .i64 s, .int .i64 p, .slice b' q.length c']] w fun e w' => e = .returned (.bool true) ∧ Below w.heap.size w w' := eqSource_same ⟨l, a, d, t, s, p, q⟩ b b' c c' hn w hz hy
theorem came_tsk {W : World} {cs : Array Value} (h : Came Tryd.prog W 26 cs.toList) : ∃ z : TT, Value.agg cs = tV z := by
  obtain ⟨z, e⟩ := came_tt h
  refine ⟨z, ?_⟩
  obtain ⟨l⟩ := cs
  simp only at e
  rw [e]
  rfl
set_option maxRecDepth 100000 in
set_option maxHeartbeats 1000000 in
theorem FnExactSourceText_walk (l a d t s p : Int) (q : List Int) (zk zp zd zi zq zr : Int) (b : Option Addr) (c : Nat) (hm : q.length ≤ maxLen) (w : World) (hz : Lies w b (kC q)) (hP : Pow10 w) :
    Calls Tryd.prog 3 #[.agg #[.int .i64 l, .int .i64 a, .int .i64 d, .int .i64 t, .int .i64 s, .int .i64 p, .slice b q.length c], .agg #[.int .i64 zk, .int .i64 zp, .int .i64 zd, .int .i64 zi, .int .i64 zq, .int .i64 zr]] w fun e w' => e = .returned (.bool true) ∧ Below w.heap.size w w' := by
  have HX := Lib.hid (Bx2.start w (.cells #[.int .i64 l, .int .i64 a, .int .i64 d, .int .i64 t, .int .i64 s, .int .i64 p, .slice b q.length c] 24) (.cells #[.int .i64 zk, .int .i64 zp, .int .i64 zd, .int .i64 zi, .int .i64 zq, .int .i64 zr] 26))
  have HZ := Lib.hid hz
  have HSZ := Lib.hid (fun X => szSource_any ⟨l, a, d, t, s, p, q⟩ b c hm X)
  have HSZ : Hid (∀ X, Calls Tryd.prog 5 #[.agg #[.int .i64 l, .int .i64 a, .int .i64 d, .int .i64 t, .int .i64 s, .int .i64 p, .slice b q.length c], .int .i64 1048576] X fun e w' => Below X.heap.size X w' ∧ ∃ r : Int, e = .returned (.int .i64 r) ∧ (r = -1 ∨ (0 ≤ r ∧ q.length ≤ 1048576))) := HSZ
  have HS := Lib.hid (fun b c w hz => specSourceText_any ⟨l, a, d, t, s, p, q⟩ ⟨zk, zp, zd, zi, zq, zr⟩ b c hm w hz)
  have HI := Lib.hid (fun b c w hz hp => sourceText_any ⟨l, a, d, t, s, p, q⟩ ⟨zk, zp, zd, zi, zq, zr⟩ b c hm w hz hp)
  have HP := Lib.hid hP
  generalize srcF ⟨l, a, d, t, s, p, q⟩ ⟨zk, zp, zd, zi, zq, zr⟩ = R at *
  obtain ⟨k0, k2⟩ := R
  obtain ⟨k1, hk1⟩ : ∃ k1 : ByteArray, k1 = ⟨k0.toArray⟩ := ⟨_, rfl⟩
  have HS : Hid (∀ b c w, Lies w b (kC q) → Calls Tryd.prog 6 #[.agg #[.int .i64 l, .int .i64 a, .int .i64 d, .int .i64 t, .int .i64 s, .int .i64 p, .slice b q.length c], .agg #[.int .i64 zk, .int .i64 zp, .int .i64 zd, .int .i64 zi, .int .i64 zq, .int .i64 zr]] w fun e w' => e = .returned (.tuple #[.string k1, .int .i64 k2]) ∧ Below w.heap.size w w') := Lib.hid (fun b c w hz => hk1 ▸ HS.out b c w hz)
  have HI : Hid (∀ b c w, Lies w b (kC q) → Pow10 w → Calls Tryd.prog 9 #[.agg #[.int .i64 l, .int .i64 a, .int .i64 d, .int .i64 t, .int .i64 s, .int .i64 p, .slice b q.length c], .agg #[.int .i64 zk, .int .i64 zp, .int .i64 zd, .int .i64 zi, .int .i64 zq, .int .i64 zr]] w fun e w' => e = .returned (.tuple #[.string k1, .int .i64 k2]) ∧ Below w.heap.size w w') := Lib.hid (fun b c w hz hp => hk1 ▸ HI.out b c w hz hp)
  have n2 : (k2 != k2) = false := by simp
  clear hk1 hP
  clear hz
  go_enter Tryd.func3, Tryd.ntmps3
  go_upto_region 2 with (fail)
  generalize (w.alloc (.cells #[.int .i64 l, .int .i64 a, .int .i64 d, .int .i64 t, .int .i64 s, .int .i64 p, .slice b q.length c] 24)).alloc (.cells #[.int .i64 zk, .int .i64 zp, .int .i64 zd, .int .i64 zi, .int .i64 zq, .int .i64 zr] 26) = W0 at *
  have c0 := cell_of_row W0 w.heap.size 0 _ _ _ HX.out.box
  have c1 := cell_of_row W0 w.heap.size 1 _ _ _ HX.out.box
  have c2 := cell_of_row W0 w.heap.size 2 _ _ _ HX.out.box
  have c3 := cell_of_row W0 w.heap.size 3 _ _ _ HX.out.box
  have c4 := cell_of_row W0 w.heap.size 4 _ _ _ HX.out.box
  have c5 := cell_of_row W0 w.heap.size 5 _ _ _ HX.out.box
  have c6 := cell_of_row W0 w.heap.size 6 _ _ _ HX.out.box
  go_wp2_with fail
  refine Calls.mono (HSZ.out _) ?_
  rintro e w1 ⟨hb, r, rfl, hr⟩
  have HX := Lib.hid (HX.out.to hb)
  clear hb HSZ c0 c1 c2 c3 c4 c5 c6
  by_cases hr0 : r < 0
  · clear hr
    go_wp2
    go_ret
    exact ⟨rfl, HX.out.bel⟩
  have hn : q.length ≤ 1048576 := by omega
  have HTS := Lib.hid (fun b c w hz => toS_ph l a d t s p q b c hn w hz)
  have HTT := Lib.hid (fun w => toT_ph zk zp zd zi zq zr w)
  have HEQ := Lib.hid (fun b b' c c' w hz hy => eqS_ph l a d t s p q b b' c c' hn w hz hy)
  clear hr
  go_upto_region 5 with (fail)
  go_cut [6, 7] (fun sA sB wx => sA = .string k1 ∧ sB = .int .i64 k2 ∧ Hid (Bx2 w (.cells #[.int .i64 l, .int .i64 a, .int .i64 d, .int .i64 t, .int .i64 s, .int .i64 p, .slice b q.length c] 24) (.cells #[.int .i64 zk, .int .i64 zp, .int .i64 zd, .int .i64 zi, .int .i64 zq, .int .i64 zr] 26) wx))
  case first =>
    refine wp_region_phj 10 [some 17, some 18, some 19, some 20, some 21, some 16, some 22, some 23, some 6, some 7] (fun X => Below w1.heap.size w1 X) (herQ [atK 0 (isV (.agg #[.int .i64 l, .int .i64 a, .int .i64 d, .int .i64 t, .int .i64 s, .int .i64 p, .slice b q.length c])), atK 1 (isSrc l a d t s p q), atK 2 (isV (.agg #[.int .i64 zk, .int .i64 zp, .int .i64 zd, .int .i64 zi, .int .i64 zq, .int .i64 zr])), atK 3 (isV (.agg #[.int .i64 zk, .int .i64 zp, .int .i64 zd, .int .i64 zi, .int .i64 zq, .int .i64 zr])), atK 4 (isV (.tuple #[.string k1, .int .i64 k2])), atK 5 (isV (.tuple #[.string k1, .int .i64 k2])), atK 6 (isV (.string k1)), atK 7 (isV (.int .i64 k2)), atK 8 (isV (.string k1)), atK 9 (isV (.int .i64 k2))]) (herD [atK 0 (isV (.agg #[.int .i64 l, .int .i64 a, .int .i64 d, .int .i64 t, .int .i64 s, .int .i64 p, .slice b q.length c])), atK 1 (isSrc l a d t s p q), atK 2 (isV (.agg #[.int .i64 zk, .int .i64 zp, .int .i64 zd, .int .i64 zi, .int .i64 zq, .int .i64 zr])), atK 3 (isV (.agg #[.int .i64 zk, .int .i64 zp, .int .i64 zd, .int .i64 zi, .int .i64 zq, .int .i64 zr])), atK 4 (isV (.tuple #[.string k1, .int .i64 k2])), atK 5 (isV (.tuple #[.string k1, .int .i64 k2])), atK 6 (isV (.string k1)), atK 7 (isV (.int .i64 k2)), atK 8 (isV (.string k1)), atK 9 (isV (.int .i64 k2))]) (by kernel_rfl) (by kernel_rfl) (by kernel_rfl) (Below.refl _ _).drew ?steps ?fin
    case steps =>
      refine PjSteps.cons ?s0 (PjSteps.cons ?s1 (PjSteps.cons ?s2 (PjSteps.cons ?s3 (PjSteps.cons ?s4 (PjSteps.cons ?s5 (PjSteps.cons ?s6 (PjSteps.cons ?s7 (PjSteps.cons ?s8 (PjSteps.cons ?s9 (PjSteps.nil))))))))))
      case s0 =>
        intro v f a X hat hS hv hnk hcl haf K hK
        have ev := hat.old 2 (fun k hk => absurd (List.mem_of_getElem? hk) (by decide))
        obtain ⟨tm, df⟩ := a
        have c0 := cell_of_row X w.heap.size 0 _ _ _ (blk_bel HX.out.box hS)
        have c1 := cell_of_row X w.heap.size 1 _ _ _ (blk_bel HX.out.box hS)
        have c2 := cell_of_row X w.heap.size 2 _ _ _ (blk_bel HX.out.box hS)
        have c3 := cell_of_row X w.heap.size 3 _ _ _ (blk_bel HX.out.box hS)
        have c4 := cell_of_row X w.heap.size 4 _ _ _ (blk_bel HX.out.box hS)
        have c5 := cell_of_row X w.heap.size 5 _ _ _ (blk_bel HX.out.box hS)
        have c6 := cell_of_row X w.heap.size 6 _ _ _ (blk_bel HX.out.box hS)
        go_simp
        exact hK.out _ _ (herQ_at rfl (show _ = _ from rfl)) (herQ_same hv hnk hcl _) hS
      case s1 =>
        intro v f a X hat hS hv hnk hcl haf K hK
        have f0 := ph_haf haf 0 (by kernel_rfl)
        have ev0 := hat.done 0 17 f0 rfl
        have h0 := hv 0 f0
        rw [show v 0 = _ from h0] at ev0
        obtain ⟨tm, df⟩ := a
        go_simp
        refine Calls.mono (HTS.out b c _ (HZ.out.below (HX.out.bel.trans (hS.mono HX.out.bel.size)) (Nat.le_refl _))) ?_
        rintro e Y ⟨g, rfl, ho, hb⟩
        exact hK.out _ _ (herQ_at rfl (⟨_, _, rfl, lies_own ho, Nat.le_refl _, by intro h; cases h⟩)) (herQ_keep hv hnk hcl hb _) (hS.trans (hb.mono hS.size))
      case s2 =>
        intro v f a X hat hS hv hnk hcl haf K hK
        have ev := hat.old 3 (fun k hk => absurd (List.mem_of_getElem? hk) (by decide))
        obtain ⟨tm, df⟩ := a
        have c0 := cell_of_row X (w.heap.size + 1) 0 _ _ _ (blk_bel HX.out.box2 hS)
        have c1 := cell_of_row X (w.heap.size + 1) 1 _ _ _ (blk_bel HX.out.box2 hS)
        have c2 := cell_of_row X (w.heap.size + 1) 2 _ _ _ (blk_bel HX.out.box2 hS)
        have c3 := cell_of_row X (w.heap.size + 1) 3 _ _ _ (blk_bel HX.out.box2 hS)
        have c4 := cell_of_row X (w.heap.size + 1) 4 _ _ _ (blk_bel HX.out.box2 hS)
        have c5 := cell_of_row X (w.heap.size + 1) 5 _ _ _ (blk_bel HX.out.box2 hS)
        go_simp
        exact hK.out _ _ (herQ_at rfl (show _ = _ from rfl)) (herQ_same hv hnk hcl _) hS
      case s3 =>
        intro v f a X hat hS hv hnk hcl haf K hK
        have f0 := ph_haf haf 2 (by kernel_rfl)
        have ev0 := hat.done 2 19 f0 rfl
        have h0 := hv 2 f0
        rw [show v 2 = _ from h0] at ev0
        obtain ⟨tm, df⟩ := a
        go_simp
        refine Calls.mono (HTT.out _) ?_
        rintro e Y ⟨rfl, hb⟩
        exact hK.out _ _ (herQ_at rfl (show _ = _ from rfl)) (herQ_keep hv hnk hcl hb _) (hS.trans (hb.mono hS.size))
      case s4 =>
        intro v f a X hat hS hv hnk hcl haf K hK
        have f0 := ph_haf haf 1 (by kernel_rfl)
        have ev0 := hat.done 1 18 f0 rfl
        obtain ⟨b0, c0, h0, l0, ft0⟩ := hv 1 f0
        rw [h0] at ev0
        have f1 := ph_haf haf 3 (by kernel_rfl)
        have ev1 := hat.done 3 20 f1 rfl
        have h1 := hv 3 f1
        rw [show v 3 = _ from h1] at ev1
        obtain ⟨tm, df⟩ := a
        go_simp
        refine Calls.mono (HS.out b0 c0 _ l0) ?_
        rintro e Y ⟨rfl, hb⟩
        exact hK.out _ _ (herQ_at rfl (show _ = _ from rfl)) (herQ_keep hv hnk hcl hb _) (hS.trans (hb.mono hS.size))
      case s5 =>
        intro v f a X hat hS hv hnk hcl haf K hK
        have f0 := ph_haf haf 4 (by kernel_rfl)
        have ev0 := hat.done 4 21 f0 rfl
        have h0 := hv 4 f0
        rw [show v 4 = _ from h0] at ev0
        obtain ⟨tm, df⟩ := a
        go_simp
        exact hK.out _ _ (herQ_at rfl (show _ = _ from rfl)) (herQ_same hv hnk hcl _) hS
      case s6 =>
        intro v f a X hat hS hv hnk hcl haf K hK
        have f0 := ph_haf haf 5 (by kernel_rfl)
        have ev0 := hat.done 5 16 f0 rfl
        have h0 := hv 5 f0
        rw [show v 5 = _ from h0] at ev0
        obtain ⟨tm, df⟩ := a
        go_simp
        exact hK.out _ _ (herQ_at rfl (show _ = _ from rfl)) (herQ_same hv hnk hcl _) hS
      case s7 =>
        intro v f a X hat hS hv hnk hcl haf K hK
        have f0 := ph_haf haf 5 (by kernel_rfl)
        have ev0 := hat.done 5 16 f0 rfl
        have h0 := hv 5 f0
        rw [show v 5 = _ from h0] at ev0
        obtain ⟨tm, df⟩ := a
        go_simp
        exact hK.out _ _ (herQ_at rfl (show _ = _ from rfl)) (herQ_same hv hnk hcl _) hS
      case s8 =>
        intro v f a X hat hS hv hnk hcl haf K hK
        have f0 := ph_haf haf 6 (by kernel_rfl)
        have ev0 := hat.done 6 22 f0 rfl
        have h0 := hv 6 f0
        rw [show v 6 = _ from h0] at ev0
        obtain ⟨tm, df⟩ := a
        go_simp
        exact hK.out _ _ (herQ_at rfl (show _ = _ from rfl)) (herQ_same hv hnk hcl _) hS
      case s9 =>
        intro v f a X hat hS hv hnk hcl haf K hK
        have f0 := ph_haf haf 7 (by kernel_rfl)
        have ev0 := hat.done 7 23 f0 rfl
        have h0 := hv 7 f0
        rw [show v 7 = _ from h0] at ev0
        obtain ⟨tm, df⟩ := a
        go_simp
        exact hK.out _ _ (herQ_at rfl (show _ = _ from rfl)) (herQ_same hv hnk hcl _) hS
    case fin =>
      intro v X hX hv
      have r0 := hv 8 (by decide)
      have r1 := hv 9 (by decide)
      simp only [pjAll, Act.put, List.setIfInBounds_toArray, List.set_cons_zero, List.set_cons_succ]
      rw [show v 8 = _ from r0, show v 9 = _ from r1]
      simp only [phTail, List.drop_succ_cons, List.drop_zero]
      go_wp2_with fail
      go_meet
      exact ⟨rfl, rfl, Lib.hid (HX.out.to hX)⟩
  case rest =>
  obtain ⟨rfl, rfl, HX⟩ := hcut
  have c0 := cell_of_row wc w.heap.size 0 _ _ _ HX.out.box
  have c1 := cell_of_row wc w.heap.size 1 _ _ _ HX.out.box
  have c2 := cell_of_row wc w.heap.size 2 _ _ _ HX.out.box
  have c3 := cell_of_row wc w.heap.size 3 _ _ _ HX.out.box
  have c4 := cell_of_row wc w.heap.size 4 _ _ _ HX.out.box
  have c5 := cell_of_row wc w.heap.size 5 _ _ _ HX.out.box
  have c6 := cell_of_row wc w.heap.size 6 _ _ _ HX.out.box
  go_wp2_with fail
  refine Calls.mono (HTS.out b c _ (HZ.out.below HX.out.bel (Nat.le_refl _))) ?_
  rintro e w2 ⟨g1, rfl, ho, hb⟩
  have HX := Lib.hid (HX.out.to hb)
  have HO1 := Lib.hid ho
  clear hb ho c0 c1 c2 c3 c4 c5 c6
  go_upto_region 7 with (fail)
  have HB1 := Lib.hid (heap_alloc_new w2 (.cells #[.int .i64 l, .int .i64 a, .int .i64 d, .int .i64 t, .int .i64 s, .int .i64 p, .slice (some ⟨g1, 0, none⟩) q.length q.length] 30))
  have HX := Lib.hid (HX.out.to (dbox w2 (.cells #[.int .i64 l, .int .i64 a, .int .i64 d, .int .i64 t, .int .i64 s, .int .i64 p, .slice (some ⟨g1, 0, none⟩) q.length q.length] 30)))
  have HO1 := Lib.hid (own_bl HO1.out (dbox w2 (.cells #[.int .i64 l, .int .i64 a, .int .i64 d, .int .i64 t, .int .i64 s, .int .i64 p, .slice (some ⟨g1, 0, none⟩) q.length q.length] 30)))
  have hlt : w2.heap.size < (w2.alloc (.cells #[.int .i64 l, .int .i64 a, .int .i64 d, .int .i64 t, .int .i64 s, .int .i64 p, .slice (some ⟨g1, 0, none⟩) q.length q.length] 30)).heap.size := by simp
  generalize w2.alloc (.cells #[.int .i64 l, .int .i64 a, .int .i64 d, .int .i64 t, .int .i64 s, .int .i64 p, .slice (some ⟨g1, 0, none⟩) q.length q.length] 30) = W3 at *
  go_cut [9, 10] (fun sA sB wx => sA = .string k1 ∧ sB = .int .i64 k2 ∧ Hid (Bx2 w (.cells #[.int .i64 l, .int .i64 a, .int .i64 d, .int .i64 t, .int .i64 s, .int .i64 p, .slice b q.length c] 24) (.cells #[.int .i64 zk, .int .i64 zp, .int .i64 zd, .int .i64 zi, .int .i64 zq, .int .i64 zr] 26) wx ∧ wx.heap[w2.heap.size]? = some (.cells #[.int .i64 l, .int .i64 a, .int .i64 d, .int .i64 t, .int .i64 s, .int .i64 p, .slice (some ⟨g1, 0, none⟩) q.length q.length] 30) ∧ Lies wx (some ⟨g1, 0, none⟩) (kC q)))
  case first =>
    refine wp_region_phj 9 [some 27, some 28, some 29, some 30, some 26, some 31, some 32, some 9, some 10] (fun X => Below W3.heap.size W3 X) (herQ [atK 0 (isV (.agg #[.int .i64 l, .int .i64 a, .int .i64 d, .int .i64 t, .int .i64 s, .int .i64 p, .slice (some ⟨g1, 0, none⟩) q.length q.length])), atK 1 (isV (.agg #[.int .i64 zk, .int .i64 zp, .int .i64 zd, .int .i64 zi, .int .i64 zq, .int .i64 zr])), atK 2 (isV (.agg #[.int .i64 zk, .int .i64 zp, .int .i64 zd, .int .i64 zi, .int .i64 zq, .int .i64 zr])), atK 3 (isV (.tuple #[.string k1, .int .i64 k2])), atK 4 (isV (.tuple #[.string k1, .int .i64 k2])), atK 5 (isV (.string k1)), atK 6 (isV (.int .i64 k2)), atK 7 (isV (.string k1)), atK 8 (isV (.int .i64 k2))]) (herD [atK 0 (isV (.agg #[.int .i64 l, .int .i64 a, .int .i64 d, .int .i64 t, .int .i64 s, .int .i64 p, .slice (some ⟨g1, 0, none⟩) q.length q.length])), atK 1 (isV (.agg #[.int .i64 zk, .int .i64 zp, .int .i64 zd, .int .i64 zi, .int .i64 zq, .int .i64 zr])), atK 2 (isV (.agg #[.int .i64 zk, .int .i64 zp, .int .i64 zd, .int .i64 zi, .int .i64 zq, .int .i64 zr])), atK 3 (isV (.tuple #[.string k1, .int .i64 k2])), atK 4 (isV (.tuple #[.string k1, .int .i64 k2])), atK 5 (isV (.string k1)), atK 6 (isV (.int .i64 k2)), atK 7 (isV (.string k1)), atK 8 (isV (.int .i64 k2))]) (by kernel_rfl) (by kernel_rfl) (by kernel_rfl) (Below.refl _ _).drew ?steps ?fin
    case steps =>
      refine PjSteps.cons ?s0 (PjSteps.cons ?s1 (PjSteps.cons ?s2 (PjSteps.cons ?s3 (PjSteps.cons ?s4 (PjSteps.cons ?s5 (PjSteps.cons ?s6 (PjSteps.cons ?s7 (PjSteps.cons ?s8 (PjSteps.nil)))))))))
      case s0 =>
        intro v f a X hat hS hv hnk hcl haf K hK
        have ev := hat.old 8 (fun k hk => absurd (List.mem_of_getElem? hk) (by decide))
        obtain ⟨tm, df⟩ := a
        have c0 := cell_of_row X w2.heap.size 0 _ _ _ (blk_bel HB1.out hS)
        have c1 := cell_of_row X w2.heap.size 1 _ _ _ (blk_bel HB1.out hS)
        have c2 := cell_of_row X w2.heap.size 2 _ _ _ (blk_bel HB1.out hS)
        have c3 := cell_of_row X w2.heap.size 3 _ _ _ (blk_bel HB1.out hS)
        have c4 := cell_of_row X w2.heap.size 4 _ _ _ (blk_bel HB1.out hS)
        have c5 := cell_of_row X w2.heap.size 5 _ _ _ (blk_bel HB1.out hS)
        have c6 := cell_of_row X w2.heap.size 6 _ _ _ (blk_bel HB1.out hS)
        go_simp
        exact hK.out _ _ (herQ_at rfl (show _ = _ from rfl)) (herQ_same hv hnk hcl _) hS
      case s1 =>
        intro v f a X hat hS hv hnk hcl haf K hK
        have ev := hat.old 3 (fun k hk => absurd (List.mem_of_getElem? hk) (by decide))
        obtain ⟨tm, df⟩ := a
        have c0 := cell_of_row X (w.heap.size + 1) 0 _ _ _ (blk_bel HX.out.box2 hS)
        have c1 := cell_of_row X (w.heap.size + 1) 1 _ _ _ (blk_bel HX.out.box2 hS)
        have c2 := cell_of_row X (w.heap.size + 1) 2 _ _ _ (blk_bel HX.out.box2 hS)
        have c3 := cell_of_row X (w.heap.size + 1) 3 _ _ _ (blk_bel HX.out.box2 hS)
        have c4 := cell_of_row X (w.heap.size + 1) 4 _ _ _ (blk_bel HX.out.box2 hS)
        have c5 := cell_of_row X (w.heap.size + 1) 5 _ _ _ (blk_bel HX.out.box2 hS)
        go_simp
        exact hK.out _ _ (herQ_at rfl (show _ = _ from rfl)) (herQ_same hv hnk hcl _) hS
      case s2 =>
        intro v f a X hat hS hv hnk hcl haf K hK
        have f0 := ph_haf haf 1 (by kernel_rfl)
        have ev0 := hat.done 1 28 f0 rfl
        have h0 := hv 1 f0
        rw [show v 1 = _ from h0] at ev0
        obtain ⟨tm, df⟩ := a
        go_simp
        refine Calls.mono (HTT.out _) ?_
        rintro e Y ⟨rfl, hb⟩
        exact hK.out _ _ (herQ_at rfl (show _ = _ from rfl)) (herQ_keep hv hnk hcl hb _) (hS.trans (hb.mono hS.size))
      case s3 =>
        intro v f a X hat hS hv hnk hcl haf K hK
        have f0 := ph_haf haf 0 (by kernel_rfl)
        have ev0 := hat.done 0 27 f0 rfl
        have h0 := hv 0 f0
        rw [show v 0 = _ from h0] at ev0
        have f1 := ph_haf haf 2 (by kernel_rfl)
        have ev1 := hat.done 2 29 f1 rfl
        have h1 := hv 2 f1
        rw [show v 2 = _ from h1] at ev1
        obtain ⟨tm, df⟩ := a
        go_simp
        refine Calls.mono (HI.out (some ⟨g1, 0, none⟩) q.length _ ((lies_own HO1.out).below hS (Nat.le_refl _)) (HP.out.below (HX.out.bel.trans (hS.mono HX.out.bel.size)) (Nat.le_refl _))) ?_
        rintro e Y ⟨rfl, hb⟩
        exact hK.out _ _ (herQ_at rfl (show _ = _ from rfl)) (herQ_keep hv hnk hcl hb _) (hS.trans (hb.mono hS.size))
      case s4 =>
        intro v f a X hat hS hv hnk hcl haf K hK
        have f0 := ph_haf haf 3 (by kernel_rfl)
        have ev0 := hat.done 3 30 f0 rfl
        have h0 := hv 3 f0
        rw [show v 3 = _ from h0] at ev0
        obtain ⟨tm, df⟩ := a
        go_simp
        exact hK.out _ _ (herQ_at rfl (show _ = _ from rfl)) (herQ_same hv hnk hcl _) hS
      case s5 =>
        intro v f a X hat hS hv hnk hcl haf K hK
        have f0 := ph_haf haf 4 (by kernel_rfl)
        have ev0 := hat.done 4 26 f0 rfl
        have h0 := hv 4 f0
        rw [show v 4 = _ from h0] at ev0
        obtain ⟨tm, df⟩ := a
        go_simp
        exact hK.out _ _ (herQ_at rfl (show _ = _ from rfl)) (herQ_same hv hnk hcl _) hS
      case s6 =>
        intro v f a X hat hS hv hnk hcl haf K hK
        have f0 := ph_haf haf 4 (by kernel_rfl)
        have ev0 := hat.done 4 26 f0 rfl
        have h0 := hv 4 f0
        rw [show v 4 = _ from h0] at ev0
        obtain ⟨tm, df⟩ := a
        go_simp
        exact hK.out _ _ (herQ_at rfl (show _ = _ from rfl)) (herQ_same hv hnk hcl _) hS
      case s7 =>
        intro v f a X hat hS hv hnk hcl haf K hK
        have f0 := ph_haf haf 5 (by kernel_rfl)
        have ev0 := hat.done 5 31 f0 rfl
        have h0 := hv 5 f0
        rw [show v 5 = _ from h0] at ev0
        obtain ⟨tm, df⟩ := a
        go_simp
        exact hK.out _ _ (herQ_at rfl (show _ = _ from rfl)) (herQ_same hv hnk hcl _) hS
      case s8 =>
        intro v f a X hat hS hv hnk hcl haf K hK
        have f0 := ph_haf haf 6 (by kernel_rfl)
        have ev0 := hat.done 6 32 f0 rfl
        have h0 := hv 6 f0
        rw [show v 6 = _ from h0] at ev0
        obtain ⟨tm, df⟩ := a
        go_simp
        exact hK.out _ _ (herQ_at rfl (show _ = _ from rfl)) (herQ_same hv hnk hcl _) hS
    case fin =>
      intro v X hX hv
      have r0 := hv 7 (by decide)
      have r1 := hv 8 (by decide)
      simp only [pjAll, Act.put, List.setIfInBounds_toArray, List.set_cons_zero, List.set_cons_succ]
      rw [show v 7 = _ from r0, show v 8 = _ from r1]
      simp only [phTail, List.drop_succ_cons, List.drop_zero]
      go_wp2_with fail
      go_meet
      exact ⟨rfl, rfl, Lib.hid ⟨HX.out.to hX, blk_bel HB1.out hX, (lies_own HO1.out).below hX (Nat.le_refl _)⟩⟩
  case rest =>
  obtain ⟨rfl, rfl, hc⟩ := hcut
  have HX := Lib.hid hc.out.1
  have HB1 := Lib.hid hc.out.2.1
  have HL1 := Lib.hid hc.out.2.2
  clear hc HO1 hlt
  go_upto_region 10 with (fail)
  go_cut [45] (fun sA wx => sA = .bool false ∧ Hid (Bx2 w (.cells #[.int .i64 l, .int .i64 a, .int .i64 d, .int .i64 t, .int .i64 s, .int .i64 p, .slice b q.length c] 24) (.cells #[.int .i64 zk, .int .i64 zp, .int .i64 zd, .int .i64 zi, .int .i64 zq, .int .i64 zr] 26) wx))
  case first =>
    refine wp_region_phi 4 [41, 42, 43, 44] (fun X => Below wc.heap.size wc X) (herL [isV (.agg #[.int .i64 l, .int .i64 a, .int .i64 d, .int .i64 t, .int .i64 s, .int .i64 p, .slice (some ⟨g1, 0, none⟩) q.length q.length]), isV (.agg #[.int .i64 l, .int .i64 a, .int .i64 d, .int .i64 t, .int .i64 s, .int .i64 p, .slice b q.length c]), isSrc l a d t s p q, isV (.bool true)]) (by kernel_rfl) (by kernel_rfl) (by kernel_rfl) (herL_keep _) (fun X Y h hb => h.trans (hb.mono h.size)) ((Below.refl _ _).drew) ?steps ?fin
    case steps =>
      refine PhSteps.cons ?s0 (PhSteps.cons ?s1 (PhSteps.cons ?s2 (PhSteps.cons ?s3 (PhSteps.nil))))
      case s0 =>
        intro v f a X hat hS hv haf K hK
        have ev := hat.old 8 (fun k hk => absurd (List.mem_of_getElem? hk) (by decide))
        obtain ⟨tm, df⟩ := a
        have c0 := cell_of_row X w2.heap.size 0 _ _ _ (blk_bel HB1.out hS)
        have c1 := cell_of_row X w2.heap.size 1 _ _ _ (blk_bel HB1.out hS)
        have c2 := cell_of_row X w2.heap.size 2 _ _ _ (blk_bel HB1.out hS)
        have c3 := cell_of_row X w2.heap.size 3 _ _ _ (blk_bel HB1.out hS)
        have c4 := cell_of_row X w2.heap.size 4 _ _ _ (blk_bel HB1.out hS)
        have c5 := cell_of_row X w2.heap.size 5 _ _ _ (blk_bel HB1.out hS)
        have c6 := cell_of_row X w2.heap.size 6 _ _ _ (blk_bel HB1.out hS)
        go_simp
        exact hK.out _ _ (show _ = _ from rfl) (Below.refl _ _)
      case s1 =>
        intro v f a X hat hS hv haf K hK
        have ev := hat.old 2 (fun k hk => absurd (List.mem_of_getElem? hk) (by decide))
        obtain ⟨tm, df⟩ := a
        have c0 := cell_of_row X w.heap.size 0 _ _ _ (blk_bel HX.out.box hS)
        have c1 := cell_of_row X w.heap.size 1 _ _ _ (blk_bel HX.out.box hS)
        have c2 := cell_of_row X w.heap.size 2 _ _ _ (blk_bel HX.out.box hS)
        have c3 := cell_of_row X w.heap.size 3 _ _ _ (blk_bel HX.out.box hS)
        have c4 := cell_of_row X w.heap.size 4 _ _ _ (blk_bel HX.out.box hS)
        have c5 := cell_of_row X w.heap.size 5 _ _ _ (blk_bel HX.out.box hS)
        have c6 := cell_of_row X w.heap.size 6 _ _ _ (blk_bel HX.out.box hS)
        go_simp
        exact hK.out _ _ (show _ = _ from rfl) (Below.refl _ _)
      case s2 =>
        intro v f a X hat hS hv haf K hK
        have f0 := ph_haf haf 1 (by kernel_rfl)
        have ev0 := hat.done 1 42 f0 rfl
        have h0 := hv 1 f0
        rw [show v 1 = _ from h0] at ev0
        obtain ⟨tm, df⟩ := a
        go_simp
        refine Calls.mono (HTS.out b c _ (HZ.out.below (HX.out.bel.trans (hS.mono HX.out.bel.size)) (Nat.le_refl _))) ?_
        rintro e Y ⟨g, rfl, ho, hb⟩
        exact hK.out _ _ (⟨_, _, rfl, lies_own ho, Nat.le_refl _, by intro h; cases h⟩) hb
      case s3 =>
        intro v f a X hat hS hv haf K hK
        have f0 := ph_haf haf 0 (by kernel_rfl)
        have ev0 := hat.done 0 41 f0 rfl
        have h0 := hv 0 f0
        rw [show v 0 = _ from h0] at ev0
        have f1 := ph_haf haf 2 (by kernel_rfl)
        have ev1 := hat.done 2 43 f1 rfl
        obtain ⟨b1, c1, h1, l1, ft1⟩ := hv 2 f1
        rw [h1] at ev1
        obtain ⟨tm, df⟩ := a
        go_simp
        refine Calls.mono (HEQ.out (some ⟨g1, 0, none⟩) b1 q.length c1 _ (HL1.out.below hS (Nat.le_refl _)) l1) ?_
        rintro e Y ⟨rfl, hb⟩
        exact hK.out _ _ (show _ = _ from rfl) hb
    case fin =>
      intro v X hX hv
      have r0 := hv 3 (by decide)
      simp only [phAll, Act.put, List.setIfInBounds_toArray, List.set_cons_zero, List.set_cons_succ]
      rw [show v 3 = _ from r0]
      simp only [phTail, List.drop_succ_cons, List.drop_zero]
      go_wp2_with fail
      go_meet
      exact ⟨rfl, Lib.hid (HX.out.to hX)⟩
  case rest =>
  obtain ⟨rfl, HX⟩ := hcut
  go_wp2
  go_ret
  exact ⟨rfl, HX.out.bel⟩
theorem FnExactSourceText_came (cs ds : Array Value) (W : World) (h : Came Tryd.prog W 24 cs.toList) (g : Came Tryd.prog W 26 ds.toList) (hP : Pow10 W) : Calls Tryd.prog 3 #[.agg cs, .agg ds] W fun e w' => e = .returned (.bool true) ∧ Below W.heap.size W w' := by
  obtain ⟨x, b, c, e, hz, hm⟩ := came_src h
  obtain ⟨z, e'⟩ := came_tsk g
  rw [e, e']
  exact FnExactSourceText_walk x.l x.a x.d x.t x.s x.p x.q z.k z.p z.d z.i z.q z.r b c hm W hz hP
end Go.Proofs.YtgbnoaclklbjbaaDoor
