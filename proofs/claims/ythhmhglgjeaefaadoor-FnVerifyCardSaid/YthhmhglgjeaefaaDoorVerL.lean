/- The law: code is accepted or rejected alike; of accepted code the stack is known everywhere. -/
import Derived.Test.YthhmhglgjeaefaaDoorDoubt
import Derived.Test.YthhmhglgjeaefaaDoorStk
import Derived.Test.YthhmhglgjeaefaaDoorCallK
namespace Go.Proofs.YthhmhglgjeaefaaDoor
open Go.ChangeShapes Go.WideShapes Go.ChangeAt Go.RowKit
set_option linter.unusedVariables false
theorem codeV_okV {zs : List Ins} {ks : List Int} {r : Int} (h : (codeV zs ks r).2 = 0) : argF zs ks r = 0 ∧ (vVer zs ks r).2 = 0 := by
  unfold codeV at h
  by_cases h0 : argF zs ks r = 0
  · refine ⟨h0, ?_⟩
    rw [if_neg (fun q => q h0)] at h
    exact h
  · rw [if_pos h0] at h
    exact absurd h h0
theorem vOK_okB (x : Ins) (h : vOK x = true) : okB x.1 x.2 = true := by
  obtain ⟨o, a⟩ := x
  unfold vOK at h
  simp only [Bool.and_eq_true, decide_eq_true_iff] at h
  obtain ⟨⟨h1, h2⟩, h3, h4⟩ := h
  have : o = 1 ∨ o = 2 ∨ o = 3 ∨ o = 4 ∨ o = 5 ∨ o = 6 ∨ o = 7 ∨ o = 8 ∨ o = 9 ∨ o = 10 ∨ o = 11 ∨ o = 12 ∨ o = 13 ∨ o = 14 ∨ o = 15 ∨ o = 16 ∨ o = 17 ∨ o = 18 ∨ o = 19 ∨ o = 20 ∨ o = 21 ∨ o = 22 ∨ o = 23 ∨ o = 24 ∨ o = 25 ∨ o = 26 := by omega
  rcases this with rfl | rfl | rfl | rfl | rfl | rfl | rfl | rfl | rfl | rfl | rfl | rfl | rfl | rfl | rfl | rfl | rfl | rfl | rfl | rfl | rfl | rfl | rfl | rfl | rfl | rfl <;>
    · unfold okB
      simp only [Bool.and_eq_true, decide_eq_true_iff]
      exact ⟨rfl, h3, h4⟩
theorem vAll_okAll {zs : List Ins} (h : vAll zs = true) : okAll zs = true := by
  unfold okAll
  unfold vAll at h
  rw [List.all_eq_true] at *
  exact fun x hx => vOK_okB x (h x hx)
theorem good_code {zs : List Ins} {ks : List Int} {r : Int} (h : Pc ks r zs [] 3 2) (h40 : zs.length ≤ 40) (h8 : ks.length ≤ 8) (hk : ks.all kindB = true) (hr : 0 ≤ r ∧ r ≤ 6) : codeV zs ks r = (0, 0) := by
  have hok := vAll_okAll h.2
  have hkb : kindsB ks = true := by unfold kindsB; rw [decide_eq_true h8, hk]; rfl
  have ha : argF zs ks r = 0 := by
    unfold argF
    rw [if_neg (by omega), if_neg (by omega), hkb, hok, if_neg (by decide), if_neg (by omega)]
  unfold codeV
  rw [if_neg (by rw [ha]; decide)]
  exact pc_accepted h (by omega)
theorem good_stack {zs : List Ins} {ks : List Int} {r : Int} (h : codeV zs ks r = (0, 0)) {n : Nat} (hn : n ≤ zs.length) : (stackF zs ks r n).2 = 0 ∧ (stackF zs ks r n).1.size ≤ 8 ∧ (n = 0 ∨ n = zs.length → (stackF zs ks r n).1 = ⟨#[]⟩) := by
  have h2 : (codeV zs ks r).2 = 0 := by rw [h]
  have hv := (codeV_okV h2).2
  unfold stackF
  rw [if_neg (by rw [h2]; decide), if_neg (by omega), Int.toNat_natCast]
  refine ⟨rfl, vStack_le hv n, fun hx => ?_⟩
  rcases hx with rfl | rfl
  · rw [vStack_zero]; rfl
  · rw [vStack_end hv]; rfl
theorem good_calls {zs : List Ins} {ks : List Int} {r : Int} (h : Pc ks r zs [] 3 2) (h40 : zs.length ≤ 40) : callsF zs = (vCalls zs, 0) := by
  unfold callsF
  rw [if_neg (by omega), if_neg (by omega), if_neg (by rw [vAll_okAll h.2]; decide)]
theorem sameInts_same (l : List Int) (a b : Option Addr) (c d : Nat) (hn : l.length ≤ 1048576) (w : World) (hz : Lies w a (kC l)) (hy : Lies w b (kC l)) :
    Calls Tryd.prog 14 #[.slice a l.length c, .slice b l.length d] w fun e w' => e = .returned (.bool true) ∧ Below w.heap.size w w' := by
  have Hz := Lib.hid hz
  have Hy := Lib.hid hy
  clear hz hy
  generalize hL : l.length = n at *
  have HL := Lib.hid hL
  clear hL
  have hs : ((n : Int) != n) = false := by simp
  go_enter Tryd.func14, Tryd.ntmps14
  go_wp2
  go_loopw [5] (fun i wr => ∃ k : Nat, k ≤ n ∧ i = .int .i64 k ∧ Hid (Below w.heap.size w wr)) (fun i _ => n - (intOf i).toNat)
  case atStart => exact ⟨0, Nat.zero_le _, rfl, Lib.hid (Below.refl _ _)⟩
  case round =>
    obtain ⟨k, hk, rfl, hb⟩ := hrel
    by_cases hlt : k < n
    · obtain ⟨b1, o1, rfl, hb1, hc1⟩ := Hz.out.open (by rw [kC_len, HL.out]; omega)
      obtain ⟨b2, o2, rfl, hb2, hc2⟩ := Hy.out.open (by rw [kC_len, HL.out]; omega)
      have d0 := (hb.out.cell (p := ⟨b1, o1 + k, none⟩) hb1).trans (kind_at hc1 (i := k) (by rw [HL.out]; exact hlt))
      have d1 := (hb.out.cell (p := ⟨b2, o2 + k, none⟩) hb2).trans (kind_at hc2 (i := k) (by rw [HL.out]; exact hlt))
      clear hc1 hc2
      generalize l.getD k 0 = x at *
      have hxx : (x != x) = false := by simp
      go_wp2_with fail
      go_quiet (fail)
      go_wp2
      go_roundw
      case rel => exact ⟨k + 1, by omega, by go_num, Lib.hid (bel_dn hb.out _)⟩
      case measure => simp [intOf]; omega
    · obtain rfl : k = n := by omega
      go_wp2
      go_ret
      exact ⟨rfl, hb.out⟩
set_option maxRecDepth 100000 in
set_option maxHeartbeats 4000000 in
theorem FnVerify_came (a : Option Addr) (n c : Nat) (a1 : Option Addr) (n1 c1 : Nat) (W : World) (h0 : Came Tryd.prog W 22 [.slice a n c]) (h1 : Came Tryd.prog W 22 [.slice a1 n1 c1]) (hf : OpTab W ∧ EffTab W ∧ FbTab W) :
    Calls Tryd.prog 3 #[.slice a n c, .slice a1 n1 c1] W fun e w' => e = .returned (.bool true) ∧ Below W.heap.size W w' := by
  have B0 := Lib.hid (came_bytesN h0)
  have B1 := Lib.hid (came_bytesN h1)
  have hn := B0.out.1
  have hn1 := B1.out.1
  unfold maxLen at hn hn1
  have HT : Hid (∀ w, Below W.heap.size W w → VTabs w) := Lib.hid (fun w hb => (VTabs.mk hf.1 hf.2.1 hf.2.2).below hb (Nat.le_refl _))
  clear hf h0 h1
  by_cases l0 : 1048576 < n
  · go_enter Tryd.func3, Tryd.ntmps3
    go_wp2
    go_ret
    exact ⟨rfl, Below.refl _ _⟩
  by_cases l1 : 1048576 < n1
  · go_enter Tryd.func3, Tryd.ntmps3
    go_wp2
    go_ret
    exact ⟨rfl, Below.refl _ _⟩
  go_enter Tryd.func3, Tryd.ntmps3
  go_wp2_with fail
  refine (kindsDrawn_any a1 n1 c1 W B1.out).mono ?_
  rintro e w1 ⟨k, mk, kc, ks, rfl, rfl, hmk, hok, hlk, hlt, hb1⟩
  have HK := Lib.hid hlk
  have HLT := Lib.hid hlt
  have HOK := Lib.hid hok
  have Hb1 := Lib.hid hb1
  clear hlk hlt hok hb1
  go_wp2_with fail
  refine Calls.mono (doubtCode_any a n c k kc ks 2 w1 (B0.out.belN Hb1.out Hb1.out.size) HK.out HLT.out (by omega) HOK.out (by omega) (by omega)) ?_
  rintro e w2 ⟨a2, m2, c2, zs, rfl, hl, hm, _, hz, hb2⟩
  have HZ := Lib.hid hz
  have HL := Lib.hid hl
  have HK2 := Lib.hid (HK.out.below hb2 (Nat.le_refl _))
  have Hb2 := Lib.hid (Hb1.out.trans (hb2.mono Hb1.out.size))
  have HV1 := Lib.hid (fun w ht hz hy => verifyCode_any zs a2 c2 ks k kc 2 (by rw [hl]; unfold maxLen; omega) (by unfold maxLen; omega) w ht hz hy)
  have HV2 := Lib.hid (fun w hz hy => specVerifyCode_any zs a2 c2 ks k kc 2 (by rw [hl]; unfold maxLen; omega) (by unfold maxLen; omega) w hz hy)
  rw [hl] at HV1 HV2
  have HLT2 : Hid (∀ b o, k = some (⟨b, o, none⟩ : Addr) → b < w2.heap.size) := Lib.hid (fun b o e => by have := HLT.out b o e; have := hb2.size; omega)
  clear hz hb2 hl
  generalize (codeV zs ks 2).1 = x at *
  generalize (codeV zs ks 2).2 = y at *
  have hx : (x != x) = false := by simp
  have hy : (y != y) = false := by simp
  go_wp2_with fail
  refine (HV1.out _ (HT.out _ Hb2.out) HZ.out HK2.out).mono ?_
  rintro e w3 ⟨rfl, hb3⟩
  have HZ3 := Lib.hid (HZ.out.below hb3 (Nat.le_refl _))
  have HK3 := Lib.hid (HK2.out.below hb3 (Nat.le_refl _))
  have Hb3 := Lib.hid (Hb2.out.trans (hb3.mono Hb2.out.size))
  have HLT3 : Hid (∀ b o, k = some (⟨b, o, none⟩ : Addr) → b < w3.heap.size) := Lib.hid (fun b o e => by have := HLT2.out b o e; have := hb3.size; omega)
  clear hb3
  go_wp2_with fail
  refine (HV2.out _ HZ3.out HK3.out).mono ?_
  rintro e w4 ⟨rfl, hb4⟩
  have HK4 := Lib.hid (HK3.out.below hb4 (Nat.le_refl _))
  have Hb4 := Lib.hid (Hb3.out.trans (hb4.mono Hb3.out.size))
  have HLT4 : Hid (∀ b o, k = some (⟨b, o, none⟩ : Addr) → b < w4.heap.size) := Lib.hid (fun b o e => by have := HLT3.out b o e; have := hb4.size; omega)
  clear hb4 HV1 HV2 HZ HZ3
  go_wp2_with fail
  refine Calls.mono (rightCode_any a1 n1 c1 k kc ks 2 w4 (B1.out.belN Hb4.out Hb4.out.size) HK4.out HLT4.out (by omega) HOK.out (by omega) (by omega)) ?_
  rintro e w5 ⟨a5, m5, c5, gs, rfl, hl, hm5, hmc, hpc, hz, hb5⟩
  have hgl : gs.length ≤ 40 := by omega
  have hcode := good_code hpc hgl (by omega) HOK.out (by omega)
  have HGS := Lib.hid (fun n (h : n ≤ m5) => good_stack (n := n) hcode (by rw [hl]; exact h))
  have HGC := Lib.hid (good_calls hpc hgl)
  have HV1 := Lib.hid (fun w ht hz hy => verifyCode_any gs a5 c5 ks k kc 2 (by unfold maxLen; omega) (by unfold maxLen; omega) w ht hz hy)
  rw [hcode] at HV1
  have HS1 := Lib.hid (fun p w ht hz hy => stackAt_any gs a5 c5 ks k kc 2 p (by unfold maxLen; omega) (by omega) (by unfold maxLen; omega) w ht hz hy)
  have HS2 := Lib.hid (fun p w hz hy => specStackAt_any gs a5 c5 ks k kc 2 p (by unfold maxLen; omega) (by unfold maxLen; omega) w hz hy)
  have HC1 := Lib.hid (fun w ht hz => callsOf_any gs a5 c5 (by unfold maxLen; omega) w ht hz)
  have HC2 := Lib.hid (fun w hz => specCallsOf_any gs a5 c5 (by unfold maxLen; omega) w hz)
  rw [HGC.out] at HC1 HC2
  rw [hl] at HV1 HS1 HS2 HC1 HC2 HGS
  have HZ5 := Lib.hid hz
  have HK5 := Lib.hid (HK4.out.below hb5 (Nat.le_refl _))
  have Hb5 := Lib.hid (Hb4.out.trans (hb5.mono Hb4.out.size))
  have hvl : (vCalls gs).length ≤ 6 := by rw [← vcN_six]; exact vcN_len gs 6
  clear hz hb5 hl hpc hcode HLT HLT2 HLT3 HLT4 HK HK2 HK3
  go_wp2_with fail
  refine (HV1.out _ (HT.out _ Hb5.out) HZ5.out HK5.out).mono ?_
  rintro e w6 ⟨rfl, hb6⟩
  have HZ6 := Lib.hid (HZ5.out.below hb6 (Nat.le_refl _))
  have HK6 := Lib.hid (HK5.out.below hb6 (Nat.le_refl _))
  have Hb6 := Lib.hid (Hb5.out.trans (hb6.mono Hb5.out.size))
  clear hb6
  go_wp2
  go_loopw [14, 15, 16, 17, 18] (fun i _ _ _ _ wr => ∃ j : Nat, j ≤ m5 + 1 ∧ i = .int .i64 j ∧ Hid (Below W.heap.size W wr) ∧ Hid (Lies wr a5 (flat insC gs)) ∧ Hid (Lies wr k (kC ks))) (fun i _ _ _ _ _ => m5 + 1 - (intOf i).toNat)
  case atStart => exact ⟨0, Nat.zero_le _, rfl, Hb6, HZ6, HK6⟩
  case round =>
    obtain ⟨j, hj, rfl, hb, hzr, hkr⟩ := hrel
    by_cases hlt : j ≤ m5
    · obtain ⟨hg1, hg2, hg3⟩ := HGS.out j hlt
      have hg3 : j = 0 ∨ j = m5 → (stackF gs ks 2 j).1 = ⟨#[]⟩ := hg3
      have HGE := Lib.hid hg3
      have HA := Lib.hid (HS1.out (j : Int))
      have HB := Lib.hid (HS2.out (j : Int))
      rw [hg1] at HA HB
      clear hg1 hg3
      generalize (stackF gs ks 2 (j : Int)).1 = S at *
      go_wp2_with fail
      refine (HA.out _ (HT.out _ hb.out) hzr.out hkr.out).mono ?_
      rintro e w7 ⟨rfl, hb7⟩
      have Hz7 := Lib.hid (hzr.out.below hb7 (Nat.le_refl _))
      have Hk7 := Lib.hid (hkr.out.below hb7 (Nat.le_refl _))
      have Hb7 := Lib.hid (hb.out.trans (hb7.mono hb.out.size))
      clear hb7
      go_wp2_with fail
      refine (HB.out _ Hz7.out Hk7.out).mono ?_
      rintro e w8 ⟨rfl, hb8⟩
      have Hz8 := Lib.hid (Hz7.out.below hb8 (Nat.le_refl _))
      have Hk8 := Lib.hid (Hk7.out.below hb8 (Nat.le_refl _))
      have Hb8 := Lib.hid (Hb7.out.trans (hb8.mono Hb7.out.size))
      clear hb8 HA HB
      have e1 : (!(S.toList == S.toList)) = false := by simp
      by_cases hend : j = 0 ∨ j = m5
      · obtain rfl := HGE.out hend
        clear HGE
        cases hq : ((j : Int) == 0)
        · have hjm : ((j : Int) == (m5 : Int)) = true := by
            have := beq_eq_false_iff_ne.1 hq
            exact beq_iff_eq.2 (by omega)
          clear hend
          go_wp2
          go_roundw
          case rel => exact ⟨j + 1, by omega, by go_num, Hb8, Hz8, Hk8⟩
          case measure => simp [intOf]; omega
        · clear hend
          go_wp2
          go_roundw
          case rel => exact ⟨j + 1, by omega, by go_num, Hb8, Hz8, Hk8⟩
          case measure => simp [intOf]; omega
      · have hj0 : ((j : Int) == 0) = false := beq_eq_false_iff_ne.2 (by omega)
        have hjm : ((j : Int) == (m5 : Int)) = false := beq_eq_false_iff_ne.2 (by omega)
        clear HGE
        go_wp2
        go_roundw
        case rel => exact ⟨j + 1, by omega, by go_num, Hb8, Hz8, Hk8⟩
        case measure => simp [intOf]; omega
    · obtain rfl : j = m5 + 1 := by omega
      have HN := Lib.hid hvl
      have HSI := Lib.hid (fun a b c d w hz hy => sameInts_same (vCalls gs) a b c d (by omega) w hz hy)
      clear hvl
      generalize vCalls gs = cs at *
      generalize hq : cs.length = q at *
      have HQ := Lib.hid hq
      clear hq
      go_wp2_with fail
      refine (HC1.out _ (HT.out _ hb.out).op hzr.out).mono ?_
      rintro e w7 ⟨a7, c7, rfl, ho7, hb7⟩
      have Hz7 := Lib.hid (hzr.out.below hb7 (Nat.le_refl _))
      have Hl7 := Lib.hid (lies_own ho7)
      have Hb7 := Lib.hid (hb.out.trans (hb7.mono hb.out.size))
      clear hb7 ho7
      rw [HQ.out]
      go_wp2_with fail
      refine (HC2.out _ Hz7.out).mono ?_
      rintro e w8 ⟨a8, c8, rfl, ho8, hb8⟩
      have Hl8 := Lib.hid (lies_own ho8)
      have Hl7 := Lib.hid (Hl7.out.below hb8 (Nat.le_refl _))
      have Hb8 := Lib.hid (Hb7.out.trans (hb8.mono Hb7.out.size))
      clear hb8 ho8
      rw [HQ.out]
      go_wp2_with fail
      refine (HSI.out _ _ _ _ _ Hl7.out Hl8.out).mono ?_
      rintro e w9 ⟨rfl, hb9⟩
      have Hb9 := Lib.hid (Hb8.out.trans (hb9.mono Hb8.out.size))
      clear hb9
      go_wp2
      go_ret
      exact ⟨rfl, Hb9.out⟩
end Go.Proofs.YthhmhglgjeaefaaDoor
