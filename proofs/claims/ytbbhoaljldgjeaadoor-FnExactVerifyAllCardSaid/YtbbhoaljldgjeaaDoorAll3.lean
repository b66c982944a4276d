/- VerifyAll of spec. -/
import Derived.Test.YtbbhoaljldgjeaaDoorAll2
namespace Go.Proofs.YtbbhoaljldgjeaaDoor
open Go.ChangeShapes Go.WideShapes Go.ChangeAt Go.RowKit
set_option linter.unusedVariables false
theorem l04Routines_any (a : Option Addr) (c : Nat) (ls : List (List Ins)) (hm : ls.length ≤ maxLen) (hl : ∀ j, j < ls.length → (ls.getD j []).length ≤ maxLen) (w : World) (hz : Routs w a ls) :
    Calls Tryd.prog 58 #[.slice a ls.length c] w fun e w' => e = .returned (.bool (wellR ls)) ∧ Below w.heap.size w w' := by
  unfold maxLen at hm
  by_cases h6 : 6 < ls.length
  · have HR := Lib.hid (wellR_long h6)
    generalize wellR ls = R at *
    generalize ls.length = n at *
    go_enter Tryd.func58, Tryd.ntmps58
    go_wp2
    go_ret
    exact ⟨by rw [HR.out]; rfl, Below.refl _ _⟩
  have HZ := Lib.hid hz
  have HM := Lib.hid hl
  have HN := Lib.hid (fun j (h : j < ls.length) g => wellR_no (j := j) h g)
  have HY := Lib.hid (fun g => wellR_yes (ls := ls) (by omega) g)
  have HA := Lib.hid (fun w (h : Routs w a ls) j (hj : j < ls.length) => h.at hj)
  clear hz hl
  generalize wellR ls = R at *
  generalize hL : ls.length = n at *
  have HL := Lib.hid hL
  clear hL
  go_enter Tryd.func58, Tryd.ntmps58
  go_wp2
  go_loopw [3] (fun i wr => ∃ j : Nat, j ≤ n ∧ i = .int .i64 j ∧ Hid (∀ q, q < j → wellB (ls.getD q []) = true) ∧ Hid (Below w.heap.size w wr)) (fun i _ => n - (intOf i).toNat)
  case atStart => exact ⟨0, Nat.zero_le _, rfl, Lib.hid (by intro q hq; omega), Lib.hid (Below.refl _ _)⟩
  case round =>
    obtain ⟨j, hj, rfl, hr, hb⟩ := hrel
    by_cases hlt : j < n
    · obtain ⟨b, o, x, c2, rfl, hbl, hcell, hlies⟩ := HA.out w HZ.out j hlt
      have hb' := hb.out
      have d0 := (hb'.cell (p := ⟨b, o + j, none⟩) hbl).trans hcell
      have hmj := HM.out j hlt
      unfold maxLen at hmj
      have HLI := Lib.hid (hlies.below hb' (Nat.le_refl _))
      have HNj := Lib.hid (HN.out j hlt)
      have HX : Hid (wellB (ls.getD j []) = true → ∀ q, q < j + 1 → wellB (ls.getD q []) = true) := Lib.hid (fun g q hq => by
          by_cases e : q = j
          · rw [e]; exact g
          · exact hr.out q (by omega))
      clear hcell hlies hb'
      generalize ls.getD j [] = zs at *
      by_cases h40 : 40 < zs.length
      · have hk : wellB zs = false := by unfold wellB; rw [decide_eq_false (by omega)]; rfl
        have HR := Lib.hid (HNj.out hk)
        clear hk HNj HX HLI
        generalize zs.length = m at *
        go_wp2
        go_ret
        exact ⟨by rw [HR.out]; rfl, hb.out⟩
      have hw : wellB zs = okAll zs := by unfold wellB; rw [decide_eq_true (by omega)]; rfl
      have HW := Lib.hid (fun w2 hz => l02All_any zs x c2 (by omega) w2 hz)
      cases hk : okAll zs
      · have HR := Lib.hid (HNj.out (hw.trans hk))
        rw [hk] at HW
        clear hk HNj HX hw
        generalize zs.length = m at *
        go_wp2_with fail
        refine Calls.mono (HW.out _ HLI.out) ?_
        rintro e w2 ⟨rfl, hb2⟩
        have Hb2 := Lib.hid (hb.out.trans (hb2.mono hb.out.size))
        clear hb2
        go_wp2
        go_ret
        exact ⟨by rw [HR.out]; rfl, Hb2.out⟩
      · have HX2 := Lib.hid (HX.out (hw.trans hk))
        rw [hk] at HW
        clear hk HNj HX hw
        generalize zs.length = m at *
        go_wp2_with fail
        refine Calls.mono (HW.out _ HLI.out) ?_
        rintro e w2 ⟨rfl, hb2⟩
        have Hb2 := Lib.hid (hb.out.trans (hb2.mono hb.out.size))
        clear hb2 d0
        go_wp2
        go_roundw
        case rel => exact ⟨j + 1, by omega, by go_num, HX2, Hb2⟩
        case measure => simp [intOf]; omega
    · obtain rfl : j = n := by omega
      have HR := Lib.hid (HY.out hr.out)
      go_wp2
      go_ret
      exact ⟨by rw [HR.out]; rfl, hb.out⟩
set_option maxHeartbeats 1000000 in
theorem l04All_any (a : Option Addr) (c : Nat) (ls : List (List Ins)) (ks : List Int) (k : Option Addr) (kc : Nat) (hkb : kindsB ks = true) (hwr : wellR ls = true) (w : World) (hz : Routs w a ls) (hy : Lies w k (kC ks)) :
    Calls Tryd.prog 59 #[.slice a ls.length c, .slice k ks.length kc] w fun e w' => e = .returned (.tuple #[.int .i64 (allGo ks ls 0).1, .int .i64 (allGo ks ls 0).2.1, .int .i64 (allGo ks ls 0).2.2]) ∧ Below w.heap.size w w' := by
  obtain ⟨h6, hwa⟩ := wellR_all hwr
  obtain ⟨R, hRR⟩ : ∃ R, allGo ks ls 0 = R := ⟨_, rfl⟩
  have HRR : Hid (allGo ks (ls.drop 0) 0 = R) := Lib.hid hRR
  rw [hRR]
  have HKB := Lib.hid (kindsB_all hkb)
  have HWA := Lib.hid hwa
  have HZ := Lib.hid hz
  have HY := Lib.hid hy
  have HA := Lib.hid (fun w (h : Routs w a ls) j (hj : j < ls.length) => h.at hj)
  have HGO := Lib.hid (fun j (h : j < ls.length) => allGo_step (ks := ks) h)
  have HGE : Hid (∀ j, ls.length ≤ j → ls.drop j = []) := Lib.hid (fun j h => List.drop_eq_nil_of_le h)
  clear hkb hwr hwa hRR hz hy
  generalize hL : ls.length = n at *
  generalize hL2 : ks.length = m at *
  have HM3 := Lib.hid hL2
  clear hL hL2
  go_enter Tryd.func59, Tryd.ntmps59
  go_wp2
  go_loopw [7] (fun i wr => ∃ j : Nat, j ≤ n ∧ i = .int .i64 j ∧ Hid (allGo ks (ls.drop j) j = R) ∧ Hid (Below w.heap.size w wr)) (fun i _ => n - (intOf i).toNat)
  case atStart => exact ⟨0, Nat.zero_le _, rfl, HRR, Lib.hid (Below.refl _ _)⟩
  case round =>
    obtain ⟨j, hj, rfl, hr, hb⟩ := hrel
    by_cases hlt : j < n
    · obtain ⟨b, o, x, c2, rfl, hbl, hcell, hlies⟩ := HA.out w HZ.out j hlt
      have hb' := hb.out
      have d0 := (hb'.cell (p := ⟨b, o + j, none⟩) hbl).trans hcell
      have hg := HGO.out j hlt
      rw [hr.out] at hg
      obtain ⟨hw1, hw2⟩ := wellB_ok (HWA.out j hlt)
      have hC := l04Verify_any k kc ks (by rw [HM3.out]; exact HKB.out.1) HKB.out.2 j (ls.getD j []) x c2 hw1 (fun q hq => okAll_at hw2 hq) _ (HY.out.below hb' (Nat.le_refl _)) (hlies.below hb' (Nat.le_refl _))
      rw [HM3.out] at hC
      have HC := Lib.hid hC
      clear hcell hlies hb' hC hr hw1 hw2
      by_cases h0 : (vVer (ls.getD j []) ks j).2 = 0
      · rw [if_neg (fun q => q h0)] at hg
        rw [h0] at HC
        have HG := Lib.hid hg
        clear hg h0
        generalize (vVer (ls.getD j []) ks j).1 = u at *
        generalize (ls.getD j []).length = q at *
        go_wp2_with fail
        refine Calls.mono HC.out ?_
        rintro e w3 ⟨rfl, hb3⟩
        have Hb3 := Lib.hid (hb.out.trans (hb3.mono hb.out.size))
        clear hb3 d0
        go_wp2
        go_roundw
        case rel => exact ⟨j + 1, by omega, by go_num, Lib.hid HG.out.symm, Hb3⟩
        case measure => simp [intOf]; omega
      · rw [if_pos h0] at hg
        have HG := Lib.hid hg
        have hq : ((vVer (ls.getD j []) ks j).2 != 0) = true := by rw [bne_iff_ne]; exact h0
        clear hg h0
        generalize (vVer (ls.getD j []) ks j).1 = u at *
        generalize (vVer (ls.getD j []) ks j).2 = v at *
        generalize (ls.getD j []).length = q at *
        go_wp2_with fail
        refine Calls.mono HC.out ?_
        rintro e w3 ⟨rfl, hb3⟩
        have Hb3 := Lib.hid (hb.out.trans (hb3.mono hb.out.size))
        clear hb3 d0
        go_wp2
        go_ret3
        exact ⟨ret_iii (by rw [HG.out]) (by rw [HG.out]) (by rw [HG.out]), Hb3.out⟩
    · obtain rfl : j = n := by omega
      have HG : Hid (R = (0, 0, 0)) := Lib.hid (by rw [← hr.out, HGE.out j (Nat.le_refl _)]; rfl)
      clear hr
      go_wp2
      go_ret3
      exact ⟨ret_iii (by rw [HG.out]) (by rw [HG.out]) (by rw [HG.out]), hb.out⟩
theorem specVerifyAll_any (a : Option Addr) (c : Nat) (ls : List (List Ins)) (ks : List Int) (k : Option Addr) (kc : Nat) (hm : ls.length ≤ maxLen) (hl : ∀ j, j < ls.length → (ls.getD j []).length ≤ maxLen) (hk : ks.length ≤ maxLen) (w : World) (hz : Routs w a ls) (hy : Lies w k (kC ks)) :
    Calls Tryd.prog 28 #[.slice a ls.length c, .slice k ks.length kc] w fun e w' => e = .returned (.tuple #[.int .i64 (allF ls ks).1, .int .i64 (allF ls ks).2.1, .int .i64 (allF ls ks).2.2]) ∧ Below w.heap.size w w' := by
  have HK := Lib.hid (fun w hz => l04Kinds_any k kc ks hk w hz)
  have HR := Lib.hid (fun w hz => l04Routines_any a c ls hm hl w hz)
  have HV := Lib.hid (fun hkb hwr w hz hy => l04All_any a c ls ks k kc hkb hwr w hz hy)
  unfold maxLen at hm hk
  by_cases h1 : 4096 < ls.length ∨ 4096 < ks.length
  · have HF : Hid (allF ls ks = (0, 0, 2)) := Lib.hid (if_pos h1)
    clear hz hy HK HR hl HV
    by_cases h2 : 4096 < ls.length
    · clear h1
      generalize ls.length = n at *
      generalize ks.length = m at *
      go_enter Tryd.func28, Tryd.ntmps28
      go_wp2
      go_ret3
      exact ⟨ret_iii (by rw [HF.out]) (by rw [HF.out]) (by rw [HF.out]), Below.refl _ _⟩
    · have h3 : 4096 < ks.length := by omega
      clear h1
      generalize ls.length = n at *
      generalize ks.length = m at *
      go_enter Tryd.func28, Tryd.ntmps28
      go_wp2
      go_ret3
      exact ⟨ret_iii (by rw [HF.out]) (by rw [HF.out]) (by rw [HF.out]), Below.refl _ _⟩
  have e1 : allF ls ks = if (kindsB ks && wellR ls) = false then (0, 0, 1) else allGo ks ls 0 := if_neg h1
  have hz1 : ¬ 4096 < ls.length := by omega
  have hk1 : ¬ 4096 < ks.length := by omega
  have HZ := Lib.hid hz
  have HY := Lib.hid hy
  clear hz hy h1
  cases hkb : kindsB ks
  · have HF : Hid (allF ls ks = (0, 0, 1)) := Lib.hid (e1.trans (if_pos (by rw [hkb]; rfl)))
    rw [hkb] at HK
    clear e1 hkb hl HV
    generalize ls.length = n at *
    generalize ks.length = m at *
    go_enter Tryd.func28, Tryd.ntmps28
    go_wp2_with (go_at_call 57; refine (HK.out _ HY.out).mono ?_; rintro e w' ⟨rfl, rfl⟩)
    go_ret3
    exact ⟨ret_iii (by rw [HF.out]) (by rw [HF.out]) (by rw [HF.out]), Below.refl _ _⟩
  rw [hkb] at HK
  cases hwr : wellR ls
  · have HF : Hid (allF ls ks = (0, 0, 1)) := Lib.hid (e1.trans (if_pos (by rw [hkb, hwr]; rfl)))
    rw [hwr] at HR
    clear e1 hkb hwr hl HV
    generalize ls.length = n at *
    generalize ks.length = m at *
    go_enter Tryd.func28, Tryd.ntmps28
    go_wp2_with first | (go_at_call 57; refine (HK.out _ HY.out).mono ?_; rintro e w' ⟨rfl, rfl⟩) | (go_at_call 58; refine (HR.out _ HZ.out).mono ?_; rintro e w2 ⟨rfl, hb2⟩; have Hb2 := Lib.hid hb2; clear hb2)
    go_ret3
    exact ⟨ret_iii (by rw [HF.out]) (by rw [HF.out]) (by rw [HF.out]), Hb2.out⟩
  rw [hwr] at HR
  have HF : Hid (allF ls ks = allGo ks ls 0) := Lib.hid (e1.trans (if_neg (by rw [hkb, hwr]; decide)))
  have HVV := Lib.hid (HV.out hkb hwr)
  clear e1 hkb hwr hl HV
  generalize allGo ks ls 0 = R at *
  obtain ⟨r1, r2, r3⟩ := R
  dsimp only at HVV
  generalize ls.length = n at *
  generalize ks.length = m at *
  go_enter Tryd.func28, Tryd.ntmps28
  go_wp2_with first | (go_at_call 57; refine (HK.out _ HY.out).mono ?_; rintro e w' ⟨rfl, rfl⟩) | (go_at_call 58; refine (HR.out _ HZ.out).mono ?_; rintro e w2 ⟨rfl, hb2⟩; have HZ2 := Lib.hid (HZ.out.below hb2); have HY2 := Lib.hid (HY.out.below hb2 (Nat.le_refl _)); have Hb2 := Lib.hid hb2; clear hb2)
  refine Calls.mono (HVV.out _ HZ2.out HY2.out) ?_
  rintro e w3 ⟨rfl, hb3⟩
  have Hb3 := Lib.hid (Hb2.out.trans (hb3.mono Hb2.out.size))
  clear hb3
  go_wp2
  go_ret3
  exact ⟨ret_iii (by rw [HF.out]) (by rw [HF.out]) (by rw [HF.out]), Hb3.out⟩
end Go.Proofs.YtbbhoaljldgjeaaDoor
