/- VerifyAll of impl and of spec. -/
import Derived.Test.YtmpppfibeoghaaaGreatDoorVLaw
namespace Go.Proofs.YtmpppfibeoghaaaGreatDoor
open Go.ChangeShapes Go.WideShapes Go.ChangeAt Go.RowKit
set_option linter.unusedVariables false
def wellR (ls : List (List Ins)) : Bool := decide (ls.length ≤ 6) && ls.all wellB
theorem wellR_long {ls : List (List Ins)} (h : 6 < ls.length) : wellR ls = false := by unfold wellR; rw [decide_eq_false (by omega)]; rfl
theorem wellR_no {ls : List (List Ins)} {j : Nat} (h : j < ls.length) (g : wellB (ls.getD j []) = false) : wellR ls = false := by
  unfold wellR
  have : ls.all wellB = false := by
    rw [List.all_eq_false]
    exact ⟨ls.getD j [], by simp [List.getD, h], by rw [g]; simp⟩
  rw [this]
  simp
theorem wellR_yes {ls : List (List Ins)} (h : ls.length ≤ 6) (g : ∀ j, j < ls.length → wellB (ls.getD j []) = true) : wellR ls = true := by
  unfold wellR
  rw [decide_eq_true h, Bool.true_and, List.all_eq_true]
  intro z hz
  obtain ⟨j, hj, rfl⟩ := List.getElem_of_mem hz
  have := g j hj
  simpa [List.getD, hj] using this
theorem wellR_all {ls : List (List Ins)} (h : wellR ls = true) : ls.length ≤ 6 ∧ ∀ j, j < ls.length → wellB (ls.getD j []) = true := by
  unfold wellR at h
  simp only [Bool.and_eq_true, decide_eq_true_iff, List.all_eq_true] at h
  exact ⟨h.1, fun j hj => h.2 _ (by simp [List.getD, hj])⟩
theorem rout1_any (zs : List Ins) (x : Option Addr) (c : Nat) (hm : zs.length ≤ maxLen) (w : World) (ht : OpTab w) (hz : Lies w x (flat insC zs)) :
    Calls Tryz.prog 103 #[.agg #[.slice x zs.length c]] w fun e w' => e = .returned (.bool (wellB zs)) ∧ Below w.heap.size w w' := by
  have Ha := Lib.hid ((Below.refl w.heap.size w).alloc (Nat.le_refl _) (.cells #[.slice x zs.length c] 74))
  have HW := Lib.hid (wellFormed_any zs x c hm _ (ht.below Ha.out (Nat.le_refl _)) (hz.below Ha.out (Nat.le_refl _)))
  clear ht hz hm
  generalize wellB zs = R at *
  generalize zs.length = n at *
  go_enter Tryz.func103, Tryz.ntmps103
  go_wp2_with fail
  refine Calls.mono HW.out ?_
  rintro e w2 ⟨rfl, hb2⟩
  have Hb2 := Lib.hid (Ha.out.trans (hb2.mono Ha.out.size))
  clear hb2
  go_wp2
  go_ret
  exact ⟨rfl, Hb2.out⟩
set_option maxHeartbeats 1000000 in
theorem everyRout_any (a : Option Addr) (c : Nat) (ls : List (List Ins)) (hm : ls.length ≤ maxLen) (hl : ∀ j, j < ls.length → (ls.getD j []).length ≤ maxLen) (w : World) (ht : OpTab w) (hz : Routs w a ls) :
    Calls Tryz.prog 102 #[.slice a ls.length c, .func (.func 103) #[] #[]] w fun e w' => e = .returned (.bool (ls.all wellB)) ∧ Below w.heap.size w w' := by
  unfold maxLen at hm
  have HZ := Lib.hid hz
  have HT := Lib.hid ht
  have HM := Lib.hid hl
  have HN := Lib.hid (fun j (h : j < ls.length) g => all_no wellB [] (l := ls) (j := j) h g)
  have HY := Lib.hid (fun g => all_yes wellB [] (l := ls) g)
  have HA := Lib.hid (fun w (h : Routs w a ls) j (hj : j < ls.length) => h.at hj)
  clear hz ht hl
  generalize ls.all wellB = R at *
  generalize hL : ls.length = n at *
  have HL := Lib.hid hL
  clear hL
  go_enter Tryz.func102, Tryz.ntmps102
  go_wp2
  go_loopw [9] (fun i wr => ∃ j : Nat, j ≤ n ∧ i = .int .i64 j ∧ Hid (∀ q, q < j → wellB (ls.getD q []) = true) ∧ Hid (Below w.heap.size w wr)) (fun i _ => n - (intOf i).toNat)
  case atStart => exact ⟨0, Nat.zero_le _, rfl, Lib.hid (by intro q hq; omega), Lib.hid (Below.refl _ _)⟩
  case round =>
    obtain ⟨j, hj, rfl, hr, hb⟩ := hrel
    by_cases hlt : j < n
    · obtain ⟨b, o, x, c2, rfl, hbl, hcell, hlies⟩ := HA.out w HZ.out j hlt
      have hb' := hb.out
      have d0 := (hb'.cell (p := ⟨b, o + j, none⟩) hbl).trans hcell
      have HM2 := Lib.hid (HM.out j hlt)
      have HLI := Lib.hid (fun w2 (h : Below w.heap.size w w2) => hlies.below h (Nat.le_refl _))
      have HW := Lib.hid (fun w2 ht hz => rout1_any (ls.getD j []) x c2 (HM.out j hlt) w2 ht hz)
      have HNj := Lib.hid (HN.out j hlt)
      have HX : Hid (wellB (ls.getD j []) = true → ∀ q, q < j + 1 → wellB (ls.getD q []) = true) := Lib.hid (fun g q hq => by
          by_cases e : q = j
          · rw [e]; exact g
          · exact hr.out q (by omega))
      clear hcell hlies hb'
      generalize ls.getD j [] = zs at *
      have Ha := Lib.hid (hb.out.alloc hb.out.size (.cells #[.slice x zs.length c2] 74))
      cases hk : wellB zs
      · have HR := Lib.hid (HNj.out hk)
        rw [hk] at HW
        clear hk HNj HX
        generalize zs.length = m at *
        go_wp2_with fail
        refine Calls.mono (HW.out _ (HT.out.below Ha.out (Nat.le_refl _)) (HLI.out _ Ha.out)) ?_
        rintro e w2 ⟨rfl, hb2⟩
        have Hb2 := Lib.hid (Ha.out.trans (hb2.mono Ha.out.size))
        clear hb2
        go_wp2
        go_ret
        exact ⟨by rw [HR.out]; rfl, Hb2.out⟩
      · have HX2 := Lib.hid (HX.out hk)
        rw [hk] at HW
        clear hk HNj HX
        generalize zs.length = m at *
        go_wp2_with fail
        refine Calls.mono (HW.out _ (HT.out.below Ha.out (Nat.le_refl _)) (HLI.out _ Ha.out)) ?_
        rintro e w2 ⟨rfl, hb2⟩
        have Hb2 := Lib.hid (Ha.out.trans (hb2.mono Ha.out.size))
        clear hb2 d0
        go_wp2
        go_roundw
        case rel => exact ⟨j + 1, by omega, by go_num, HX2, Hb2⟩
        case measure => simp [intOf]; omega
    · obtain rfl : j = n := by omega
      have HR := Lib.hid (HY.out hr.out)
      go_wp2
      go_ret
      exact ⟨by rw [HR.out]; rfl, hb.out⟩
theorem routinesOK_any (a : Option Addr) (c : Nat) (ls : List (List Ins)) (hm : ls.length ≤ maxLen) (hl : ∀ j, j < ls.length → (ls.getD j []).length ≤ maxLen) (w : World) (ht : OpTab w) (hz : Routs w a ls) :
    Calls Tryz.prog 38 #[.slice a ls.length c] w fun e w' => e = .returned (.bool (wellR ls)) ∧ Below w.heap.size w w' := by
  have HE := Lib.hid (everyRout_any a c ls hm hl w ht hz)
  unfold maxLen at hm
  by_cases h6 : 6 < ls.length
  · have HR := Lib.hid (wellR_long h6)
    clear HE hl
    generalize wellR ls = R at *
    generalize ls.length = n at *
    go_enter Tryz.func38, Tryz.ntmps38
    go_wp2
    go_ret
    exact ⟨by rw [HR.out]; rfl, Below.refl _ _⟩
  have HW : Hid (wellR ls = ls.all wellB) := Lib.hid (by unfold wellR; rw [decide_eq_true (by omega)]; rfl)
  rw [← HW.out] at HE
  have h9 : (ls.length : Int) ≤ 6 := by omega
  clear ht hz HW hl
  generalize wellR ls = R at *
  generalize ls.length = n at *
  go_enter Tryz.func38, Tryz.ntmps38
  go_wp2_with (go_at_call 102; refine HE.out.mono ?_; rintro e w2 ⟨rfl, hb2⟩; have Hb2 := Lib.hid hb2; clear hb2)
  go_ret
  exact ⟨rfl, Hb2.out⟩
end Go.Proofs.YtmpppfibeoghaaaGreatDoor
namespace Go.Proofs.YtmpppfibeoghaaaGreatDoor
open Go.ChangeShapes Go.WideShapes Go.ChangeAt Go.RowKit
set_option linter.unusedVariables false
def allGo (ks : List Int) : List (List Ins) → Nat → Int × Int × Int
  | [], _ => (0, 0, 0)
  | zs :: t, k => if (vVer zs ks k).2 ≠ 0 then ((k : Int), (vVer zs ks k).1, (vVer zs ks k).2) else allGo ks t (k + 1)
def allF (ls : List (List Ins)) (ks : List Int) : Int × Int × Int :=
  if 4096 < ls.length ∨ 4096 < ks.length then (0, 0, 2) else if (kindsB ks && wellR ls) = false then (0, 0, 1) else allGo ks ls 0
theorem allGo_step {ks : List Int} {ls : List (List Ins)} {j : Nat} (h : j < ls.length) : allGo ks (ls.drop j) j = if (vVer (ls.getD j []) ks j).2 ≠ 0 then ((j : Int), (vVer (ls.getD j []) ks j).1, (vVer (ls.getD j []) ks j).2) else allGo ks (ls.drop (j + 1)) (j + 1) := by
  have e : ls.getD j [] = ls[j] := by simp [List.getD, h]
  rw [List.drop_eq_getElem_cons h, allGo, e]
theorem wellB_ok {zs : List Ins} (h : wellB zs = true) : zs.length ≤ 40 ∧ okAll zs = true := by
  unfold wellB at h
  simp only [Bool.and_eq_true, decide_eq_true_iff] at h
  exact h
theorem codeV_all {zs : List Ins} {ks : List Int} {j : Nat} (h : wellB zs = true) (hk : kindsB ks = true) (hj : j ≤ 6) : codeV zs ks j = vVer zs ks j := by
  obtain ⟨h1, h2⟩ := wellB_ok h
  have h8 := (kindsB_all hk).1
  have : argF zs ks j = 0 := by
    unfold argF
    rw [if_neg (by omega), if_neg (by omega), if_neg (by rw [hk, h2]; decide), if_neg (by omega)]
  unfold codeV
  rw [if_neg (by rw [this]; decide)]
theorem ret_iii {a b c d e f : Int} (h : a = d) (g : b = e) (k : c = f) : Ending.returned (.tuple #[.int .i64 a, .int .i64 b, .int .i64 c]) = .returned (.tuple #[.int .i64 d, .int .i64 e, .int .i64 f]) := by rw [h, g, k]
set_option maxHeartbeats 1000000 in
theorem verifyAll_any (a : Option Addr) (c : Nat) (ls : List (List Ins)) (ks : List Int) (k : Option Addr) (kc : Nat) (hm : ls.length ≤ maxLen) (hl : ∀ j, j < ls.length → (ls.getD j []).length ≤ maxLen) (hk : ks.length ≤ maxLen) (w : World) (ht : VTabs w) (hz : Routs w a ls) (hy : Lies w k (kC ks)) :
    Calls Tryz.prog 39 #[.slice a ls.length c, .slice k ks.length kc] w fun e w' => e = .returned (.tuple #[.int .i64 (allF ls ks).1, .int .i64 (allF ls ks).2.1, .int .i64 (allF ls ks).2.2]) ∧ Below w.heap.size w w' := by
  have HK := Lib.hid (fun w hz => kindsOK_any k kc ks hk w hz)
  have HR := Lib.hid (fun w ht hz => routinesOK_any a c ls hm hl w ht hz)
  have HK2 := Lib.hid hk
  unfold maxLen at hm hk
  by_cases h1 : 4096 < ls.length ∨ 4096 < ks.length
  · have HF : Hid (allF ls ks = (0, 0, 2)) := Lib.hid (if_pos h1)
    clear ht hz hy HK HR HK2 hl
    by_cases h2 : 4096 < ls.length
    · clear h1
      generalize ls.length = n at *
      generalize ks.length = m at *
      go_enter Tryz.func39, Tryz.ntmps39
      go_wp2
      go_ret3
      exact ⟨ret_iii (by rw [HF.out]) (by rw [HF.out]) (by rw [HF.out]), Below.refl _ _⟩
    · have h3 : 4096 < ks.length := by omega
      clear h1
      generalize ls.length = n at *
      generalize ks.length = m at *
      go_enter Tryz.func39, Tryz.ntmps39
      go_wp2
      go_ret3
      exact ⟨ret_iii (by rw [HF.out]) (by rw [HF.out]) (by rw [HF.out]), Below.refl _ _⟩
  have e1 : allF ls ks = if (kindsB ks && wellR ls) = false then (0, 0, 1) else allGo ks ls 0 := if_neg h1
  have hz1 : ¬ 4096 < ls.length := by omega
  have hk1 : ¬ 4096 < ks.length := by omega
  have HT := Lib.hid ht
  have HZ := Lib.hid hz
  have HY := Lib.hid hy
  clear ht hz hy h1
  cases hkb : kindsB ks
  · have HF : Hid (allF ls ks = (0, 0, 1)) := Lib.hid (e1.trans (if_pos (by rw [hkb]; rfl)))
    rw [hkb] at HK
    clear e1 hkb HK2 hl
    generalize ls.length = n at *
    generalize ks.length = m at *
    go_enter Tryz.func39, Tryz.ntmps39
    go_wp2_with (go_at_call 37; refine (HK.out _ HY.out).mono ?_; rintro e w' ⟨rfl, rfl⟩)
    go_ret3
    exact ⟨ret_iii (by rw [HF.out]) (by rw [HF.out]) (by rw [HF.out]), Below.refl _ _⟩
  rw [hkb] at HK
  cases hwr : wellR ls
  · have HF : Hid (allF ls ks = (0, 0, 1)) := Lib.hid (e1.trans (if_pos (by rw [hkb, hwr]; rfl)))
    rw [hwr] at HR
    clear e1 hkb hwr HK2 hl
    generalize ls.length = n at *
    generalize ks.length = m at *
    go_enter Tryz.func39, Tryz.ntmps39
    go_wp2_with first | (go_at_call 37; refine (HK.out _ HY.out).mono ?_; rintro e w' ⟨rfl, rfl⟩) | (go_at_call 38; refine (HR.out _ HT.out.op HZ.out).mono ?_; rintro e w2 ⟨rfl, hb2⟩; have Hb2 := Lib.hid hb2; clear hb2)
    go_ret3
    exact ⟨ret_iii (by rw [HF.out]) (by rw [HF.out]) (by rw [HF.out]), Hb2.out⟩
  rw [hwr] at HR
  obtain ⟨h6, hwa⟩ := wellR_all hwr
  obtain ⟨R, hRR⟩ : ∃ R, allGo ks ls 0 = R := ⟨_, rfl⟩
  have HRR : Hid (allGo ks (ls.drop 0) 0 = R) := Lib.hid hRR
  have HF : Hid (allF ls ks = R) := Lib.hid (by rw [e1, if_neg (by rw [hkb, hwr]; decide), hRR])
  have HKB := Lib.hid hkb
  have HWA := Lib.hid hwa
  have HM := Lib.hid hl
  have HA := Lib.hid (fun w (h : Routs w a ls) j (hj : j < ls.length) => h.at hj)
  have HGO := Lib.hid (fun j (h : j < ls.length) => allGo_step (ks := ks) h)
  have HGE : Hid (∀ j, ls.length ≤ j → ls.drop j = []) := Lib.hid (fun j h => List.drop_eq_nil_of_le h)
  clear e1 hkb hwr hwa hl hRR
  generalize hL : ls.length = n at *
  generalize hL2 : ks.length = m at *
  have HM3 := Lib.hid hL2
  clear hL hL2
  go_enter Tryz.func39, Tryz.ntmps39
  go_wp2_with first | (go_at_call 37; refine (HK.out _ HY.out).mono ?_; rintro e w' ⟨rfl, rfl⟩) | (go_at_call 38; refine (HR.out _ HT.out.op HZ.out).mono ?_; rintro e w2 ⟨rfl, hb2⟩; have Hb2 := Lib.hid hb2; clear hb2)
  go_loopw [29] (fun i wr => ∃ j : Nat, j ≤ n ∧ i = .int .i64 j ∧ Hid (allGo ks (ls.drop j) j = R) ∧ Hid (Below w.heap.size w wr)) (fun i _ => n - (intOf i).toNat)
  case atStart => exact ⟨0, Nat.zero_le _, rfl, HRR, Hb2⟩
  case round =>
    obtain ⟨j, hj, rfl, hr, hb⟩ := hrel
    by_cases hlt : j < n
    · obtain ⟨b, o, x, c2, rfl, hbl, hcell, hlies⟩ := HA.out w HZ.out j hlt
      have hb' := hb.out
      have d0 := (hb'.cell (p := ⟨b, o + j, none⟩) hbl).trans hcell
      have hg := HGO.out j hlt
      rw [hr.out] at hg
      have hcv := codeV_all (ks := ks) (HWA.out j hlt) HKB.out (show j ≤ 6 by omega)
      have Ha := hb.out.alloc hb.out.size (.cells #[.slice x (ls.getD j []).length c2] 74)
      have hC := verifyCode_any (ls.getD j []) x c2 ks k kc j (HM.out j hlt) (by rw [HM3.out]; exact HK2.out) _ (HT.out.below Ha (Nat.le_refl _)) (hlies.below Ha (Nat.le_refl _)) (HY.out.below Ha (Nat.le_refl _))
      rw [hcv, HM3.out] at hC
      have HC := Lib.hid hC
      have HAl := Lib.hid Ha
      clear hcell hlies hb' hcv hC Ha hr
      by_cases h0 : (vVer (ls.getD j []) ks j).2 = 0
      · rw [if_neg (fun q => q h0)] at hg
        rw [h0] at HC
        have HG := Lib.hid hg
        clear hg h0
        generalize (vVer (ls.getD j []) ks j).1 = u at *
        generalize (ls.getD j []).length = q at *
        go_wp2_with fail
        refine Calls.mono HC.out ?_
        rintro e w3 ⟨rfl, hb3⟩
        have Hb3 := Lib.hid (HAl.out.trans (hb3.mono HAl.out.size))
        clear hb3 d0
        go_wp2
        go_roundw
        case rel => exact ⟨j + 1, by omega, by go_num, Lib.hid HG.out.symm, Hb3⟩
        case measure => simp [intOf]; omega
      · rw [if_pos h0] at hg
        have HG := Lib.hid hg
        have hq : ((vVer (ls.getD j []) ks j).2 != 0) = true := by rw [bne_iff_ne]; exact h0
        clear hg h0
        generalize (vVer (ls.getD j []) ks j).1 = u at *
        generalize (vVer (ls.getD j []) ks j).2 = v at *
        generalize (ls.getD j []).length = q at *
        go_wp2_with fail
        refine Calls.mono HC.out ?_
        rintro e w3 ⟨rfl, hb3⟩
        have Hb3 := Lib.hid (HAl.out.trans (hb3.mono HAl.out.size))
        clear hb3 d0
        go_wp2
        go_ret3
        exact ⟨ret_iii (by rw [HF.out, HG.out]) (by rw [HF.out, HG.out]) (by rw [HF.out, HG.out]), Hb3.out⟩
    · obtain rfl : j = n := by omega
      have HG : Hid (R = (0, 0, 0)) := Lib.hid (by rw [← hr.out, HGE.out j (Nat.le_refl _)]; rfl)
      clear hr
      go_wp2
      go_ret3
      exact ⟨ret_iii (by rw [HF.out, HG.out]) (by rw [HF.out, HG.out]) (by rw [HF.out, HG.out]), hb.out⟩
end Go.Proofs.YtmpppfibeoghaaaGreatDoor
namespace Go.Proofs.YtmpppfibeoghaaaGreatDoor
open Go.ChangeShapes Go.WideShapes Go.ChangeAt Go.RowKit
set_option linter.unusedVariables false
theorem l04Routines_any (a : Option Addr) (c : Nat) (ls : List (List Ins)) (hm : ls.length ≤ maxLen) (hl : ∀ j, j < ls.length → (ls.getD j []).length ≤ maxLen) (w : World) (hz : Routs w a ls) :
    Calls Tryz.prog 78 #[.slice a ls.length c] w fun e w' => e = .returned (.bool (wellR ls)) ∧ Below w.heap.size w w' := by
  unfold maxLen at hm
  by_cases h6 : 6 < ls.length
  · have HR := Lib.hid (wellR_long h6)
    generalize wellR ls = R at *
    generalize ls.length = n at *
    go_enter Tryz.func78, Tryz.ntmps78
    go_wp2
    go_ret
    exact ⟨by rw [HR.out]; rfl, Below.refl _ _⟩
  have HZ := Lib.hid hz
  have HM := Lib.hid hl
  have HN := Lib.hid (fun j (h : j < ls.length) g => wellR_no (j := j) h g)
  have HY := Lib.hid (fun g => wellR_yes (ls := ls) (by omega) g)
  have HA := Lib.hid (fun w (h : Routs w a ls) j (hj : j < ls.length) => h.at hj)
  clear hz hl
  generalize wellR ls = R at *
  generalize hL : ls.length = n at *
  have HL := Lib.hid hL
  clear hL
  go_enter Tryz.func78, Tryz.ntmps78
  go_wp2
  go_loopw [3] (fun i wr => ∃ j : Nat, j ≤ n ∧ i = .int .i64 j ∧ Hid (∀ q, q < j → wellB (ls.getD q []) = true) ∧ Hid (Below w.heap.size w wr)) (fun i _ => n - (intOf i).toNat)
  case atStart => exact ⟨0, Nat.zero_le _, rfl, Lib.hid (by intro q hq; omega), Lib.hid (Below.refl _ _)⟩
  case round =>
    obtain ⟨j, hj, rfl, hr, hb⟩ := hrel
    by_cases hlt : j < n
    · obtain ⟨b, o, x, c2, rfl, hbl, hcell, hlies⟩ := HA.out w HZ.out j hlt
      have hb' := hb.out
      have d0 := (hb'.cell (p := ⟨b, o + j, none⟩) hbl).trans hcell
      have hmj := HM.out j hlt
      unfold maxLen at hmj
      have HLI := Lib.hid (hlies.below hb' (Nat.le_refl _))
      have HNj := Lib.hid (HN.out j hlt)
      have HX : Hid (wellB (ls.getD j []) = true → ∀ q, q < j + 1 → wellB (ls.getD q []) = true) := Lib.hid (fun g q hq => by
          by_cases e : q = j
          · rw [e]; exact g
          · exact hr.out q (by omega))
      clear hcell hlies hb'
      generalize ls.getD j [] = zs at *
      by_cases h40 : 40 < zs.length
      · have hk : wellB zs = false := by unfold wellB; rw [decide_eq_false (by omega)]; rfl
        have HR := Lib.hid (HNj.out hk)
        clear hk HNj HX HLI
        generalize zs.length = m at *
        go_wp2
        go_ret
        exact ⟨by rw [HR.out]; rfl, hb.out⟩
      have hw : wellB zs = okAll zs := by unfold wellB; rw [decide_eq_true (by omega)]; rfl
      have HW := Lib.hid (fun w2 hz => l02All_any zs x c2 (by omega) w2 hz)
      cases hk : okAll zs
      · have HR := Lib.hid (HNj.out (hw.trans hk))
        rw [hk] at HW
        clear hk HNj HX hw
        generalize zs.length = m at *
        go_wp2_with fail
        refine Calls.mono (HW.out _ HLI.out) ?_
        rintro e w2 ⟨rfl, hb2⟩
        have Hb2 := Lib.hid (hb.out.trans (hb2.mono hb.out.size))
        clear hb2
        go_wp2
        go_ret
        exact ⟨by rw [HR.out]; rfl, Hb2.out⟩
      · have HX2 := Lib.hid (HX.out (hw.trans hk))
        rw [hk] at HW
        clear hk HNj HX hw
        generalize zs.length = m at *
        go_wp2_with fail
        refine Calls.mono (HW.out _ HLI.out) ?_
        rintro e w2 ⟨rfl, hb2⟩
        have Hb2 := Lib.hid (hb.out.trans (hb2.mono hb.out.size))
        clear hb2 d0
        go_wp2
        go_roundw
        case rel => exact ⟨j + 1, by omega, by go_num, HX2, Hb2⟩
        case measure => simp [intOf]; omega
    · obtain rfl : j = n := by omega
      have HR := Lib.hid (HY.out hr.out)
      go_wp2
      go_ret
      exact ⟨by rw [HR.out]; rfl, hb.out⟩
set_option maxHeartbeats 1000000 in
theorem l04All_any (a : Option Addr) (c : Nat) (ls : List (List Ins)) (ks : List Int) (k : Option Addr) (kc : Nat) (hkb : kindsB ks = true) (hwr : wellR ls = true) (w : World) (hz : Routs w a ls) (hy : Lies w k (kC ks)) :
    Calls Tryz.prog 79 #[.slice a ls.length c, .slice k ks.length kc] w fun e w' => e = .returned (.tuple #[.int .i64 (allGo ks ls 0).1, .int .i64 (allGo ks ls 0).2.1, .int .i64 (allGo ks ls 0).2.2]) ∧ Below w.heap.size w w' := by
  obtain ⟨h6, hwa⟩ := wellR_all hwr
  obtain ⟨R, hRR⟩ : ∃ R, allGo ks ls 0 = R := ⟨_, rfl⟩
  have HRR : Hid (allGo ks (ls.drop 0) 0 = R) := Lib.hid hRR
  rw [hRR]
  have HKB := Lib.hid (kindsB_all hkb)
  have HWA := Lib.hid hwa
  have HZ := Lib.hid hz
  have HY := Lib.hid hy
  have HA := Lib.hid (fun w (h : Routs w a ls) j (hj : j < ls.length) => h.at hj)
  have HGO := Lib.hid (fun j (h : j < ls.length) => allGo_step (ks := ks) h)
  have HGE : Hid (∀ j, ls.length ≤ j → ls.drop j = []) := Lib.hid (fun j h => List.drop_eq_nil_of_le h)
  clear hkb hwr hwa hRR hz hy
  generalize hL : ls.length = n at *
  generalize hL2 : ks.length = m at *
  have HM3 := Lib.hid hL2
  clear hL hL2
  go_enter Tryz.func79, Tryz.ntmps79
  go_wp2
  go_loopw [7] (fun i wr => ∃ j : Nat, j ≤ n ∧ i = .int .i64 j ∧ Hid (allGo ks (ls.drop j) j = R) ∧ Hid (Below w.heap.size w wr)) (fun i _ => n - (intOf i).toNat)
  case atStart => exact ⟨0, Nat.zero_le _, rfl, HRR, Lib.hid (Below.refl _ _)⟩
  case round =>
    obtain ⟨j, hj, rfl, hr, hb⟩ := hrel
    by_cases hlt : j < n
    · obtain ⟨b, o, x, c2, rfl, hbl, hcell, hlies⟩ := HA.out w HZ.out j hlt
      have hb' := hb.out
      have d0 := (hb'.cell (p := ⟨b, o + j, none⟩) hbl).trans hcell
      have hg := HGO.out j hlt
      rw [hr.out] at hg
      obtain ⟨hw1, hw2⟩ := wellB_ok (HWA.out j hlt)
      have hC := l04Verify_any k kc ks (by rw [HM3.out]; exact HKB.out.1) HKB.out.2 j (ls.getD j []) x c2 hw1 (fun q hq => okAll_at hw2 hq) _ (HY.out.below hb' (Nat.le_refl _)) (hlies.below hb' (Nat.le_refl _))
      rw [HM3.out] at hC
      have HC := Lib.hid hC
      clear hcell hlies hb' hC hr hw1 hw2
      by_cases h0 : (vVer (ls.getD j []) ks j).2 = 0
      · rw [if_neg (fun q => q h0)] at hg
        rw [h0] at HC
        have HG := Lib.hid hg
        clear hg h0
        generalize (vVer (ls.getD j []) ks j).1 = u at *
        generalize (ls.getD j []).length = q at *
        go_wp2_with fail
        refine Calls.mono HC.out ?_
        rintro e w3 ⟨rfl, hb3⟩
        have Hb3 := Lib.hid (hb.out.trans (hb3.mono hb.out.size))
        clear hb3 d0
        go_wp2
        go_roundw
        case rel => exact ⟨j + 1, by omega, by go_num, Lib.hid HG.out.symm, Hb3⟩
        case measure => simp [intOf]; omega
      · rw [if_pos h0] at hg
        have HG := Lib.hid hg
        have hq : ((vVer (ls.getD j []) ks j).2 != 0) = true := by rw [bne_iff_ne]; exact h0
        clear hg h0
        generalize (vVer (ls.getD j []) ks j).1 = u at *
        generalize (vVer (ls.getD j []) ks j).2 = v at *
        generalize (ls.getD j []).length = q at *
        go_wp2_with fail
        refine Calls.mono HC.out ?_
        rintro e w3 ⟨rfl, hb3⟩
        have Hb3 := Lib.hid (hb.out.trans (hb3.mono hb.out.size))
        clear hb3 d0
        go_wp2
        go_ret3
        exact ⟨ret_iii (by rw [HG.out]) (by rw [HG.out]) (by rw [HG.out]), Hb3.out⟩
    · obtain rfl : j = n := by omega
      have HG : Hid (R = (0, 0, 0)) := Lib.hid (by rw [← hr.out, HGE.out j (Nat.le_refl _)]; rfl)
      clear hr
      go_wp2
      go_ret3
      exact ⟨ret_iii (by rw [HG.out]) (by rw [HG.out]) (by rw [HG.out]), hb.out⟩
end Go.Proofs.YtmpppfibeoghaaaGreatDoor
