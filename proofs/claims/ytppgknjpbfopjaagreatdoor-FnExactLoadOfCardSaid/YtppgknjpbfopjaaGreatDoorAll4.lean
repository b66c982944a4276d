/- The exact law of VerifyCode. -/
import Derived.Test.YtppgknjpbfopjaaGreatDoorSpec5
import Derived.Test.YtppgknjpbfopjaaGreatDoorMatchL
namespace Go.Proofs.YtppgknjpbfopjaaGreatDoor
open Go.ChangeShapes Go.WideShapes Go.ChangeAt Go.RowKit
end Go.Proofs.YtppgknjpbfopjaaGreatDoor
namespace Go.Proofs.YtppgknjpbfopjaaGreatDoor
open Go.ChangeShapes Go.WideShapes Go.ChangeAt Go.RowKit
set_option linter.unusedVariables false
def wellR (ls : List (List Ins)) : Bool := decide (ls.length ≤ 6) && ls.all wellB
theorem wellR_long {ls : List (List Ins)} (h : 6 < ls.length) : wellR ls = false := by unfold wellR; rw [decide_eq_false (by omega)]; rfl
theorem wellR_no {ls : List (List Ins)} {j : Nat} (h : j < ls.length) (g : wellB (ls.getD j []) = false) : wellR ls = false := by
  unfold wellR
  have : ls.all wellB = false := by
    rw [List.all_eq_false]
    exact ⟨ls.getD j [], by simp [List.getD, h], by rw [g]; simp⟩
  rw [this]
  simp
theorem wellR_yes {ls : List (List Ins)} (h : ls.length ≤ 6) (g : ∀ j, j < ls.length → wellB (ls.getD j []) = true) : wellR ls = true := by
  unfold wellR
  rw [decide_eq_true h, Bool.true_and, List.all_eq_true]
  intro z hz
  obtain ⟨j, hj, rfl⟩ := List.getElem_of_mem hz
  have := g j hj
  simpa [List.getD, hj] using this
theorem wellR_all {ls : List (List Ins)} (h : wellR ls = true) : ls.length ≤ 6 ∧ ∀ j, j < ls.length → wellB (ls.getD j []) = true := by
  unfold wellR at h
  simp only [Bool.and_eq_true, decide_eq_true_iff, List.all_eq_true] at h
  exact ⟨h.1, fun j hj => h.2 _ (by simp [List.getD, hj])⟩
theorem rout1_any (zs : List Ins) (x : Option Addr) (c : Nat) (hm : zs.length ≤ maxLen) (w : World) (ht : OpTab w) (hz : Lies w x (flat insC zs)) :
    Calls Tryz.prog 135 #[.agg #[.slice x zs.length c]] w fun e w' => e = .returned (.bool (wellB zs)) ∧ Below w.heap.size w w' := by
  have Ha := Lib.hid ((Below.refl w.heap.size w).alloc (Nat.le_refl _) (.cells #[.slice x zs.length c] 108))
  have HW := Lib.hid (wellFormed_any zs x c hm _ (ht.below Ha.out (Nat.le_refl _)) (hz.below Ha.out (Nat.le_refl _)))
  clear ht hz hm
  generalize wellB zs = R at *
  generalize zs.length = n at *
  go_enter Tryz.func135, Tryz.ntmps135
  go_wp2_with fail
  refine Calls.mono HW.out ?_
  rintro e w2 ⟨rfl, hb2⟩
  have Hb2 := Lib.hid (Ha.out.trans (hb2.mono Ha.out.size))
  clear hb2
  go_wp2
  go_ret
  exact ⟨rfl, Hb2.out⟩
set_option maxHeartbeats 1000000 in
theorem everyRout_any (a : Option Addr) (c : Nat) (ls : List (List Ins)) (hm : ls.length ≤ maxLen) (hl : ∀ j, j < ls.length → (ls.getD j []).length ≤ maxLen) (w : World) (ht : OpTab w) (hz : Routs w a ls) :
    Calls Tryz.prog 134 #[.slice a ls.length c, .func (.func 135) #[] #[]] w fun e w' => e = .returned (.bool (ls.all wellB)) ∧ Below w.heap.size w w' := by
  unfold maxLen at hm
  have HZ := Lib.hid hz
  have HT := Lib.hid ht
  have HM := Lib.hid hl
  have HN := Lib.hid (fun j (h : j < ls.length) g => all_no wellB [] (l := ls) (j := j) h g)
  have HY := Lib.hid (fun g => all_yes wellB [] (l := ls) g)
  have HA := Lib.hid (fun w (h : Routs w a ls) j (hj : j < ls.length) => h.at hj)
  clear hz ht hl
  generalize ls.all wellB = R at *
  generalize hL : ls.length = n at *
  have HL := Lib.hid hL
  clear hL
  go_enter Tryz.func134, Tryz.ntmps134
  go_wp2
  go_loopw [9] (fun i wr => ∃ j : Nat, j ≤ n ∧ i = .int .i64 j ∧ Hid (∀ q, q < j → wellB (ls.getD q []) = true) ∧ Hid (Below w.heap.size w wr)) (fun i _ => n - (intOf i).toNat)
  case atStart => exact ⟨0, Nat.zero_le _, rfl, Lib.hid (by intro q hq; omega), Lib.hid (Below.refl _ _)⟩
  case round =>
    obtain ⟨j, hj, rfl, hr, hb⟩ := hrel
    by_cases hlt : j < n
    · obtain ⟨b, o, x, c2, rfl, hbl, hcell, hlies⟩ := HA.out w HZ.out j hlt
      have hb' := hb.out
      have d0 := (hb'.cell (p := ⟨b, o + j, none⟩) hbl).trans hcell
      have HM2 := Lib.hid (HM.out j hlt)
      have HLI := Lib.hid (fun w2 (h : Below w.heap.size w w2) => hlies.below h (Nat.le_refl _))
      have HW := Lib.hid (fun w2 ht hz => rout1_any (ls.getD j []) x c2 (HM.out j hlt) w2 ht hz)
      have HNj := Lib.hid (HN.out j hlt)
      have HX : Hid (wellB (ls.getD j []) = true → ∀ q, q < j + 1 → wellB (ls.getD q []) = true) := Lib.hid (fun g q hq => by
          by_cases e : q = j
          · rw [e]; exact g
          · exact hr.out q (by omega))
      clear hcell hlies hb'
      generalize ls.getD j [] = zs at *
      have Ha := Lib.hid (hb.out.alloc hb.out.size (.cells #[.slice x zs.length c2] 108))
      cases hk : wellB zs
      · have HR := Lib.hid (HNj.out hk)
        rw [hk] at HW
        clear hk HNj HX
        generalize zs.length = m at *
        go_wp2_with fail
        refine Calls.mono (HW.out _ (HT.out.below Ha.out (Nat.le_refl _)) (HLI.out _ Ha.out)) ?_
        rintro e w2 ⟨rfl, hb2⟩
        have Hb2 := Lib.hid (Ha.out.trans (hb2.mono Ha.out.size))
        clear hb2
        go_wp2
        go_ret
        exact ⟨by rw [HR.out]; rfl, Hb2.out⟩
      · have HX2 := Lib.hid (HX.out hk)
        rw [hk] at HW
        clear hk HNj HX
        generalize zs.length = m at *
        go_wp2_with fail
        refine Calls.mono (HW.out _ (HT.out.below Ha.out (Nat.le_refl _)) (HLI.out _ Ha.out)) ?_
        rintro e w2 ⟨rfl, hb2⟩
        have Hb2 := Lib.hid (Ha.out.trans (hb2.mono Ha.out.size))
        clear hb2 d0
        go_wp2
        go_roundw
        case rel => exact ⟨j + 1, by omega, by go_num, HX2, Hb2⟩
        case measure => simp [intOf]; omega
    · obtain rfl : j = n := by omega
      have HR := Lib.hid (HY.out hr.out)
      go_wp2
      go_ret
      exact ⟨by rw [HR.out]; rfl, hb.out⟩
theorem routinesOK_any (a : Option Addr) (c : Nat) (ls : List (List Ins)) (hm : ls.length ≤ maxLen) (hl : ∀ j, j < ls.length → (ls.getD j []).length ≤ maxLen) (w : World) (ht : OpTab w) (hz : Routs w a ls) :
    Calls Tryz.prog 73 #[.slice a ls.length c] w fun e w' => e = .returned (.bool (wellR ls)) ∧ Below w.heap.size w w' := by
  have HE := Lib.hid (everyRout_any a c ls hm hl w ht hz)
  unfold maxLen at hm
  by_cases h6 : 6 < ls.length
  · have HR := Lib.hid (wellR_long h6)
    clear HE hl
    generalize wellR ls = R at *
    generalize ls.length = n at *
    go_enter Tryz.func73, Tryz.ntmps73
    go_wp2
    go_ret
    exact ⟨by rw [HR.out]; rfl, Below.refl _ _⟩
  have HW : Hid (wellR ls = ls.all wellB) := Lib.hid (by unfold wellR; rw [decide_eq_true (by omega)]; rfl)
  rw [← HW.out] at HE
  have h9 : (ls.length : Int) ≤ 6 := by omega
  clear ht hz HW hl
  generalize wellR ls = R at *
  generalize ls.length = n at *
  go_enter Tryz.func73, Tryz.ntmps73
  go_wp2_with (go_at_call 134; refine HE.out.mono ?_; rintro e w2 ⟨rfl, hb2⟩; have Hb2 := Lib.hid hb2; clear hb2)
  go_ret
  exact ⟨rfl, Hb2.out⟩
end Go.Proofs.YtppgknjpbfopjaaGreatDoor
namespace Go.Proofs.YtppgknjpbfopjaaGreatDoor
open Go.ChangeShapes Go.WideShapes Go.ChangeAt Go.RowKit
set_option linter.unusedVariables false
def allGo (ks : List Int) : List (List Ins) → Nat → Int × Int × Int
  | [], _ => (0, 0, 0)
  | zs :: t, k => if (vVer zs ks k).2 ≠ 0 then ((k : Int), (vVer zs ks k).1, (vVer zs ks k).2) else allGo ks t (k + 1)
def allF (ls : List (List Ins)) (ks : List Int) : Int × Int × Int :=
  if 4096 < ls.length ∨ 4096 < ks.length then (0, 0, 2) else if (kindsB ks && wellR ls) = false then (0, 0, 1) else allGo ks ls 0
theorem allGo_step {ks : List Int} {ls : List (List Ins)} {j : Nat} (h : j < ls.length) : allGo ks (ls.drop j) j = if (vVer (ls.getD j []) ks j).2 ≠ 0 then ((j : Int), (vVer (ls.getD j []) ks j).1, (vVer (ls.getD j []) ks j).2) else allGo ks (ls.drop (j + 1)) (j + 1) := by
  have e : ls.getD j [] = ls[j] := by simp [List.getD, h]
  rw [List.drop_eq_getElem_cons h, allGo, e]
theorem wellB_ok {zs : List Ins} (h : wellB zs = true) : zs.length ≤ 40 ∧ okAll zs = true := by
  unfold wellB at h
  simp only [Bool.and_eq_true, decide_eq_true_iff] at h
  exact h
theorem codeV_all {zs : List Ins} {ks : List Int} {j : Nat} (h : wellB zs = true) (hk : kindsB ks = true) (hj : j ≤ 6) : codeV zs ks j = vVer zs ks j := by
  obtain ⟨h1, h2⟩ := wellB_ok h
  have h8 := (kindsB_all hk).1
  have : argF zs ks j = 0 := by
    unfold argF
    rw [if_neg (by omega), if_neg (by omega), if_neg (by rw [hk, h2]; decide), if_neg (by omega)]
  unfold codeV
  rw [if_neg (by rw [this]; decide)]
theorem ret_iii {a b c d e f : Int} (h : a = d) (g : b = e) (k : c = f) : Ending.returned (.tuple #[.int .i64 a, .int .i64 b, .int .i64 c]) = .returned (.tuple #[.int .i64 d, .int .i64 e, .int .i64 f]) := by rw [h, g, k]
set_option maxHeartbeats 1000000 in
theorem verifyAll_any (a : Option Addr) (c : Nat) (ls : List (List Ins)) (ks : List Int) (k : Option Addr) (kc : Nat) (hm : ls.length ≤ maxLen) (hl : ∀ j, j < ls.length → (ls.getD j []).length ≤ maxLen) (hk : ks.length ≤ maxLen) (w : World) (ht : VTabs w) (hz : Routs w a ls) (hy : Lies w k (kC ks)) :
    Calls Tryz.prog 74 #[.slice a ls.length c, .slice k ks.length kc] w fun e w' => e = .returned (.tuple #[.int .i64 (allF ls ks).1, .int .i64 (allF ls ks).2.1, .int .i64 (allF ls ks).2.2]) ∧ Below w.heap.size w w' := by
  have HK := Lib.hid (fun w hz => kindsOK_any k kc ks hk w hz)
  have HR := Lib.hid (fun w ht hz => routinesOK_any a c ls hm hl w ht hz)
  have HK2 := Lib.hid hk
  unfold maxLen at hm hk
  by_cases h1 : 4096 < ls.length ∨ 4096 < ks.length
  · have HF : Hid (allF ls ks = (0, 0, 2)) := Lib.hid (if_pos h1)
    clear ht hz hy HK HR HK2 hl
    by_cases h2 : 4096 < ls.length
    · clear h1
      generalize ls.length = n at *
      generalize ks.length = m at *
      go_enter Tryz.func74, Tryz.ntmps74
      go_wp2
      go_ret3
      exact ⟨ret_iii (by rw [HF.out]) (by rw [HF.out]) (by rw [HF.out]), Below.refl _ _⟩
    · have h3 : 4096 < ks.length := by omega
      clear h1
      generalize ls.length = n at *
      generalize ks.length = m at *
      go_enter Tryz.func74, Tryz.ntmps74
      go_wp2
      go_ret3
      exact ⟨ret_iii (by rw [HF.out]) (by rw [HF.out]) (by rw [HF.out]), Below.refl _ _⟩
  have e1 : allF ls ks = if (kindsB ks && wellR ls) = false then (0, 0, 1) else allGo ks ls 0 := if_neg h1
  have hz1 : ¬ 4096 < ls.length := by omega
  have hk1 : ¬ 4096 < ks.length := by omega
  have HT := Lib.hid ht
  have HZ := Lib.hid hz
  have HY := Lib.hid hy
  clear ht hz hy h1
  cases hkb : kindsB ks
  · have HF : Hid (allF ls ks = (0, 0, 1)) := Lib.hid (e1.trans (if_pos (by rw [hkb]; rfl)))
    rw [hkb] at HK
    clear e1 hkb HK2 hl
    generalize ls.length = n at *
    generalize ks.length = m at *
    go_enter Tryz.func74, Tryz.ntmps74
    go_wp2_with (go_at_call 72; refine (HK.out _ HY.out).mono ?_; rintro e w' ⟨rfl, rfl⟩)
    go_ret3
    exact ⟨ret_iii (by rw [HF.out]) (by rw [HF.out]) (by rw [HF.out]), Below.refl _ _⟩
  rw [hkb] at HK
  cases hwr : wellR ls
  · have HF : Hid (allF ls ks = (0, 0, 1)) := Lib.hid (e1.trans (if_pos (by rw [hkb, hwr]; rfl)))
    rw [hwr] at HR
    clear e1 hkb hwr HK2 hl
    generalize ls.length = n at *
    generalize ks.length = m at *
    go_enter Tryz.func74, Tryz.ntmps74
    go_wp2_with first | (go_at_call 72; refine (HK.out _ HY.out).mono ?_; rintro e w' ⟨rfl, rfl⟩) | (go_at_call 73; refine (HR.out _ HT.out.op HZ.out).mono ?_; rintro e w2 ⟨rfl, hb2⟩; have Hb2 := Lib.hid hb2; clear hb2)
    go_ret3
    exact ⟨ret_iii (by rw [HF.out]) (by rw [HF.out]) (by rw [HF.out]), Hb2.out⟩
  rw [hwr] at HR
  obtain ⟨h6, hwa⟩ := wellR_all hwr
  obtain ⟨R, hRR⟩ : ∃ R, allGo ks ls 0 = R := ⟨_, rfl⟩
  have HRR : Hid (allGo ks (ls.drop 0) 0 = R) := Lib.hid hRR
  have HF : Hid (allF ls ks = R) := Lib.hid (by rw [e1, if_neg (by rw [hkb, hwr]; decide), hRR])
  have HKB := Lib.hid hkb
  have HWA := Lib.hid hwa
  have HM := Lib.hid hl
  have HA := Lib.hid (fun w (h : Routs w a ls) j (hj : j < ls.length) => h.at hj)
  have HGO := Lib.hid (fun j (h : j < ls.length) => allGo_step (ks := ks) h)
  have HGE : Hid (∀ j, ls.length ≤ j → ls.drop j = []) := Lib.hid (fun j h => List.drop_eq_nil_of_le h)
  clear e1 hkb hwr hwa hl hRR
  generalize hL : ls.length = n at *
  generalize hL2 : ks.length = m at *
  have HM3 := Lib.hid hL2
  clear hL hL2
  go_enter Tryz.func74, Tryz.ntmps74
  go_wp2_with first | (go_at_call 72; refine (HK.out _ HY.out).mono ?_; rintro e w' ⟨rfl, rfl⟩) | (go_at_call 73; refine (HR.out _ HT.out.op HZ.out).mono ?_; rintro e w2 ⟨rfl, hb2⟩; have Hb2 := Lib.hid hb2; clear hb2)
  go_loopw [29] (fun i wr => ∃ j : Nat, j ≤ n ∧ i = .int .i64 j ∧ Hid (allGo ks (ls.drop j) j = R) ∧ Hid (Below w.heap.size w wr)) (fun i _ => n - (intOf i).toNat)
  case atStart => exact ⟨0, Nat.zero_le _, rfl, HRR, Hb2⟩
  case round =>
    obtain ⟨j, hj, rfl, hr, hb⟩ := hrel
    by_cases hlt : j < n
    · obtain ⟨b, o, x, c2, rfl, hbl, hcell, hlies⟩ := HA.out w HZ.out j hlt
      have hb' := hb.out
      have d0 := (hb'.cell (p := ⟨b, o + j, none⟩) hbl).trans hcell
      have hg := HGO.out j hlt
      rw [hr.out] at hg
      have hcv := codeV_all (ks := ks) (HWA.out j hlt) HKB.out (show j ≤ 6 by omega)
      have Ha := hb.out.alloc hb.out.size (.cells #[.slice x (ls.getD j []).length c2] 108)
      have hC := verifyCode_any (ls.getD j []) x c2 ks k kc j (HM.out j hlt) (by rw [HM3.out]; exact HK2.out) _ (HT.out.below Ha (Nat.le_refl _)) (hlies.below Ha (Nat.le_refl _)) (HY.out.below Ha (Nat.le_refl _))
      rw [hcv, HM3.out] at hC
      have HC := Lib.hid hC
      have HAl := Lib.hid Ha
      clear hcell hlies hb' hcv hC Ha hr
      by_cases h0 : (vVer (ls.getD j []) ks j).2 = 0
      · rw [if_neg (fun q => q h0)] at hg
        rw [h0] at HC
        have HG := Lib.hid hg
        clear hg h0
        generalize (vVer (ls.getD j []) ks j).1 = u at *
        generalize (ls.getD j []).length = q at *
        go_wp2_with fail
        refine Calls.mono HC.out ?_
        rintro e w3 ⟨rfl, hb3⟩
        have Hb3 := Lib.hid (HAl.out.trans (hb3.mono HAl.out.size))
        clear hb3 d0
        go_wp2
        go_roundw
        case rel => exact ⟨j + 1, by omega, by go_num, Lib.hid HG.out.symm, Hb3⟩
        case measure => simp [intOf]; omega
      · rw [if_pos h0] at hg
        have HG := Lib.hid hg
        have hq : ((vVer (ls.getD j []) ks j).2 != 0) = true := by rw [bne_iff_ne]; exact h0
        clear hg h0
        generalize (vVer (ls.getD j []) ks j).1 = u at *
        generalize (vVer (ls.getD j []) ks j).2 = v at *
        generalize (ls.getD j []).length = q at *
        go_wp2_with fail
        refine Calls.mono HC.out ?_
        rintro e w3 ⟨rfl, hb3⟩
        have Hb3 := Lib.hid (HAl.out.trans (hb3.mono HAl.out.size))
        clear hb3 d0
        go_wp2
        go_ret3
        exact ⟨ret_iii (by rw [HF.out, HG.out]) (by rw [HF.out, HG.out]) (by rw [HF.out, HG.out]), Hb3.out⟩
    · obtain rfl : j = n := by omega
      have HG : Hid (R = (0, 0, 0)) := Lib.hid (by rw [← hr.out, HGE.out j (Nat.le_refl _)]; rfl)
      clear hr
      go_wp2
      go_ret3
      exact ⟨ret_iii (by rw [HF.out, HG.out]) (by rw [HF.out, HG.out]) (by rw [HF.out, HG.out]), hb.out⟩
end Go.Proofs.YtppgknjpbfopjaaGreatDoor
namespace Go.Proofs.YtppgknjpbfopjaaGreatDoor
open Go.ChangeShapes Go.WideShapes Go.ChangeAt Go.RowKit
set_option linter.unusedVariables false
theorem l04Routines_any (a : Option Addr) (c : Nat) (ls : List (List Ins)) (hm : ls.length ≤ maxLen) (hl : ∀ j, j < ls.length → (ls.getD j []).length ≤ maxLen) (w : World) (hz : Routs w a ls) :
    Calls Tryz.prog 111 #[.slice a ls.length c] w fun e w' => e = .returned (.bool (wellR ls)) ∧ Below w.heap.size w w' := by
  unfold maxLen at hm
  by_cases h6 : 6 < ls.length
  · have HR := Lib.hid (wellR_long h6)
    generalize wellR ls = R at *
    generalize ls.length = n at *
    go_enter Tryz.func111, Tryz.ntmps111
    go_wp2
    go_ret
    exact ⟨by rw [HR.out]; rfl, Below.refl _ _⟩
  have HZ := Lib.hid hz
  have HM := Lib.hid hl
  have HN := Lib.hid (fun j (h : j < ls.length) g => wellR_no (j := j) h g)
  have HY := Lib.hid (fun g => wellR_yes (ls := ls) (by omega) g)
  have HA := Lib.hid (fun w (h : Routs w a ls) j (hj : j < ls.length) => h.at hj)
  clear hz hl
  generalize wellR ls = R at *
  generalize hL : ls.length = n at *
  have HL := Lib.hid hL
  clear hL
  go_enter Tryz.func111, Tryz.ntmps111
  go_wp2
  go_loopw [3] (fun i wr => ∃ j : Nat, j ≤ n ∧ i = .int .i64 j ∧ Hid (∀ q, q < j → wellB (ls.getD q []) = true) ∧ Hid (Below w.heap.size w wr)) (fun i _ => n - (intOf i).toNat)
  case atStart => exact ⟨0, Nat.zero_le _, rfl, Lib.hid (by intro q hq; omega), Lib.hid (Below.refl _ _)⟩
  case round =>
    obtain ⟨j, hj, rfl, hr, hb⟩ := hrel
    by_cases hlt : j < n
    · obtain ⟨b, o, x, c2, rfl, hbl, hcell, hlies⟩ := HA.out w HZ.out j hlt
      have hb' := hb.out
      have d0 := (hb'.cell (p := ⟨b, o + j, none⟩) hbl).trans hcell
      have hmj := HM.out j hlt
      unfold maxLen at hmj
      have HLI := Lib.hid (hlies.below hb' (Nat.le_refl _))
      have HNj := Lib.hid (HN.out j hlt)
      have HX : Hid (wellB (ls.getD j []) = true → ∀ q, q < j + 1 → wellB (ls.getD q []) = true) := Lib.hid (fun g q hq => by
          by_cases e : q = j
          · rw [e]; exact g
          · exact hr.out q (by omega))
      clear hcell hlies hb'
      generalize ls.getD j [] = zs at *
      by_cases h40 : 40 < zs.length
      · have hk : wellB zs = false := by unfold wellB; rw [decide_eq_false (by omega)]; rfl
        have HR := Lib.hid (HNj.out hk)
        clear hk HNj HX HLI
        generalize zs.length = m at *
        go_wp2
        go_ret
        exact ⟨by rw [HR.out]; rfl, hb.out⟩
      have hw : wellB zs = okAll zs := by unfold wellB; rw [decide_eq_true (by omega)]; rfl
      have HW := Lib.hid (fun w2 hz => l02All_any zs x c2 (by omega) w2 hz)
      cases hk : okAll zs
      · have HR := Lib.hid (HNj.out (hw.trans hk))
        rw [hk] at HW
        clear hk HNj HX hw
        generalize zs.length = m at *
        go_wp2_with fail
        refine Calls.mono (HW.out _ HLI.out) ?_
        rintro e w2 ⟨rfl, hb2⟩
        have Hb2 := Lib.hid (hb.out.trans (hb2.mono hb.out.size))
        clear hb2
        go_wp2
        go_ret
        exact ⟨by rw [HR.out]; rfl, Hb2.out⟩
      · have HX2 := Lib.hid (HX.out (hw.trans hk))
        rw [hk] at HW
        clear hk HNj HX hw
        generalize zs.length = m at *
        go_wp2_with fail
        refine Calls.mono (HW.out _ HLI.out) ?_
        rintro e w2 ⟨rfl, hb2⟩
        have Hb2 := Lib.hid (hb.out.trans (hb2.mono hb.out.size))
        clear hb2 d0
        go_wp2
        go_roundw
        case rel => exact ⟨j + 1, by omega, by go_num, HX2, Hb2⟩
        case measure => simp [intOf]; omega
    · obtain rfl : j = n := by omega
      have HR := Lib.hid (HY.out hr.out)
      go_wp2
      go_ret
      exact ⟨by rw [HR.out]; rfl, hb.out⟩
set_option maxHeartbeats 1000000 in
theorem l04All_any (a : Option Addr) (c : Nat) (ls : List (List Ins)) (ks : List Int) (k : Option Addr) (kc : Nat) (hkb : kindsB ks = true) (hwr : wellR ls = true) (w : World) (hz : Routs w a ls) (hy : Lies w k (kC ks)) :
    Calls Tryz.prog 112 #[.slice a ls.length c, .slice k ks.length kc] w fun e w' => e = .returned (.tuple #[.int .i64 (allGo ks ls 0).1, .int .i64 (allGo ks ls 0).2.1, .int .i64 (allGo ks ls 0).2.2]) ∧ Below w.heap.size w w' := by
  obtain ⟨h6, hwa⟩ := wellR_all hwr
  obtain ⟨R, hRR⟩ : ∃ R, allGo ks ls 0 = R := ⟨_, rfl⟩
  have HRR : Hid (allGo ks (ls.drop 0) 0 = R) := Lib.hid hRR
  rw [hRR]
  have HKB := Lib.hid (kindsB_all hkb)
  have HWA := Lib.hid hwa
  have HZ := Lib.hid hz
  have HY := Lib.hid hy
  have HA := Lib.hid (fun w (h : Routs w a ls) j (hj : j < ls.length) => h.at hj)
  have HGO := Lib.hid (fun j (h : j < ls.length) => allGo_step (ks := ks) h)
  have HGE : Hid (∀ j, ls.length ≤ j → ls.drop j = []) := Lib.hid (fun j h => List.drop_eq_nil_of_le h)
  clear hkb hwr hwa hRR hz hy
  generalize hL : ls.length = n at *
  generalize hL2 : ks.length = m at *
  have HM3 := Lib.hid hL2
  clear hL hL2
  go_enter Tryz.func112, Tryz.ntmps112
  go_wp2
  go_loopw [7] (fun i wr => ∃ j : Nat, j ≤ n ∧ i = .int .i64 j ∧ Hid (allGo ks (ls.drop j) j = R) ∧ Hid (Below w.heap.size w wr)) (fun i _ => n - (intOf i).toNat)
  case atStart => exact ⟨0, Nat.zero_le _, rfl, HRR, Lib.hid (Below.refl _ _)⟩
  case round =>
    obtain ⟨j, hj, rfl, hr, hb⟩ := hrel
    by_cases hlt : j < n
    · obtain ⟨b, o, x, c2, rfl, hbl, hcell, hlies⟩ := HA.out w HZ.out j hlt
      have hb' := hb.out
      have d0 := (hb'.cell (p := ⟨b, o + j, none⟩) hbl).trans hcell
      have hg := HGO.out j hlt
      rw [hr.out] at hg
      obtain ⟨hw1, hw2⟩ := wellB_ok (HWA.out j hlt)
      have hC := l04Verify_any k kc ks (by rw [HM3.out]; exact HKB.out.1) HKB.out.2 j (ls.getD j []) x c2 hw1 (fun q hq => okAll_at hw2 hq) _ (HY.out.below hb' (Nat.le_refl _)) (hlies.below hb' (Nat.le_refl _))
      rw [HM3.out] at hC
      have HC := Lib.hid hC
      clear hcell hlies hb' hC hr hw1 hw2
      by_cases h0 : (vVer (ls.getD j []) ks j).2 = 0
      · rw [if_neg (fun q => q h0)] at hg
        rw [h0] at HC
        have HG := Lib.hid hg
        clear hg h0
        generalize (vVer (ls.getD j []) ks j).1 = u at *
        generalize (ls.getD j []).length = q at *
        go_wp2_with fail
        refine Calls.mono HC.out ?_
        rintro e w3 ⟨rfl, hb3⟩
        have Hb3 := Lib.hid (hb.out.trans (hb3.mono hb.out.size))
        clear hb3 d0
        go_wp2
        go_roundw
        case rel => exact ⟨j + 1, by omega, by go_num, Lib.hid HG.out.symm, Hb3⟩
        case measure => simp [intOf]; omega
      · rw [if_pos h0] at hg
        have HG := Lib.hid hg
        have hq : ((vVer (ls.getD j []) ks j).2 != 0) = true := by rw [bne_iff_ne]; exact h0
        clear hg h0
        generalize (vVer (ls.getD j []) ks j).1 = u at *
        generalize (vVer (ls.getD j []) ks j).2 = v at *
        generalize (ls.getD j []).length = q at *
        go_wp2_with fail
        refine Calls.mono HC.out ?_
        rintro e w3 ⟨rfl, hb3⟩
        have Hb3 := Lib.hid (hb.out.trans (hb3.mono hb.out.size))
        clear hb3 d0
        go_wp2
        go_ret3
        exact ⟨ret_iii (by rw [HG.out]) (by rw [HG.out]) (by rw [HG.out]), Hb3.out⟩
    · obtain rfl : j = n := by omega
      have HG : Hid (R = (0, 0, 0)) := Lib.hid (by rw [← hr.out, HGE.out j (Nat.le_refl _)]; rfl)
      clear hr
      go_wp2
      go_ret3
      exact ⟨ret_iii (by rw [HG.out]) (by rw [HG.out]) (by rw [HG.out]), hb.out⟩
end Go.Proofs.YtppgknjpbfopjaaGreatDoor
namespace Go.Proofs.YtppgknjpbfopjaaGreatDoor
open Go.ChangeShapes Go.WideShapes Go.ChangeAt Go.RowKit
set_option linter.unusedVariables false
/-- What came in: a routine, its instructions behind it. -/
def RtOK (W : World) (x : RT × List Ins) : Prop := x.1.2.1 = x.2.length ∧ Lies W x.1.1 (flat insC x.2) ∧ x.2.length ≤ maxLen
theorem cRt : Tryz.prog.cellsOf 113 = 1 := by kernel_rfl
theorem cSl : Tryz.prog.cellsOf 111 = 1 := by kernel_rfl
theorem came_rt {W : World} {cs : List Value} (h : Came Tryz.prog W 113 cs) : ∃ x : RT × List Ins, RtOK W x ∧ cs = rtC x.1 := by
  obtain ⟨hl, hf⟩ := came_struct Tryz.underlying113 h
  have hl1 : cs.length = 1 := hl.trans cRt
  clear hl
  obtain ⟨v, rfl⟩ : ∃ v, cs = [v] := by
    cases cs with
    | nil => cases hl1
    | cons v t =>
      cases t with
      | nil => exact ⟨v, rfl⟩
      | cons u t => cases hl1
  have h0 := hf 0 _ rfl
  have hw : (([v] : List Value).drop 0).take (Tryz.prog.cellsOf 111) = [v] := (congrArg (fun k => (([v] : List Value).drop 0).take k) cSl).trans rfl
  have h0' : Came Tryz.prog W 111 [v] := hw ▸ h0
  rcases came_slice Tryz.underlying111 h0' with e | ⟨x, len, cap, e, _⟩
  · simp only [List.cons.injEq, and_true] at e
    subst e
    obtain ⟨hm, _, zs, hzl, hz⟩ := came_insM h0'
    exact ⟨((none, 0, 0), zs), ⟨hzl.symm, hz, by show zs.length ≤ maxLen; omega⟩, rfl⟩
  · simp only [List.cons.injEq, and_true] at e
    subst e
    obtain ⟨hm, _, zs, hzl, hz⟩ := came_insM h0'
    exact ⟨((some x, len, cap), zs), ⟨hzl.symm, hz, by show zs.length ≤ maxLen; omega⟩, rfl⟩
theorem came_rts {W : World} {a : Option Addr} {n c : Nat} (h : Came Tryz.prog W 23 [.slice a n c]) : n ≤ maxLen ∧ ∃ ls : List (List Ins), ls.length = n ∧ Routs W a ls ∧ ∀ j, j < ls.length → (ls.getD j []).length ≤ maxLen := by
  obtain ⟨h1, _, zs, h3, h4⟩ := lies_came (α := {x : RT × List Ins // RtOK W x}) (fun x => rtC x.1.1) (fun x => rtC_len x.1.1) (by decide) Tryz.underlying23 cRt (fun es g => by
    obtain ⟨x, hx, e⟩ := came_rt g
    exact ⟨⟨x, hx⟩, e⟩) h
  have hj : ∀ j, (hj : j < zs.length) → (zs.map fun x => x.1.2).getD j [] = zs[j].1.2 ∧ (zs.map fun x => x.1.1).getD j (none, 0, 0) = zs[j].1.1 := fun j hj => by simp [List.getD, hj]
  refine ⟨h1, zs.map fun x => x.1.2, by simpa using h3, ⟨zs.map fun x => x.1.1, by simp, ?_, fun j h' => ?_⟩, fun j h' => ?_⟩
  · have : flat rtC (zs.map fun x => x.1.1) = flat (fun x : {x : RT × List Ins // RtOK W x} => rtC x.1.1) zs := by simp [flat, List.flatMap_map]
    rw [this]
    exact h4
  · simp only [List.length_map] at h'
    rw [(hj j h').1, (hj j h').2]
    exact ⟨zs[j].2.1, zs[j].2.2.1⟩
  · simp only [List.length_map] at h'
    rw [(hj j h').1]
    exact zs[j].2.2.2
theorem toInstrS_ex (zs : List Ins) (a : Option Addr) (c : Nat) (hn : zs.length ≤ 1048576) (w : World) (hz : Lies w a (flat insC zs)) :
    Calls Tryz.prog 142 #[.slice a zs.length c] w fun e w' => ∃ g, w.heap.size ≤ g ∧ e = .returned (.slice (some ⟨g, 0, none⟩) zs.length zs.length) ∧ Lies w' (some ⟨g, 0, none⟩) (flat insC zs) ∧ Below w.heap.size w w' :=
  (toInstrS_any zs a c hn w hz).mono fun e w' ⟨h1, h2, h3⟩ => ⟨_, Nat.le_refl _, h1, lies_own h2, h3⟩
def RtPost (zs : List Ins) (w : World) (e : Ending) (w' : World) : Prop := ∃ g, w.heap.size ≤ g ∧ e = .returned (.agg #[.slice (some ⟨g, 0, none⟩) zs.length zs.length]) ∧ Lies w' (some ⟨g, 0, none⟩) (flat insC zs) ∧ Below w.heap.size w w'
theorem lies_set {w : World} {a : Option Addr} {cs : List Value} (h : Lies w a cs) {p : Addr} (u : Value) (hp : ∀ b o, a = some (⟨b, o, none⟩ : Addr) → b ≠ p.block) : Lies (w.setCell p u) a cs := by
  rcases h with h | ⟨b, o, e, h⟩
  · exact .inl h
  · exact .inr ⟨b, o, e, fun j v hj => (cell_set_ne u (hp b o e)).trans (h j v hj)⟩
theorem toRoutine_any (zs : List Ins) (a : Option Addr) (c : Nat) (hn : zs.length ≤ 1048576) (w : World) (hz : Lies w a (flat insC zs)) :
    Calls Tryz.prog 84 #[.agg #[.slice a zs.length c]] w (RtPost zs w) := by
  have HA := Lib.hid (fun w hz => toInstrS_ex zs a c hn w hz)
  have HZ := Lib.hid hz
  clear hz
  have HB : Hid (∀ O O' O'' : Obj, Below w.heap.size w (((w.alloc O).alloc O').alloc O'')) := Lib.hid (fun O O' O'' => (((Below.refl w.heap.size w).alloc (Nat.le_refl _) O).alloc (by simp) O').alloc (by simp; omega) O'')
  have HK : Hid (∀ O O' O'' : Obj, (((w.alloc O).alloc O').alloc O'').heap[w.heap.size + 1]? = some O' ∧ (((w.alloc O).alloc O').alloc O'').heap[w.heap.size + 2]? = some O'' ∧ (((w.alloc O).alloc O').alloc O'').heap.size = w.heap.size + 3) := Lib.hid (fun O O' O'' =>
    ⟨alloc_at (heap_alloc2_new w O O') O'', by have := box_new ((w.alloc O).alloc O') O''; simpa using this, by simp⟩)
  have HD := Lib.hid (rfl : RtPost zs w = RtPost zs w)
  have HR : Hid (∀ g w', w.heap.size ≤ g → Lies w' (some ⟨g, 0, none⟩) (flat insC zs) → Below w.heap.size w w' → RtPost zs w (.returned (.agg #[.slice (some ⟨g, 0, none⟩) zs.length zs.length])) w') := Lib.hid (fun g w' h1 h2 h3 => ⟨g, h1, rfl, h2, h3⟩)
  clear HD
  generalize RtPost zs w = POST at *
  generalize zs.length = n at *
  go_enter Tryz.func84, Tryz.ntmps84
  go_wp2_with fail
  refine Calls.mono (HA.out _ (HZ.out.below (HB.out _ _ _) (Nat.le_refl _))) ?_
  rintro e w1 ⟨g, hg, rfl, ho, hb⟩
  obtain ⟨k1, k2, k3⟩ := HK.out (.cells #[.slice a n c] 113) (.cells #[.slice none 0 0] 108) (.cells #[.slice none 0 0] 108)
  have q1 := below_at k1 hb
  have q2 := below_at k2 hb
  have Hb := Lib.hid ((HB.out _ _ _).trans (hb.mono (HB.out _ _ _).size))
  rw [k3] at hg
  have HO := Lib.hid ho
  have c1 := cell_of_row w1 (w.heap.size + 1) 0 _ _ _ q1
  have f1 := frozen_of_row w1 (w.heap.size + 1) 0 _ _ q1
  have c2 := cell_of_row w1 (w.heap.size + 2) 0 _ _ _ q2
  have f2 := frozen_of_row w1 (w.heap.size + 2) 0 _ _ q2
  clear hb q1 q2 k1 k2 k3 ho
  go_wp2
  refine bodyPost_ret (v := .agg #[.slice (some ⟨g, 0, none⟩) n n]) (by simp [results, Tryz.results84, go_sem, c1]) rfl (HR.out g _ (by omega) ?_ ?_)
  · exact lies_set (lies_set HO.out _ (fun b o e => by simp only [Option.some.injEq, Addr.mk.injEq] at e; simp only; omega)) _ (fun b o e => by simp only [Option.some.injEq, Addr.mk.injEq] at e; simp only; omega)
  · exact (Hb.out.setCell (p := ⟨w.heap.size + 2, 0, none⟩) (by simp only; omega) _).setCell (p := ⟨w.heap.size + 1, 0, none⟩) (by simp only; omega) _
/-- The row of routines that a copy fills. -/
def FillR (w : World) (B n : Nat) (rs : List RT) : Prop := ∃ tl : List Value, tl.length = n - rs.length ∧ rs.length ≤ n ∧ w.ownsRow B 108 1 (.slice (some ⟨B, 0, none⟩) n n) n (flat rtC rs ++ tl)
theorem FillR.store {w : World} {B n : Nat} {rs : List RT} (h : FillR w B n rs) (hlt : rs.length < n) (x : RT) : FillR (w.setCell ⟨B, rs.length, none⟩ (.slice x.1 x.2.1 x.2.2)) B n (rs ++ [x]) := by
  obtain ⟨tl, h1, h2, h3⟩ := h
  obtain ⟨t, tl', rfl⟩ : ∃ t tl', tl = t :: tl' := by
    cases tl with
    | nil => simp at h1; omega
    | cons t tl' => exact ⟨t, tl', rfl⟩
  have h4 := (h3.stored rs.length (.slice x.1 x.2.1 x.2.2)).1
  refine ⟨tl', by simp at h1 ⊢; omega, by simp; omega, ?_⟩
  have e : (flat rtC rs ++ t :: tl').set rs.length (.slice x.1 x.2.1 x.2.2) = flat rtC (rs ++ [x]) ++ tl' := by
    rw [flat_snoc, List.set_append_right _ _ (by rw [flat_len rtC_len]; omega), flat_len rtC_len]
    simp [rtC]
  rw [e] at h4
  exact h4
theorem FillR.bel {w w' : World} {B n : Nat} {rs : List RT} (h : FillR w B n rs) (hb : Below w.heap.size w w') : FillR w' B n rs := by
  obtain ⟨tl, h1, h2, h3⟩ := h
  exact ⟨tl, h1, h2, own_bl h3 hb⟩
theorem FillR.there {w : World} {B n : Nat} {rs : List RT} (h : FillR w B n rs) (hlt : rs.length < n) : (∃ v, w.cell? ⟨B, rs.length, none⟩ = some v) ∧ w.frozen? ⟨B, rs.length, none⟩ = false := by
  obtain ⟨tl, h1, h2, h3⟩ := h
  have hc := h3.cellAt rs.length (by omega)
  refine ⟨?_, h3.frozenAt _⟩
  rw [hc]
  have : rs.length < (flat rtC rs ++ tl).length := by rw [List.length_append, flat_len rtC_len]; omega
  exact ⟨_, List.getElem?_eq_getElem this⟩
/-- The codes behind the first routines. -/
def CodesR (w : World) (B : Nat) (rs : List RT) (ls : List (List Ins)) : Prop :=
  ∀ j, j < rs.length → (rs.getD j (none, 0, 0)).2.1 = (ls.getD j []).length ∧ Lies w (rs.getD j (none, 0, 0)).1 (flat insC (ls.getD j [])) ∧ ∀ b o, (rs.getD j (none, 0, 0)).1 = some (⟨b, o, none⟩ : Addr) → b ≠ B
theorem CodesR.bel {w w' : World} {B : Nat} {rs : List RT} {ls : List (List Ins)} (h : CodesR w B rs ls) (hb : Below w.heap.size w w') : CodesR w' B rs ls := fun j hj => ⟨(h j hj).1, (h j hj).2.1.below hb (Nat.le_refl _), (h j hj).2.2⟩
theorem CodesR.snoc {w : World} {B : Nat} {rs : List RT} {ls : List (List Ins)} (h : CodesR w B rs ls) {g : Nat} (hg : g ≠ B) {c : Nat} (hz : Lies w (some ⟨g, 0, none⟩) (flat insC (ls.getD rs.length []))) (u : Value) :
    CodesR (w.setCell ⟨B, rs.length, none⟩ u) B (rs ++ [(some ⟨g, 0, none⟩, (ls.getD rs.length []).length, c)]) ls := by
  intro j hj
  by_cases e : j < rs.length
  · have hx : (rs ++ [((some ⟨g, 0, none⟩, (ls.getD rs.length []).length, c) : RT)]).getD j (none, 0, 0) = rs.getD j (none, 0, 0) := by simp [List.getD, List.getElem?_append_left e]
    rw [hx]
    exact ⟨(h j e).1, lies_set (h j e).2.1 u (h j e).2.2, (h j e).2.2⟩
  · have hj' : j = rs.length := by simp at hj; omega
    subst hj'
    have hx : (rs ++ [((some ⟨g, 0, none⟩, (ls.getD rs.length []).length, c) : RT)]).getD rs.length (none, 0, 0) = (some ⟨g, 0, none⟩, (ls.getD rs.length []).length, c) := by simp [List.getD]
    rw [hx]
    have hb : ∀ b o, (some (⟨g, 0, none⟩ : Addr)) = some (⟨b, o, none⟩ : Addr) → b ≠ B := fun b o e => by simp only [Option.some.injEq, Addr.mk.injEq] at e; omega
    exact ⟨rfl, lies_set hz u hb, hb⟩
theorem routs_of {w : World} {B n : Nat} {rs : List RT} {ls : List (List Ins)} (h : FillR w B n rs) (hc : CodesR w B rs ls) (hl : ls.length = n) (hr : rs.length = n) : Routs w (some ⟨B, 0, none⟩) ls := by
  obtain ⟨tl, h1, h2, h3⟩ := h
  have ht : tl = [] := List.eq_nil_of_length_eq_zero (by omega)
  subst ht
  rw [List.append_nil] at h3
  exact ⟨rs, by omega, lies_own h3, fun j hj => ⟨(hc j (by omega)).1, (hc j (by omega)).2.1⟩⟩
end Go.Proofs.YtppgknjpbfopjaaGreatDoor
namespace Go.Proofs.YtppgknjpbfopjaaGreatDoor
open Go.ChangeShapes Go.WideShapes Go.ChangeAt Go.RowKit
set_option linter.unusedVariables false
theorem toRoutineS_any (ls : List (List Ins)) (a : Option Addr) (c : Nat) (hn : ls.length ≤ 1048576) (hl : ∀ j, j < ls.length → (ls.getD j []).length ≤ 1048576) (w : World) (hz : Routs w a ls) :
    Calls Tryz.prog 36 #[.slice a ls.length c] w fun e w' => e = .returned (.slice (some ⟨w.heap.size, 0, none⟩) ls.length ls.length) ∧ Routs w' (some ⟨w.heap.size, 0, none⟩) ls ∧ Below w.heap.size w w' := by
  obtain ⟨i0, hi, hz0, hz1, hz2⟩ := info_parts (show (Tryz.prog.info? 108).map (fun i => (i.zero, i.size, i.bytes)) = some (some (.agg #[.slice none 0 0]), 1, 24) by kernel_rfl)
  have HI := Lib.hid (And.intro hi (And.intro hz0 (And.intro hz1 hz2)))
  clear hi hz0 hz1 hz2
  have HZ := Lib.hid hz
  have HM := Lib.hid hl
  have HA := Lib.hid (fun w (h : Routs w a ls) j (hj : j < ls.length) => h.at hj)
  clear hz hl
  generalize hL : ls.length = n at *
  have HL := Lib.hid hL
  clear hL
  go_enter Tryz.func36, Tryz.ntmps36
  go_wp2_with (at_make; go_must (refine wpList_make_full _ rfl _ _ _ rfl w.heap.size 108 i0 _ 1 Tryz.underlying32 HI.out.1 HI.out.2.1 HI.out.2.2.1 .i64 .i64 _ _ n rfl rfl rfl rfl (by rw [HI.out.2.2.2]; omega) (by unfold maxLen; omega) (Nat.le_refl _) ?_); intro w1 hown1 hgrow1)
  have Ho1 : Hid (FillR w1 w.heap.size n []) := Lib.hid ⟨_, by have := hown1.1; simpa using this, Nat.zero_le _, hown1⟩
  have Hb1 := Lib.hid ((Below.refl w.heap.size w).grown hgrow1 (Nat.le_refl _) (by intro k hk; cases hk))
  clear hown1 hgrow1
  go_loopw [4] (fun i wr => ∃ (k : Nat) (rs : List RT), k ≤ n ∧ i = .int .i64 k ∧ Hid (rs.length = k) ∧ Hid (FillR wr w.heap.size n rs) ∧ Hid (CodesR wr w.heap.size rs ls) ∧ Hid (Below w.heap.size w wr)) (fun i _ => n - (intOf i).toNat)
  case atStart => exact ⟨0, [], Nat.zero_le _, rfl, Lib.hid rfl, Ho1, Lib.hid (by intro j hj; simp at hj), Hb1⟩
  case round =>
    obtain ⟨k, rs, hk, rfl, hrl, hf, hc, hb⟩ := hrel
    by_cases hlt : k < n
    · obtain ⟨b, o, x, c2, rfl, hbl, hcell, hlies⟩ := HA.out w HZ.out k hlt
      have hb' := hb.out
      have d0 := (hb'.cell (p := ⟨b, o + k, none⟩) hbl).trans hcell
      have HT := Lib.hid (toRoutine_any (ls.getD k []) x c2 (HM.out k hlt) wr (hlies.below hb' (Nat.le_refl _)))
      have hBw : w.heap.size < wr.heap.size := by
        obtain ⟨tl, _, _, h3⟩ := hf.out
        exact (h3.lt w.heap.size rfl).2
      have HLk := Lib.hid (rfl : (ls.getD k []).length = (ls.getD k []).length)
      clear hcell hlies hb'
      go_wp2_with fail
      refine Calls.mono HT.out ?_
      rintro e w2 ⟨g, hg, rfl, hz2, hb2⟩
      have hf2 := hf.out.bel hb2
      have hc2 := hc.out.bel hb2
      have hgB : g ≠ w.heap.size := by omega
      obtain ⟨⟨v0, e0⟩, f0⟩ := hf2.there (by rw [hrl.out]; exact hlt)
      have hf3 := hf2.store (by rw [hrl.out]; exact hlt) (some ⟨g, 0, none⟩, (ls.getD rs.length []).length, (ls.getD rs.length []).length)
      have hc3 := hc2.snoc hgB (c := (ls.getD rs.length []).length) (by rw [hrl.out]; exact hz2) (.slice (some ⟨g, 0, none⟩) (ls.getD rs.length []).length (ls.getD rs.length []).length)
      rw [hrl.out] at e0 f0 hf3 hc3
      have HF3 := Lib.hid hf3
      have HC3 := Lib.hid hc3
      have HB3 := Lib.hid ((hb.out.trans (hb2.mono hb.out.size)).setCell (p := ⟨w.heap.size, k, none⟩) (Nat.le_refl _) (.slice (some ⟨g, 0, none⟩) (ls.getD k []).length (ls.getD k []).length))
      have HRL : Hid ((rs ++ [((some ⟨g, 0, none⟩, (ls.getD k []).length, (ls.getD k []).length) : RT)]).length = k + 1) := Lib.hid (by simp [hrl.out])
      clear hf2 hc2 hf3 hc3 hb2 hz2 d0
      generalize (ls.getD k []).length = q at *
      go_wp2
      go_roundw
      case rel => exact ⟨k + 1, _, by omega, by go_num, HRL, HF3, HC3, HB3⟩
      case measure => simp [intOf]; omega
    · obtain rfl : k = n := by omega
      go_wp2
      go_ret
      exact ⟨rfl, routs_of hf.out hc.out HL.out hrl.out, hb.out⟩
theorem eqRoutine_same (zs : List Ins) (a b : Option Addr) (c d : Nat) (hn : zs.length ≤ 1048576) (w : World) (hz : Lies w a (flat insC zs)) (hy : Lies w b (flat insC zs)) :
    Calls Tryz.prog 90 #[.agg #[.slice a zs.length c], .agg #[.slice b zs.length d]] w fun e w' => e = .returned (.bool true) ∧ Below w.heap.size w w' := by
  have HE := Lib.hid (fun w hz hy => eqInstrS_same zs a b c d hn w hz hy)
  have HB : Hid (∀ O O' : Obj, Below w.heap.size w ((w.alloc O).alloc O')) := Lib.hid (fun O O' => ((Below.refl w.heap.size w).alloc (Nat.le_refl _) O).alloc (by simp) O')
  have HZ := Lib.hid hz
  have HY := Lib.hid hy
  clear hz hy
  generalize zs.length = n at *
  go_enter Tryz.func90, Tryz.ntmps90
  go_wp2_with fail
  refine Calls.mono (HE.out _ (HZ.out.below (HB.out _ _) (Nat.le_refl _)) (HY.out.below (HB.out _ _) (Nat.le_refl _))) ?_
  rintro e w1 ⟨rfl, hb1⟩
  have Hb1 := Lib.hid ((HB.out _ _).trans (hb1.mono (HB.out _ _).size))
  clear hb1
  go_wp2
  go_ret
  exact ⟨rfl, Hb1.out⟩
theorem eqRoutineS_same (ls : List (List Ins)) (a b : Option Addr) (c d : Nat) (hn : ls.length ≤ 1048576) (hl : ∀ j, j < ls.length → (ls.getD j []).length ≤ 1048576) (w : World) (hz : Routs w a ls) (hy : Routs w b ls) :
    Calls Tryz.prog 42 #[.slice a ls.length c, .slice b ls.length d] w fun e w' => e = .returned (.bool true) ∧ Below w.heap.size w w' := by
  have HA := Lib.hid (fun w a (h : Routs w a ls) j (hj : j < ls.length) => h.at hj)
  have HZ := Lib.hid hz
  have HY := Lib.hid hy
  have HM := Lib.hid hl
  clear hz hy hl
  generalize hL : ls.length = n at *
  have HL := Lib.hid hL
  clear hL
  have hs : ((n : Int) != n) = false := by simp
  go_enter Tryz.func42, Tryz.ntmps42
  go_wp2
  go_loopw [5] (fun i wr => ∃ k : Nat, k ≤ n ∧ i = .int .i64 k ∧ Hid (Below w.heap.size w wr)) (fun i _ => n - (intOf i).toNat)
  case atStart => exact ⟨0, Nat.zero_le _, rfl, Lib.hid (Below.refl _ _)⟩
  case round =>
    obtain ⟨k, hk, rfl, hb⟩ := hrel
    by_cases hlt : k < n
    · obtain ⟨b1, o1, x1, c1, rfl, hb1, hc1, hz1⟩ := HA.out w a HZ.out k hlt
      obtain ⟨b2, o2, x2, c2, rfl, hb2, hc2, hz2⟩ := HA.out w b HY.out k hlt
      have d0 := (hb.out.cell (p := ⟨b1, o1 + k, none⟩) hb1).trans hc1
      have d1 := (hb.out.cell (p := ⟨b2, o2 + k, none⟩) hb2).trans hc2
      have HE := Lib.hid (fun w2 (h : Below w.heap.size w w2) => eqRoutine_same (ls.getD k []) x1 x2 c1 c2 (HM.out k hlt) w2 (hz1.below h (Nat.le_refl _)) (hz2.below h (Nat.le_refl _)))
      clear hc1 hc2 hz1 hz2
      generalize (ls.getD k []).length = q at *
      go_wp2_with fail
      go_region_with (go_at_call 90; refine Calls.mono (HE.out _ (by exact bel_dn hb.out 1)) ?_; rintro e w2 ⟨rfl, hb3⟩; have Hb3 := Lib.hid (hb.out.trans ((below_from (n := 1) hb3 (Nat.le_refl _)).mono hb.out.size)); clear hb3)
      all_goals go_wp2
      all_goals go_roundw
      all_goals first | exact ⟨k + 1, by omega, by go_num, Hb3⟩ | (simp [intOf]; omega)
    · obtain rfl : k = n := by omega
      go_wp2
      go_ret
      exact ⟨rfl, hb.out⟩
end Go.Proofs.YtppgknjpbfopjaaGreatDoor
namespace Go.Proofs.YtppgknjpbfopjaaGreatDoor
open Go.ChangeShapes Go.WideShapes Go.ChangeAt Go.RowKit
set_option linter.unusedVariables false
theorem szRoutine_ok (a : Option Addr) (n c : Nat) (left : Int) (h : (n : Int) ≤ left) (hl : left ≤ 1048576) (w : World) : Calls Tryz.prog 81 #[.agg #[.slice a n c], .int .i64 left] w fun e w' => e = .returned (.int .i64 (left - n)) ∧ Below w.heap.size w w' := by
  have hd : ¬ (left - (n : Int) < 0) := by omega
  go_enter Tryz.func81, Tryz.ntmps81
  go_wp2_with (go_at_call 140; refine (szInstrS_ok a n c left h hl _).mono ?_; rintro e w' ⟨rfl, rfl⟩)
  go_ret
  exact ⟨rfl, (Below.refl w.heap.size w).alloc (Nat.le_refl _) _⟩
theorem szRoutine_no (a : Option Addr) (n c : Nat) (left : Int) (hn : n ≤ maxLen) (h : left < (n : Int)) (hl : 0 ≤ left) (w : World) : Calls Tryz.prog 81 #[.agg #[.slice a n c], .int .i64 left] w fun e w' => e = .returned (.int .i64 (-1)) ∧ Below w.heap.size w w' := by
  go_enter Tryz.func81, Tryz.ntmps81
  go_wp2_with (go_at_call 140; refine (szInstrS_no a n c left hn h hl _).mono ?_; rintro e w' ⟨rfl, rfl⟩)
  go_ret
  exact ⟨rfl, (Below.refl w.heap.size w).alloc (Nat.le_refl _) _⟩
def SzPost (ls : List (List Ins)) (w : World) (e : Ending) (w' : World) : Prop := ∃ v : Int, e = .returned (.int .i64 v) ∧ Below w.heap.size w w' ∧ (v < 0 ∨ 0 ≤ v ∧ ls.length ≤ 1048576 ∧ ∀ j, j < ls.length → (ls.getD j []).length ≤ 1048576)
theorem szRoutineS_any (ls : List (List Ins)) (a : Option Addr) (c : Nat) (hm : ls.length ≤ maxLen) (hl : ∀ j, j < ls.length → (ls.getD j []).length ≤ maxLen) (w : World) (hz : Routs w a ls) :
    Calls Tryz.prog 30 #[.slice a ls.length c, .int .i64 1048576] w (SzPost ls w) := by
  have HM := Lib.hid hl
  have HZ := Lib.hid hz
  have HA := Lib.hid (fun w (h : Routs w a ls) j (hj : j < ls.length) => h.at hj)
  have HNO : Hid (∀ w', Below w.heap.size w w' → SzPost ls w (.returned (.int .i64 (-1))) w') := Lib.hid (fun w' hb => ⟨-1, rfl, hb, .inl (by decide)⟩)
  have HOK : Hid (∀ (v : Int) w', 0 ≤ v → ls.length ≤ 1048576 → (∀ j, j < ls.length → (ls.getD j []).length ≤ 1048576) → Below w.heap.size w w' → SzPost ls w (.returned (.int .i64 v)) w') := Lib.hid (fun v w' h1 h2 h3 hb => ⟨v, rfl, hb, .inr ⟨h1, h2, h3⟩⟩)
  unfold maxLen at hm
  clear hl hz
  generalize SzPost ls w = POST at *
  generalize hL : ls.length = n at *
  have HL := Lib.hid hL
  clear hL
  by_cases h1 : (1048576 : Int) < n
  · go_enter Tryz.func30, Tryz.ntmps30
    go_wp2
    exact HNO.out _ (Below.refl _ _)
  have h0 : (0 : Int) ≤ 1048576 - n := by omega
  go_enter Tryz.func30, Tryz.ntmps30
  go_wp2
  go_loopw [1, 5] (fun q i wr => ∃ (j : Nat) (l : Int), j ≤ n ∧ i = .int .i64 j ∧ q = .int .i64 l ∧ 0 ≤ l ∧ l ≤ 1048576 ∧ Hid (∀ q, q < j → (ls.getD q []).length ≤ 1048576) ∧ Hid (Below w.heap.size w wr)) (fun _ i _ => n - (intOf i).toNat)
  case atStart => exact ⟨0, 1048576 - n, Nat.zero_le _, rfl, rfl, h0, by omega, Lib.hid (by intro q hq; omega), Lib.hid (Below.refl _ _)⟩
  case round =>
    obtain ⟨j, l, hj, rfl, rfl, hl0, hl1, hr, hb⟩ := hrel
    by_cases hlt : j < n
    · obtain ⟨b, o, x, c2, rfl, hbl, hcell, _⟩ := HA.out w HZ.out j hlt
      have d0 := (hb.out.cell (p := ⟨b, o + j, none⟩) hbl).trans hcell
      have HMj := Lib.hid (HM.out j hlt)
      have HX : Hid ((ls.getD j []).length ≤ 1048576 → ∀ q, q < j + 1 → (ls.getD q []).length ≤ 1048576) := Lib.hid (fun g q hq => by
        by_cases e : q = j
        · rw [e]; exact g
        · exact hr.out q (by omega))
      clear hcell
      generalize (ls.getD j []).length = m at *
      by_cases h2 : (m : Int) ≤ l
      · have HX2 := Lib.hid (HX.out (by omega))
        have hp : ¬ (l - (m : Int) < 0) := by omega
        go_wp2_with fail
        refine Calls.mono (szRoutine_ok x m c2 l h2 hl1 _) ?_
        rintro e w2 ⟨rfl, hb2⟩
        have Hb2 := Lib.hid (hb.out.trans (hb2.mono hb.out.size))
        clear hb2 d0
        go_wp2
        go_roundw
        case rel => exact ⟨j + 1, l - m, by omega, by go_num, rfl, by omega, by omega, HX2, Hb2⟩
        case measure => simp [intOf]; omega
      · have h3 : l < (m : Int) := by omega
        go_wp2_with fail
        refine Calls.mono (szRoutine_no x m c2 l HMj.out h3 hl0 _) ?_
        rintro e w2 ⟨rfl, hb2⟩
        have Hb2 := Lib.hid (hb.out.trans (hb2.mono hb.out.size))
        clear hb2 d0
        go_wp2
        exact HNO.out _ Hb2.out
    · obtain rfl : j = n := by omega
      go_wp2
      exact HOK.out _ _ hl0 (by omega) hr.out hb.out
end Go.Proofs.YtppgknjpbfopjaaGreatDoor
