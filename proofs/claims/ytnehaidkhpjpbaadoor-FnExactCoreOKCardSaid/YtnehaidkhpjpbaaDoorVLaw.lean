/- The exact law of VerifyCode. -/
import Derived.Test.YtnehaidkhpjpbaaDoorSpec5
import Derived.Test.YtnehaidkhpjpbaaDoorMatchL
namespace Go.Proofs.YtnehaidkhpjpbaaDoor
open Go.ChangeShapes Go.WideShapes Go.ChangeAt Go.RowKit
set_option linter.unusedVariables false
theorem FnExactVerifyCode_came (a : Option Addr) (n c : Nat) (k : Option Addr) (m kc : Nat) (r : Int) (W : World) (h : Came Tryd.prog W 22 [.slice a n c]) (hk : Came Tryd.prog W 23 [.slice k m kc]) (_ : (Lit.int .i64 r).wf = true) (hf : OpTab W ∧ EffTab W ∧ FbTab W) :
    Calls Tryd.prog 3 #[.slice a n c, .slice k m kc, .int .i64 r] W fun e w' => e = .returned (.bool true) ∧ Below W.heap.size W w' := by
  obtain ⟨hT, hE, hF⟩ := hf
  obtain ⟨hm, _, zs, rfl, hz⟩ := came_insM h
  obtain ⟨hm2, _, ks, rfl, hy⟩ := came_ks hk
  clear h hk
  have hmm := hm
  have hmm2 := hm2
  unfold maxLen at hmm hmm2
  have HM := Lib.hid hm
  have HM2 := Lib.hid hm2
  by_cases hk2 : (1048576 : Int) < ks.length
  · clear hz hy hT hE hF hm hm2
    generalize zs.length = n at *
    generalize ks.length = m at *
    go_enter Tryd.func3, Tryd.ntmps3
    go_wp2
    go_ret
    exact ⟨rfl, Below.refl _ _⟩
  by_cases hn : (zs.length : Int) ≤ 1048576
  · have Hz := Lib.hid hz
    have Hy := Lib.hid hy
    have HT : Hid (∀ w, Below W.heap.size W w → VTabs w) := Lib.hid (fun w hb => (VTabs.mk hT hE hF).below hb (Nat.le_refl _))
    have HL := Lib.hid hn
    have HA := Lib.hid (fun w hz => toInstrS_any zs a c (by omega) w hz)
    have HA2 := Lib.hid (fun w hz => toIntS_any ks k kc (by omega) w hz)
    have HB := Lib.hid (fun a c k kc w hz hy => specVerifyCode_any zs a c ks k kc r hm hm2 w hz hy)
    have HC := Lib.hid (fun a c k kc w ht hz hy => verifyCode_any zs a c ks k kc r hm hm2 w ht hz hy)
    have HEI := Lib.hid (fun a b c d w hz hy => eqInstrS_same zs a b c d (by omega) w hz hy)
    have HEK := Lib.hid (fun a b c d w hz hy => eqIntS_same ks a b c d (by omega) w hz hy)
    clear hz hy hT hE hF hm hm2
    generalize (codeV zs ks r).1 = x at *
    generalize (codeV zs ks r).2 = y at *
    have e1 : (x != x) = false := by simp
    have e2 : (y != y) = false := by simp
    generalize hj : zs.length = n at *
    have HN := Lib.hid hj
    generalize hq : ks.length = m at *
    have HQ := Lib.hid hq
    clear hj hq
    go_enter Tryd.func3, Tryd.ntmps3
    go_wp2_with (go_at_call 11; refine (szInstrS_ok a n c 1048576 HL.out (by omega) _).mono ?_; rintro e w' ⟨rfl, rfl⟩)
    refine Calls.mono (HA.out _ Hz.out) ?_
    rintro e w1 ⟨rfl, ho1, hb1⟩
    have Ho1 := Lib.hid (lies_own ho1)
    have Hb1 := Lib.hid hb1
    clear ho1 hb1
    go_wp2_with fail
    refine Calls.mono (HA2.out _ (Hy.out.below Hb1.out (Nat.le_refl _))) ?_
    rintro e w2 ⟨rfl, ho2, hb2⟩
    have Ho2 := Lib.hid (lies_own ho2)
    have Ho1 := Lib.hid (Ho1.out.below hb2 (Nat.le_refl _))
    have Hb2 := Lib.hid (Hb1.out.trans (hb2.mono Hb1.out.size))
    clear ho2 hb2
    go_wp2_with fail
    refine Calls.mono (HB.out _ _ _ _ _ Ho1.out Ho2.out) ?_
    rintro e w3 ⟨rfl, hb3⟩
    have Hb3 := Lib.hid (Hb2.out.trans (hb3.mono Hb2.out.size))
    clear hb3
    go_wp2_with fail
    refine Calls.mono (HA.out _ (Hz.out.below Hb3.out (Nat.le_refl _))) ?_
    rintro e w4 ⟨rfl, ho4, hb4⟩
    have Ho4 := Lib.hid (lies_own ho4)
    have Hb4 := Lib.hid (Hb3.out.trans (hb4.mono Hb3.out.size))
    clear ho4 hb4
    go_wp2_with fail
    refine Calls.mono (HA2.out _ (Hy.out.below Hb4.out (Nat.le_refl _))) ?_
    rintro e w5 ⟨rfl, ho5, hb5⟩
    have Ho5 := Lib.hid (lies_own ho5)
    have Ho4 := Lib.hid (Ho4.out.below hb5 (Nat.le_refl _))
    have Hb5 := Lib.hid (Hb4.out.trans (hb5.mono Hb4.out.size))
    clear ho5 hb5
    go_wp2_with fail
    refine Calls.mono (HC.out _ _ _ _ _ (HT.out _ Hb5.out) Ho4.out Ho5.out) ?_
    rintro e w6 ⟨rfl, hb6⟩
    have Ho4 := Lib.hid (Ho4.out.below hb6 (Nat.le_refl _))
    have Ho5 := Lib.hid (Ho5.out.below hb6 (Nat.le_refl _))
    have Hb6 := Lib.hid (Hb5.out.trans (hb6.mono Hb5.out.size))
    clear hb6
    go_wp2_with fail
    refine Calls.mono (HA.out _ (Hz.out.below Hb6.out (Nat.le_refl _))) ?_
    rintro e w7 ⟨rfl, ho7, hb7⟩
    have Ho7 := Lib.hid (lies_own ho7)
    have Ho4 := Lib.hid (Ho4.out.below hb7 (Nat.le_refl _))
    have Ho5 := Lib.hid (Ho5.out.below hb7 (Nat.le_refl _))
    have Hb7 := Lib.hid (Hb6.out.trans (hb7.mono Hb6.out.size))
    clear ho7 hb7
    go_wp2_with fail
    refine Calls.mono (HEI.out _ _ _ _ _ Ho4.out Ho7.out) ?_
    rintro e w8 ⟨rfl, hb8⟩
    have Ho5 := Lib.hid (Ho5.out.below hb8 (Nat.le_refl _))
    have Hb8 := Lib.hid (Hb7.out.trans (hb8.mono Hb7.out.size))
    clear hb8
    go_wp2_with fail
    refine Calls.mono (HA2.out _ (Hy.out.below Hb8.out (Nat.le_refl _))) ?_
    rintro e w9 ⟨rfl, ho9, hb9⟩
    have Ho9 := Lib.hid (lies_own ho9)
    have Ho5 := Lib.hid (Ho5.out.below hb9 (Nat.le_refl _))
    have Hb9 := Lib.hid (Hb8.out.trans (hb9.mono Hb8.out.size))
    clear ho9 hb9
    go_wp2_with fail
    refine Calls.mono (HEK.out _ _ _ _ _ Ho5.out Ho9.out) ?_
    rintro e w10 ⟨rfl, hb10⟩
    have Hb10 := Lib.hid (Hb9.out.trans (hb10.mono Hb9.out.size))
    clear hb10
    go_wp2
    go_ret
    exact ⟨rfl, Hb10.out⟩
  · have hn' : (1048576 : Int) < zs.length := by omega
    clear hz hy hT hE hF hm hm2
    generalize zs.length = n at *
    generalize ks.length = m at *
    go_enter Tryd.func3, Tryd.ntmps3
    go_wp2_with (go_at_call 11; refine (szInstrS_no a n c 1048576 HM.out (by omega) (by omega) _).mono ?_; rintro e w' ⟨rfl, rfl⟩)
    go_ret
    exact ⟨rfl, Below.refl _ _⟩
end Go.Proofs.YtnehaidkhpjpbaaDoor
