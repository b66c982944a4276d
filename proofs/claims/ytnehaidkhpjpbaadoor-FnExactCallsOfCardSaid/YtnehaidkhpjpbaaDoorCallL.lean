/- The exact law of CallsOf. -/
import Derived.Test.YtnehaidkhpjpbaaDoorCallK
namespace Go.Proofs.YtnehaidkhpjpbaaDoor
open Go.ChangeShapes Go.WideShapes Go.ChangeAt Go.RowKit
set_option linter.unusedVariables false
theorem callsF_len (zs : List Ins) : (callsF zs).1.length ≤ 6 := by
  unfold callsF
  split
  · simp
  · split
    · simp
    · split
      · simp
      · rw [← vcN_six]; exact vcN_len zs 6
set_option maxHeartbeats 1000000 in
theorem FnExactCallsOf_came (a : Option Addr) (n c : Nat) (W : World) (h : Came Tryd.prog W 22 [.slice a n c]) (hf : OpTab W) :
    Calls Tryd.prog 6 #[.slice a n c] W fun e w' => e = .returned (.bool true) ∧ Below W.heap.size W w' := by
  obtain ⟨hm, _, zs, rfl, hz⟩ := came_insM h
  clear h
  have hmm := hm
  unfold maxLen at hmm
  have HM := Lib.hid hm
  by_cases hn : (zs.length : Int) ≤ 1048576
  · have Hz := Lib.hid hz
    have HT : Hid (∀ w, Below W.heap.size W w → OpTab w) := Lib.hid (fun w hb => hf.below hb (Nat.le_refl _))
    have HL := Lib.hid hn
    have HA := Lib.hid (fun w hz => toInstrS_any zs a c (by omega) w hz)
    have HS := Lib.hid (fun a c w hz => specCallsOf_any zs a c hm w hz)
    have HC := Lib.hid (fun a c w ht hz => callsOf_any zs a c hm w ht hz)
    have HEI := Lib.hid (fun a b c d w hz hy => eqInstrS_same zs a b c d (by omega) w hz hy)
    have hcl := callsF_len zs
    clear hz hf hm
    generalize (callsF zs).1 = cs at *
    generalize (callsF zs).2 = y at *
    have HE := Lib.hid (fun a b c d w hz hy => eqIntS_same cs a b c d (by omega) w hz hy)
    have e2 : (y != y) = false := by simp
    generalize hj : zs.length = n at *
    have HN := Lib.hid hj
    generalize hq : cs.length = k at *
    have HQ := Lib.hid hq
    clear hj hq
    go_enter Tryd.func6, Tryd.ntmps6
    go_wp2_with (go_at_call 11; refine (szInstrS_ok a n c 1048576 HL.out (by omega) _).mono ?_; rintro e w' ⟨rfl, rfl⟩)
    refine Calls.mono (HA.out _ Hz.out) ?_
    rintro e w1 ⟨rfl, ho1, hb1⟩
    have Ho1 := Lib.hid (lies_own ho1)
    have Hb1 := Lib.hid hb1
    clear ho1 hb1
    go_wp2_with fail
    refine Calls.mono (HS.out _ _ _ Ho1.out) ?_
    rintro e w2 ⟨a2, c2, rfl, ho2, hb2⟩
    rw [HQ.out] at ho2
    have Ho2 := Lib.hid ho2
    have Hb2 := Lib.hid (Hb1.out.trans (hb2.mono Hb1.out.size))
    clear hb2 ho2
    rw [HQ.out]
    go_wp2_with fail
    refine Calls.mono (HA.out _ (Hz.out.below Hb2.out (Nat.le_refl _))) ?_
    rintro e w3 ⟨rfl, ho3, hb3⟩
    have Ho3 := Lib.hid ho3
    have Ho3w := Lib.hid ho3
    have Hb23 := Lib.hid hb3.size
    have Hl2 := Lib.hid ((lies_own Ho2.out).below hb3 (Nat.le_refl _))
    have Hb3 := Lib.hid (Hb2.out.trans (hb3.mono Hb2.out.size))
    clear ho3 hb3
    go_wp2_with fail
    refine Calls.mono (HC.out _ _ _ (HT.out _ Hb3.out) (lies_own Ho3.out)) ?_
    rintro e w4 ⟨a4, c4, rfl, ho4, hb4⟩
    rw [HQ.out] at ho4
    have Ho4 := Lib.hid ho4
    have Ho3 := Lib.hid (own_bel Ho3.out hb4)
    have Hl2 := Lib.hid (Hl2.out.below hb4 (Nat.le_refl _))
    have Hb4 := Lib.hid (Hb3.out.trans (hb4.mono Hb3.out.size))
    clear ho4 hb4
    rw [HQ.out]
    go_wp2_with fail
    refine Calls.mono (HE.out _ _ _ _ _ (lies_own Ho4.out) Hl2.out) ?_
    rintro e w5 ⟨rfl, hb5⟩
    have Ho4 := Lib.hid (own_bel Ho4.out hb5)
    have Ho3 := Lib.hid (own_bel Ho3.out hb5)
    have Hl2 := Lib.hid (Hl2.out.below hb5 (Nat.le_refl _))
    have Hb5 := Lib.hid (Hb4.out.trans (hb5.mono Hb4.out.size))
    clear hb5
    go_wp2_with fail
    refine Calls.mono (HA.out _ (Hz.out.below Hb5.out (Nat.le_refl _))) ?_
    rintro e w6 ⟨rfl, ho6, hb6⟩
    have Ho6 := Lib.hid (lies_own ho6)
    have Ho4 := Lib.hid (own_bel Ho4.out hb6)
    have Ho3 := Lib.hid (own_bel Ho3.out hb6)
    have Hl2 := Lib.hid (Hl2.out.below hb6 (Nat.le_refl _))
    have Hb6 := Lib.hid (Hb5.out.trans (hb6.mono Hb5.out.size))
    clear ho6 hb6
    go_wp2_with fail
    refine Calls.mono (HEI.out _ _ _ _ _ (lies_own Ho3.out) Ho6.out) ?_
    rintro e w7 ⟨rfl, hb7⟩
    have Ho4 := Lib.hid (own_bel Ho4.out hb7)
    have Ho3 := Lib.hid (own_bel Ho3.out hb7)
    have Hl2 := Lib.hid (Hl2.out.below hb7 (Nat.le_refl _))
    have Hb7 := Lib.hid (Hb6.out.trans (hb7.mono Hb6.out.size))
    clear hb7
    go_wp2_with fail
    refine Calls.mono (markInstrS_any _ _ _ _ _ 1 (by omega) (by omega) _ Ho3.out) ?_
    rintro e w8 ⟨rfl, _, hg8⟩
    have Ho4 := Lib.hid (Ho4.out.kept hg8 (Or.inr (fun q => by
      have h3 : w2.heap.size < w3.heap.size := (Ho3w.out.lt _ rfl).2
      have h4 := (Ho4.out.lt _ q).1
      omega)))
    have Hl2 := Lib.hid (Hl2.out.grown hg8 (fun b o hb he => by
      injection he with he
      have h2 := (Ho2.out.lt b (by rw [hb]; rfl)).2
      omega))
    have Hb8 := Lib.hid (Hb7.out.grown hg8 Hb7.out.size (fun q hq => by cases hq; exact Hb2.out.size))
    clear hg8
    have hk1 : ¬ ((1 : Int) + 2 * n < 0) := by omega
    go_wp2_with fail
    refine Calls.mono (HE.out _ _ _ _ _ (lies_own Ho4.out) Hl2.out) ?_
    rintro e w9 ⟨rfl, hb9⟩
    have Ho4 := Lib.hid (own_bel Ho4.out hb9)
    have Hl2 := Lib.hid (Hl2.out.below hb9 (Nat.le_refl _))
    have Hb9 := Lib.hid (Hb8.out.trans (hb9.mono Hb8.out.size))
    clear hb9
    go_wp2_with fail
    refine Calls.mono (markIntS_own _ _ _ _ _ 1 (by omega) (by omega) _ Ho4.out) ?_
    rintro e w10 ⟨rfl, ho10, hg10⟩
    have Hl2 := Lib.hid (Hl2.out.grown hg10 (fun b o hb he => by
      have h2 := (Ho2.out.lt b (by rw [hb]; rfl)).2
      have h4 := (Ho4.out.lt b he).1
      have := Hb23.out
      omega))
    have Hb10 := Lib.hid (Hb9.out.grown hg10 Hb9.out.size (fun q hq => by have := (Ho4.out.lt q hq).1; have := Hb3.out.size; omega))
    have Ho10 := Lib.hid ho10
    clear ho10 hg10
    have hk2 : ¬ ((1 : Int) + k < 0) := by omega
    have hk3 : ((1 : Int) + k != 1 + k) = false := by simp
    go_wp2_with fail
    refine Calls.mono (heldIntS_any _ _ _ 1 (by omega) (by omega) _ (lies_own Ho10.out)) ?_
    rintro e w11 ⟨rfl, rfl⟩
    go_wp2_with fail
    refine Calls.mono (HA.out _ (Hz.out.below Hb10.out (Nat.le_refl _))) ?_
    rintro e w12 ⟨rfl, ho12, hb12⟩
    have Ho12 := Lib.hid (lies_own ho12)
    have Ho10 := Lib.hid (own_bel Ho10.out hb12)
    have Hl2 := Lib.hid (Hl2.out.below hb12 (Nat.le_refl _))
    have Hb12 := Lib.hid (Hb10.out.trans (hb12.mono Hb10.out.size))
    clear ho12 hb12
    go_wp2_with fail
    refine Calls.mono (HC.out _ _ _ (HT.out _ Hb12.out) Ho12.out) ?_
    rintro e w13 ⟨a13, c13, rfl, ho13, hb13⟩
    rw [HQ.out] at ho13
    have Ho13 := Lib.hid ho13
    have Ho10 := Lib.hid (own_bel Ho10.out hb13)
    have Hl2 := Lib.hid (Hl2.out.below hb13 (Nat.le_refl _))
    have Hb13 := Lib.hid (Hb12.out.trans (hb13.mono Hb12.out.size))
    clear ho13 hb13
    rw [HQ.out]
    go_wp2_with fail
    refine Calls.mono (HE.out _ _ _ _ _ (lies_own Ho13.out) Hl2.out) ?_
    rintro e w14 ⟨rfl, hb14⟩
    have Ho10 := Lib.hid (own_bel Ho10.out hb14)
    have Hb14 := Lib.hid (Hb13.out.trans (hb14.mono Hb13.out.size))
    clear hb14
    go_wp2_with fail
    refine Calls.mono (heldIntS_any _ _ _ 1 (by omega) (by omega) _ (lies_own Ho10.out)) ?_
    rintro e w15 ⟨rfl, rfl⟩
    go_wp2
    go_ret
    exact ⟨rfl, Hb14.out⟩
  · have hn' : (1048576 : Int) < zs.length := by omega
    clear hz hf hm
    generalize zs.length = n at *
    go_enter Tryd.func6, Tryd.ntmps6
    go_wp2_with (go_at_call 11; refine (szInstrS_no a n c 1048576 HM.out (by omega) (by omega) _).mono ?_; rintro e w' ⟨rfl, rfl⟩)
    go_ret
    exact ⟨rfl, Below.refl _ _⟩
end Go.Proofs.YtnehaidkhpjpbaaDoor
