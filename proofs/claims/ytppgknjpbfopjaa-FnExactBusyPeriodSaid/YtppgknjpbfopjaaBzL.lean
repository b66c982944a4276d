/- The exact law of BusyPeriod. (Written by tools/gen_bzl.py.) -/
import Derived.Test.YtppgknjpbfopjaaBz
namespace Go.Proofs.Ytppgknjpbfopjaa
open Go.ChangeShapes Go.WideShapes Go.ChangeAt Go.RowKit
set_option linter.unusedVariables false
set_option maxHeartbeats 1000000 in
theorem FnExactBusyPeriod_walk (cs ps : List Int) (b : Int) (a0 a1 : Option Addr) (c0 c1 : Nat) (w : World) (hm : cs.length ≤ maxLen ∧ ps.length ≤ maxLen) (hz : Lies w a0 (kC cs)) (hy : Lies w a1 (kC ps)) :
    Calls Try.prog 4 #[.slice a0 cs.length c0, .slice a1 ps.length c1, .int .i64 b] w fun e w' => e = .returned (.bool true) ∧ Below w.heap.size w w' := by
  have hm1 := hm.1
  have hm2 := hm.2
  by_cases hbig : 1048576 < cs.length
  · unfold maxLen at hm1 hm2
    clear hz hy
    generalize cs.length = n at *
    generalize ps.length = m at *
    go_enter Try.func4, Try.ntmps4
    go_wp2
    go_ret
    exact ⟨rfl, Below.refl _ _⟩
  by_cases hbig2 : 1048576 < ps.length
  · unfold maxLen at hm1 hm2
    clear hz hy
    generalize cs.length = n at *
    generalize ps.length = m at *
    have g1 : ¬ (1048576 : Int) < (n : Int) := by omega
    go_enter Try.func4, Try.ntmps4
    go_wp2
    go_ret
    exact ⟨rfl, Below.refl _ _⟩
  have HC := Lib.hid (fun X (hX : Below w.heap.size w X) => hz.below hX (Nat.le_refl _))
  have HP := Lib.hid (fun X (hX : Below w.heap.size w X) => hy.below hX (Nat.le_refl _))
  have HTC := Lib.hid (fun w hz => toIntS_any cs a0 c0 (by omega) w hz)
  have HTP := Lib.hid (fun w hz => toIntS_any ps a1 c1 (by omega) w hz)
  have HS := Lib.hid (fun x y c d w hz hy => specBusyPeriod_any cs ps b x y c d hm w hz hy)
  have HI := Lib.hid (fun x y c d w hz hy => BusyPeriod_any cs ps b x y c d hm w hz hy)
  have HQC := Lib.hid (fun a b c d w hz hy => eqIntS_same cs a b c d (by omega) w hz hy)
  have HQP := Lib.hid (fun a b c d w hz hy => eqIntS_same ps a b c d (by omega) w hz hy)
  have hn1 : cs.length ≤ 1048576 := by omega
  have hn2 : ps.length ≤ 1048576 := by omega
  clear hz hy hm hbig hbig2 hm1 hm2
  generalize busyF cs ps b = R at *
  obtain ⟨r, rc⟩ := R
  have e1 : (r != r) = false := by simp
  have e2 : (rc != rc) = false := by simp
  generalize cs.length = n at *
  generalize ps.length = m at *
  have HB := Lib.hid (Below.refl w.heap.size w)
  go_enter Try.func4, Try.ntmps4
  go_wp2_with fail
  refine Calls.mono (HTC.out _ (HC.out _ HB.out)) ?_
  rintro e w1 ⟨rfl, ho, hb⟩
  have L1 := Lib.hid (lies_own ho)
  have HB := Lib.hid (HB.out.trans (hb.mono HB.out.size))
  clear ho hb
  go_wp2_with fail
  refine Calls.mono (HTP.out _ (HP.out _ HB.out)) ?_
  rintro e w2 ⟨rfl, ho, hb⟩
  have L2 := Lib.hid (lies_own ho)
  have L1 := Lib.hid (L1.out.below hb (Nat.le_refl _))
  have HB := Lib.hid (HB.out.trans (hb.mono HB.out.size))
  clear ho hb
  go_wp2_with fail
  refine Calls.mono (HS.out _ _ _ _ _ L1.out L2.out) ?_
  rintro e w3 ⟨rfl, hb⟩
  have L1 := Lib.hid (L1.out.below hb (Nat.le_refl _))
  have L2 := Lib.hid (L2.out.below hb (Nat.le_refl _))
  have HB := Lib.hid (HB.out.trans (hb.mono HB.out.size))
  clear hb
  go_wp2_with fail
  refine Calls.mono (HTC.out _ (HC.out _ HB.out)) ?_
  rintro e w4 ⟨rfl, ho, hb⟩
  have L3 := Lib.hid (lies_own ho)
  have HB := Lib.hid (HB.out.trans (hb.mono HB.out.size))
  clear ho hb
  go_wp2_with fail
  refine Calls.mono (HTP.out _ (HP.out _ HB.out)) ?_
  rintro e w5 ⟨rfl, ho, hb⟩
  have L4 := Lib.hid (lies_own ho)
  have L3 := Lib.hid (L3.out.below hb (Nat.le_refl _))
  have HB := Lib.hid (HB.out.trans (hb.mono HB.out.size))
  clear ho hb
  go_wp2_with fail
  refine Calls.mono (HI.out _ _ _ _ _ L3.out L4.out) ?_
  rintro e w6 ⟨rfl, hb⟩
  have L3 := Lib.hid (L3.out.below hb (Nat.le_refl _))
  have L4 := Lib.hid (L4.out.below hb (Nat.le_refl _))
  have HB := Lib.hid (HB.out.trans (hb.mono HB.out.size))
  clear hb
  go_wp2_with fail
  refine Calls.mono (HTC.out _ (HC.out _ HB.out)) ?_
  rintro e w7 ⟨rfl, ho, hb⟩
  have L5 := Lib.hid (lies_own ho)
  have L3 := Lib.hid (L3.out.below hb (Nat.le_refl _))
  have L4 := Lib.hid (L4.out.below hb (Nat.le_refl _))
  have HB := Lib.hid (HB.out.trans (hb.mono HB.out.size))
  clear ho hb
  go_wp2_with fail
  refine Calls.mono (HQC.out _ _ _ _ _ L3.out L5.out) ?_
  rintro e w8 ⟨rfl, hb⟩
  have L3 := Lib.hid (L3.out.below hb (Nat.le_refl _))
  have L4 := Lib.hid (L4.out.below hb (Nat.le_refl _))
  have L5 := Lib.hid (L5.out.below hb (Nat.le_refl _))
  have HB := Lib.hid (HB.out.trans (hb.mono HB.out.size))
  clear hb
  go_wp2_with fail
  refine Calls.mono (HTP.out _ (HP.out _ HB.out)) ?_
  rintro e w9 ⟨rfl, ho, hb⟩
  have L6 := Lib.hid (lies_own ho)
  have L3 := Lib.hid (L3.out.below hb (Nat.le_refl _))
  have L4 := Lib.hid (L4.out.below hb (Nat.le_refl _))
  have L5 := Lib.hid (L5.out.below hb (Nat.le_refl _))
  have HB := Lib.hid (HB.out.trans (hb.mono HB.out.size))
  clear ho hb
  go_wp2_with fail
  refine Calls.mono (HQP.out _ _ _ _ _ L4.out L6.out) ?_
  rintro e w10 ⟨rfl, hb⟩
  have L3 := Lib.hid (L3.out.below hb (Nat.le_refl _))
  have L4 := Lib.hid (L4.out.below hb (Nat.le_refl _))
  have L5 := Lib.hid (L5.out.below hb (Nat.le_refl _))
  have L6 := Lib.hid (L6.out.below hb (Nat.le_refl _))
  have HB := Lib.hid (HB.out.trans (hb.mono HB.out.size))
  clear hb
  go_wp2
  go_ret
  exact ⟨rfl, HB.out⟩
theorem FnExactBusyPeriod_came (a0 : Option Addr) (n0 c0 : Nat) (a1 : Option Addr) (n1 c1 : Nat) (b : Int) (W : World) (h0 : Came Try.prog W 30 [.slice a0 n0 c0]) (h1 : Came Try.prog W 30 [.slice a1 n1 c1]) (_ : (Lit.int .i64 b).wf = true) :
    Calls Try.prog 4 #[.slice a0 n0 c0, .slice a1 n1 c1, .int .i64 b] W fun e w' => e = .returned (.bool true) ∧ Below W.heap.size W w' := by
  obtain ⟨hm0, _, cs, rfl, hz⟩ := came_ks h0
  obtain ⟨hm1, _, ps, rfl, hy⟩ := came_ks h1
  exact FnExactBusyPeriod_walk cs ps b a0 a1 c0 c1 W ⟨hm0, hm1⟩ hz hy
end Go.Proofs.Ytppgknjpbfopjaa
