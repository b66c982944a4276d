/- The law DemoProgram. -/
import Derived.Test.YtpdnkcfphjbbfaaDemo
namespace Go.Proofs.Ytpdnkcfphjbbfaa
open Go.ChangeShapes Go.WideShapes Go.ChangeAt Go.RowKit
set_option linter.unusedVariables false
def DPost (D : Pgm) (w : World) (e : Ending) (w' : World) : Prop := ∃ h : PH, e = .returned (pV h D) ∧ POwn w.heap.size w'.heap.size h D w' ∧ Below w.heap.size w w'
theorem law_demo (D : Pgm) (hle : D.le 1048576) (hsu : sumP D.rs D.rs.length ≤ 1048576) (hs : ∀ w, Calls Try.prog 8 #[] w (DPost D w)) (hi : ∀ w, Calls Try.prog 9 #[] w (DPost D w)) (W : World) :
    Calls Try.prog 4 #[] W fun e w' => e = .returned (.bool true) ∧ Below W.heap.size W w' := by
  have HE := Lib.hid (fun h h' w hz hy => eqProgram_same h h' D hle w hz hy)
  have HM : Hid (∀ (B hi : Nat) (h : PH) (w : World), POwn B hi h D w → hi ≤ w.heap.size → Calls Try.prog 11 #[pV h D, .int .i64 1] w fun e w' => e = .returned (.int .i64 (1 + D.sum)) ∧ POwn B hi h (mkP 1 D) w' ∧ Mid B hi w w') := Lib.hid (fun B hi h w o hh => markProgram_own B hi h D 1 (by omega) hle hsu w o hh)
  have HH := Lib.hid (fun h w hz => heldProgram_any h D 1 (by omega) hle hsu w hz)
  have HS := Lib.hid hs
  have HI := Lib.hid hi
  have hp : ¬ (1 + D.sum < 0) := by unfold Pgm.sum; omega
  have e1 : ((1 + D.sum) != (1 + D.sum)) = false := by simp
  clear hs hi hle hsu
  generalize D.sum = S at *
  go_enter Try.func4, Try.ntmps4
  go_wp2_with fail
  refine Calls.mono (HS.out _) ?_
  rintro e w1 ⟨h, rfl, ho, hb⟩
  have PS := Lib.hid (ho.lies.below (dbox w1 (pO h D 33)) (Nat.le_refl _))
  have Hb := Lib.hid (hb.trans ((dbox w1 (pO h D 33)).mono hb.size))
  have HB1 := Lib.hid (heap_alloc_new w1 (pO h D 33))
  clear ho hb
  generalize hW1 : w1.alloc (pO h D 33) = V1 at *
  go_wp2_with fail
  refine Calls.mono (HI.out _) ?_
  rintro e w2 ⟨h2, rfl, ho, hb⟩
  have HA2 := dbox w2 (pO h2 D 33)
  have HO := Lib.hid (ho.bel HA2)
  have hb12 := hb.trans (HA2.mono hb.size)
  have HV := Lib.hid hb12
  have HVS := Lib.hid hb.size
  have HB1 := Lib.hid (blk_bel HB1.out hb12)
  have HB2 := Lib.hid (heap_alloc_new w2 (pO h2 D 33))
  have HL2 : Hid (w2.heap.size ≤ (w2.alloc (pO h2 D 33)).heap.size) := Lib.hid HA2.size
  have HN : Hid (w1.heap.size < V1.heap.size) := Lib.hid (by rw [← hW1]; simp)
  clear ho hb hb12 HA2 hW1
  have q0 := cell_of_row _ w1.heap.size 0 _ _ _ HB1.out
  have q1 := cell_of_row _ w1.heap.size 1 _ _ _ HB1.out
  have q2 := cell_of_row _ w1.heap.size 2 _ _ _ HB1.out
  have q3 := cell_of_row _ w1.heap.size 3 _ _ _ HB1.out
  generalize hW2 : w2.alloc (pO h2 D 33) = V2 at *
  have q4 := cell_of_row _ w2.heap.size 0 _ _ _ HB2.out
  have q5 := cell_of_row _ w2.heap.size 1 _ _ _ HB2.out
  have q6 := cell_of_row _ w2.heap.size 2 _ _ _ HB2.out
  have q7 := cell_of_row _ w2.heap.size 3 _ _ _ HB2.out
  go_wp2_with fail
  refine Calls.mono (HE.out _ _ _ HO.out.lies (PS.out.below HV.out (Nat.le_refl _))) ?_
  rintro e w3 ⟨rfl, hb⟩
  have HO := Lib.hid (HO.out.bel hb)
  have HV := Lib.hid (HV.out.trans (hb.mono HV.out.size))
  have HB1 := Lib.hid (blk_bel HB1.out hb)
  have HB2 := Lib.hid (blk_bel HB2.out hb)
  have HL2 := Lib.hid (Nat.le_trans HL2.out hb.size)
  clear q0 q1 q2 q3 q4 q5 q6 q7 hb hW2
  have q4 := cell_of_row _ w2.heap.size 0 _ _ _ HB2.out
  have q5 := cell_of_row _ w2.heap.size 1 _ _ _ HB2.out
  have q6 := cell_of_row _ w2.heap.size 2 _ _ _ HB2.out
  have q7 := cell_of_row _ w2.heap.size 3 _ _ _ HB2.out
  go_wp2_with fail
  refine Calls.mono (HM.out _ _ _ _ HO.out HL2.out) ?_
  rintro e w4 ⟨rfl, ho, hmid⟩
  have HV := Lib.hid (HV.out.trans (hmid.below HV.out.size))
  have HO := Lib.hid ho
  have HB1 := Lib.hid (hmid.at HB1.out (.inl HN.out))
  have HB2 := Lib.hid (hmid.at HB2.out (.inr (Nat.le_refl _)))
  clear ho hmid q4 q5 q6 q7
  have q4 := cell_of_row _ w2.heap.size 0 _ _ _ HB2.out
  have q5 := cell_of_row _ w2.heap.size 1 _ _ _ HB2.out
  have q6 := cell_of_row _ w2.heap.size 2 _ _ _ HB2.out
  have q7 := cell_of_row _ w2.heap.size 3 _ _ _ HB2.out
  go_wp2_with fail
  refine Calls.mono (HH.out _ _ HO.out.lies) ?_
  rintro e w5 ⟨rfl, hb⟩
  have HO := Lib.hid (HO.out.bel hb)
  have HV := Lib.hid (HV.out.trans (hb.mono HV.out.size))
  have HB1 := Lib.hid (blk_bel HB1.out hb)
  have HB2 := Lib.hid (blk_bel HB2.out hb)
  clear hb q4 q5 q6 q7
  go_wp2_with fail
  refine Calls.mono (HI.out _) ?_
  rintro e w6 ⟨h3, rfl, ho3, hb⟩
  have HA3 := dbox w6 (pO h3 D 33)
  have hb6 := hb.trans (HA3.mono hb.size)
  have P3 := Lib.hid (ho3.lies.below HA3 (Nat.le_refl _))
  have HO := Lib.hid (HO.out.bel hb6)
  have HV := Lib.hid (HV.out.trans (hb6.mono HV.out.size))
  have HB1 := Lib.hid (blk_bel HB1.out hb6)
  have HB2 := Lib.hid (blk_bel HB2.out hb6)
  have HB3 := Lib.hid (heap_alloc_new w6 (pO h3 D 33))
  clear ho3 hb hb6 HA3
  have q0 := cell_of_row _ w1.heap.size 0 _ _ _ HB1.out
  have q1 := cell_of_row _ w1.heap.size 1 _ _ _ HB1.out
  have q2 := cell_of_row _ w1.heap.size 2 _ _ _ HB1.out
  have q3 := cell_of_row _ w1.heap.size 3 _ _ _ HB1.out
  generalize hW3 : w6.alloc (pO h3 D 33) = V3 at *
  have q4 := cell_of_row _ w6.heap.size 0 _ _ _ HB3.out
  have q5 := cell_of_row _ w6.heap.size 1 _ _ _ HB3.out
  have q6 := cell_of_row _ w6.heap.size 2 _ _ _ HB3.out
  have q7 := cell_of_row _ w6.heap.size 3 _ _ _ HB3.out
  go_wp2_with fail
  refine Calls.mono (HE.out _ _ _ P3.out (PS.out.below HV.out (Nat.le_refl _))) ?_
  rintro e w7 ⟨rfl, hb⟩
  have HO := Lib.hid (HO.out.bel hb)
  have HV := Lib.hid (HV.out.trans (hb.mono HV.out.size))
  have HB2 := Lib.hid (blk_bel HB2.out hb)
  clear hb q0 q1 q2 q3 q4 q5 q6 q7 hW3
  have q4 := cell_of_row _ w2.heap.size 0 _ _ _ HB2.out
  have q5 := cell_of_row _ w2.heap.size 1 _ _ _ HB2.out
  have q6 := cell_of_row _ w2.heap.size 2 _ _ _ HB2.out
  have q7 := cell_of_row _ w2.heap.size 3 _ _ _ HB2.out
  go_wp2_with fail
  refine Calls.mono (HH.out _ _ HO.out.lies) ?_
  rintro e w8 ⟨rfl, hb⟩
  have HV := Lib.hid (HV.out.trans (hb.mono HV.out.size))
  clear hb q4 q5 q6 q7
  go_wp2
  go_ret
  exact ⟨rfl, Hb.out.trans (HV.out.mono Hb.out.size)⟩
theorem FnExactDemoProgram_came (W : World) : Calls Try.prog 4 #[] W fun e w' => e = .returned (.bool true) ∧ Below W.heap.size W w' :=
  law_demo demoP demo_le demo_sum (fun w => specDemo_any w) (fun w => implDemo_any w) W
end Go.Proofs.Ytpdnkcfphjbbfaa
