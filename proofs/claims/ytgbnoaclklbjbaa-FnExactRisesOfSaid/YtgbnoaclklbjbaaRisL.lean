/- The exact law of RisesOf. (Written by tools/gen_risl.py.) -/
import Derived.Test.YtgbnoaclklbjbaaRis
namespace Go.Proofs.Ytgbnoaclklbjbaa
open Go.ChangeShapes Go.WideShapes Go.ChangeAt Go.RowKit
set_option linter.unusedVariables false
theorem own_above {w : World} {B p e size n : Nat} {v : Value} {xs : List Value} (ho : w.ownsRow B e size v n xs) (hp : p < B) : v.ownBlock ≠ some p := by
  intro hv
  have := (ho.lt p hv).1
  omega
theorem own_apart {w w' : World} {B size n B' size' n' : Nat} {e t : TypeId} {v v' : Value} {xs xs' : List Value} (h : w.ownsRow B e size v n xs) (h' : w'.ownsRow B' t size' v' n' xs') (hB : w.heap.size ≤ B') : v.ownBlock = none ∨ v.ownBlock ≠ v'.ownBlock := by
  cases hv : v.ownBlock with
  | none => exact .inl rfl
  | some g =>
    refine .inr fun e' => ?_
    have h1 := (h.lt g hv).2
    have h2 := (h'.lt g e'.symm).1
    omega
theorem risF_len (o n : List Bool) : (risF o n).1.length ≤ 8 := by
  unfold risF
  split
  · exact Nat.zero_le _
  split
  · exact Nat.zero_le _
  · exact risL_len o n 8
set_option maxRecDepth 100000 in
set_option maxHeartbeats 2000000 in
theorem FnExactRisesOf_walk (o n : List Bool) (x y : Option Addr) (c d : Nat) (ho : o.length ≤ maxLen) (hn : n.length ≤ maxLen) (w : World) (hz : Lies w x (flat bI o)) (hy : Lies w y (flat bI n)) :
    Calls Try.prog 8 #[.slice x o.length c, .slice y n.length d] w fun e w' => e = .returned (.bool true) ∧ Below w.heap.size w w' := by
  have HZ := Lib.hid hz
  have HY := Lib.hid hy
  clear hz hy
  by_cases ho1 : o.length ≤ 1048576
  case neg =>
    unfold maxLen at ho hn
    generalize o.length = p at *
    generalize n.length = m at *
    go_enter Try.func8, Try.ntmps8
    go_wp2
    go_ret
    exact ⟨rfl, Below.refl _ _⟩
  by_cases hn1 : n.length ≤ 1048576
  case neg =>
    unfold maxLen at ho hn
    generalize o.length = p at *
    generalize n.length = m at *
    go_enter Try.func8, Try.ntmps8
    go_wp2
    go_ret
    exact ⟨rfl, Below.refl _ _⟩
  have HTO := Lib.hid (fun w hz => toBoolS_any o x c ho1 w hz)
  have HTN := Lib.hid (fun w hz => toBoolS_any n y d hn1 w hz)
  have HEO := Lib.hid (fun a b c d w hz hy => eqBoolS_same o a b c d ho1 w hz hy)
  have HEN := Lib.hid (fun a b c d w hz hy => eqBoolS_same n a b c d hn1 w hz hy)
  have HMO := Lib.hid (fun B a c xs w hz => markBoolS_own B o.length c a xs 1 (by omega) ho1 w hz)
  have HMN := Lib.hid (fun B a c xs w hz => markBoolS_own B n.length c a xs (1 + o.length) (by omega) hn1 w hz)
  have HI := Lib.hid (fun a b c d w hz hy => implRisesOf_any o n a b c d ho hn w hz hy)
  have HS := Lib.hid (fun a b c d w hz hy => specRisesOf_any o n a b c d ho hn w hz hy)
  have HRL := risF_len o n
  generalize risF o n = R at *
  obtain ⟨R1, rc⟩ := R
  have HRL : R1.length ≤ 8 := HRL
  have HEI := Lib.hid (fun a b c d w hz hy => eqIntS_same R1 a b c d (by omega) w hz hy)
  have HMI := Lib.hid (fun B a c xs w hz => markIntS_own B R1.length c a xs 1 (by omega) (by omega) w hz)
  have HHI := Lib.hid (fun a c w hz => heldIntS_any R1.length c a 1 (by omega) (by omega) w hz)
  have nrc : (rc != rc) = false := by simp
  have hM : (0 : Int) ≤ 1 + (R1.length : Int) ∧ 1 + (R1.length : Int) ≤ 1000000000 := by omega
  unfold MarkIPost at HMI
  unfold MarkBPost at HMO HMN
  unfold RisPost at HI HS
  generalize (1 + (R1.length : Int)) = M at *
  have hQ : (0 : Int) ≤ 1 + (o.length : Int) + (n.length : Int) := by omega
  unfold maxLen at ho hn
  go_enter Try.func8, Try.ntmps8
  have HB := Lib.hid (Below.refl w.heap.size w)
  go_wp2_with fail
  refine Calls.mono (HTO.out _ (HZ.out.below HB.out (Nat.le_refl _))) ?_
  rintro e w1 ⟨rfl, ho, hb⟩
  have HB := Lib.hid (HB.out.trans (hb.mono HB.out.size))
  have A1 := Lib.hid ho
  clear ho
  clear hb
  go_wp2_with fail
  refine Calls.mono (HTN.out _ (HY.out.below HB.out (Nat.le_refl _))) ?_
  rintro e w2 ⟨rfl, ho, hb⟩
  have A1 := Lib.hid (own_bl A1.out hb)
  have HB := Lib.hid (HB.out.trans (hb.mono HB.out.size))
  have A2 := Lib.hid ho
  clear ho
  clear hb
  go_wp2_with fail
  refine Calls.mono (HS.out _ _ _ _ _ (lies_own A1.out) (lies_own A2.out)) ?_
  rintro e w3 ⟨a1, c1, rfl, ho, hb⟩
  have A1 := Lib.hid (own_bl A1.out hb)
  have A2 := Lib.hid (own_bl A2.out hb)
  have HB := Lib.hid (HB.out.trans (hb.mono HB.out.size))
  have RW := Lib.hid ho
  have RW0 := Lib.hid ho
  clear ho
  clear hb
  have HS3 := Lib.hid HB.out.size
  clear A1
  clear A2
  go_wp2_with fail
  refine Calls.mono (HTO.out _ (HZ.out.below HB.out (Nat.le_refl _))) ?_
  rintro e w4 ⟨rfl, ho, hb⟩
  have RW := Lib.hid (own_bl RW.out hb)
  have HB := Lib.hid (HB.out.trans (hb.mono HB.out.size))
  have X0 := Lib.hid ho
  clear ho
  have S34 := hb.size
  clear hb
  have HS4 := Lib.hid HB.out.size
  have L0 := Lib.hid ((X0.out.lt _ rfl).2)
  go_wp2_with fail
  refine Calls.mono (HTN.out _ (HY.out.below HB.out (Nat.le_refl _))) ?_
  rintro e w5 ⟨rfl, ho, hb⟩
  have RW := Lib.hid (own_bl RW.out hb)
  have X0 := Lib.hid (own_bl X0.out hb)
  have HB := Lib.hid (HB.out.trans (hb.mono HB.out.size))
  have X1 := Lib.hid ho
  clear ho
  have SW := Nat.le_trans S34 hb.size
  clear hb
  have HS5 := Lib.hid HB.out.size
  have SW := Lib.hid SW
  clear S34
  go_wp2_with fail
  refine Calls.mono (HI.out _ _ _ _ _ (lies_own X0.out) (lies_own X1.out)) ?_
  rintro e w6 ⟨a2, c2, rfl, ho, hb⟩
  have RW := Lib.hid (own_bl RW.out hb)
  have X0 := Lib.hid (own_bl X0.out hb)
  have X1 := Lib.hid (own_bl X1.out hb)
  have HB := Lib.hid (HB.out.trans (hb.mono HB.out.size))
  have RG := Lib.hid ho
  clear ho
  clear hb
  go_wp2_with fail
  refine Calls.mono (HEI.out _ _ _ _ _ (lies_own RG.out) (lies_own RW.out)) ?_
  rintro e w7 ⟨rfl, hb⟩
  have RW := Lib.hid (own_bl RW.out hb)
  have X0 := Lib.hid (own_bl X0.out hb)
  have X1 := Lib.hid (own_bl X1.out hb)
  have RG := Lib.hid (own_bl RG.out hb)
  have HB := Lib.hid (HB.out.trans (hb.mono HB.out.size))
  clear hb
  go_wp2_with fail
  refine Calls.mono (HTO.out _ (HZ.out.below HB.out (Nat.le_refl _))) ?_
  rintro e w8 ⟨rfl, ho, hb⟩
  have RW := Lib.hid (own_bl RW.out hb)
  have X0 := Lib.hid (own_bl X0.out hb)
  have X1 := Lib.hid (own_bl X1.out hb)
  have RG := Lib.hid (own_bl RG.out hb)
  have HB := Lib.hid (HB.out.trans (hb.mono HB.out.size))
  have T := Lib.hid ho
  clear ho
  clear hb
  go_wp2_with fail
  refine Calls.mono (HEO.out _ _ _ _ _ (lies_own X0.out) (lies_own T.out)) ?_
  rintro e w9 ⟨rfl, hb⟩
  have RW := Lib.hid (own_bl RW.out hb)
  have X0 := Lib.hid (own_bl X0.out hb)
  have X1 := Lib.hid (own_bl X1.out hb)
  have RG := Lib.hid (own_bl RG.out hb)
  have T := Lib.hid (own_bl T.out hb)
  have HB := Lib.hid (HB.out.trans (hb.mono HB.out.size))
  clear hb
  clear T
  go_wp2_with fail
  refine Calls.mono (HTN.out _ (HY.out.below HB.out (Nat.le_refl _))) ?_
  rintro e w10 ⟨rfl, ho, hb⟩
  have RW := Lib.hid (own_bl RW.out hb)
  have X0 := Lib.hid (own_bl X0.out hb)
  have X1 := Lib.hid (own_bl X1.out hb)
  have RG := Lib.hid (own_bl RG.out hb)
  have HB := Lib.hid (HB.out.trans (hb.mono HB.out.size))
  have T := Lib.hid ho
  clear ho
  clear hb
  go_wp2_with fail
  refine Calls.mono (HEN.out _ _ _ _ _ (lies_own X1.out) (lies_own T.out)) ?_
  rintro e w11 ⟨rfl, hb⟩
  have RW := Lib.hid (own_bl RW.out hb)
  have X0 := Lib.hid (own_bl X0.out hb)
  have X1 := Lib.hid (own_bl X1.out hb)
  have RG := Lib.hid (own_bl RG.out hb)
  have T := Lib.hid (own_bl T.out hb)
  have HB := Lib.hid (HB.out.trans (hb.mono HB.out.size))
  clear hb
  clear T
  go_wp2_with fail
  refine Calls.mono (HMO.out _ _ _ _ _ X0.out) ?_
  rintro e w12 ⟨rfl, ho, hb⟩
  have RW := Lib.hid (RW.out.kept hb (own_ne2 RW.out X0.out (by decide)))
  have RG := Lib.hid (RG.out.kept hb (own_ne2 RG.out X0.out (by decide)))
  have X1 := Lib.hid (X1.out.kept hb (Or.inr (own_above X1.out L0.out)))
  have HB := Lib.hid (HB.out.grown hb HB.out.size (fun j hj => Nat.le_trans HS3.out ((X0.out.lt j hj).1)))
  clear hb ho X0
  go_wp2_with fail
  refine Calls.mono (HMN.out _ _ _ _ _ X1.out) ?_
  rintro e w13 ⟨rfl, ho, hb⟩
  have RW := Lib.hid (RW.out.kept hb (own_ne2 RW.out X1.out (by decide)))
  have RG := Lib.hid (RG.out.kept hb (own_ne2 RG.out X1.out (by decide)))
  have HB := Lib.hid (HB.out.grown hb HB.out.size (fun j hj => Nat.le_trans HS4.out ((X1.out.lt j hj).1)))
  clear hb ho X1 L0
  go_wp2_with fail
  refine Calls.mono (HEI.out _ _ _ _ _ (lies_own RG.out) (lies_own RW.out)) ?_
  rintro e w14 ⟨rfl, hb⟩
  have RW := Lib.hid (own_bl RW.out hb)
  have RG := Lib.hid (own_bl RG.out hb)
  have HB := Lib.hid (HB.out.trans (hb.mono HB.out.size))
  clear hb
  go_wp2_with fail
  refine Calls.mono (HMI.out _ _ _ _ _ RG.out) ?_
  rintro e w15 ⟨rfl, ho, hb⟩
  have RW := Lib.hid (RW.out.kept hb (own_apart RW0.out RG.out SW.out))
  have HB := Lib.hid (HB.out.grown hb HB.out.size (fun j hj => Nat.le_trans HS5.out ((RG.out.lt j hj).1)))
  have RG := Lib.hid ho
  clear ho hb
  go_wp2_with fail
  refine Calls.mono (HHI.out _ _ _ (lies_own RG.out)) ?_
  rintro e w16 ⟨rfl, rfl⟩
  go_wp2_with fail
  refine Calls.mono (HTO.out _ (HZ.out.below HB.out (Nat.le_refl _))) ?_
  rintro e w17 ⟨rfl, ho, hb⟩
  have RW := Lib.hid (own_bl RW.out hb)
  have RG := Lib.hid (own_bl RG.out hb)
  have HB := Lib.hid (HB.out.trans (hb.mono HB.out.size))
  have A1 := Lib.hid ho
  clear ho
  clear hb
  go_wp2_with fail
  refine Calls.mono (HTN.out _ (HY.out.below HB.out (Nat.le_refl _))) ?_
  rintro e w18 ⟨rfl, ho, hb⟩
  have RW := Lib.hid (own_bl RW.out hb)
  have RG := Lib.hid (own_bl RG.out hb)
  have A1 := Lib.hid (own_bl A1.out hb)
  have HB := Lib.hid (HB.out.trans (hb.mono HB.out.size))
  have A2 := Lib.hid ho
  clear ho
  clear hb
  go_wp2_with fail
  refine Calls.mono (HI.out _ _ _ _ _ (lies_own A1.out) (lies_own A2.out)) ?_
  rintro e w19 ⟨a3, c3, rfl, ho, hb⟩
  have RW := Lib.hid (own_bl RW.out hb)
  have RG := Lib.hid (own_bl RG.out hb)
  have A1 := Lib.hid (own_bl A1.out hb)
  have A2 := Lib.hid (own_bl A2.out hb)
  have HB := Lib.hid (HB.out.trans (hb.mono HB.out.size))
  have RH := Lib.hid ho
  clear ho
  clear hb
  clear A1
  clear A2
  go_wp2_with fail
  refine Calls.mono (HEI.out _ _ _ _ _ (lies_own RH.out) (lies_own RW.out)) ?_
  rintro e w20 ⟨rfl, hb⟩
  have RW := Lib.hid (own_bl RW.out hb)
  have RG := Lib.hid (own_bl RG.out hb)
  have RH := Lib.hid (own_bl RH.out hb)
  have HB := Lib.hid (HB.out.trans (hb.mono HB.out.size))
  clear hb
  go_wp2_with fail
  refine Calls.mono (HHI.out _ _ _ (lies_own RG.out)) ?_
  rintro e w21 ⟨rfl, rfl⟩
  go_wp2
  go_ret
  exact ⟨rfl, HB.out⟩
theorem FnExactRisesOf_came (a : Option Addr) (n c : Nat) (a' : Option Addr) (n' c' : Nat) (W : World) (h : Came Try.prog W 45 [.slice a n c]) (h' : Came Try.prog W 45 [.slice a' n' c']) : Calls Try.prog 8 #[.slice a n c, .slice a' n' c'] W fun e w' => e = .returned (.bool true) ∧ Below W.heap.size W w' := by
  obtain ⟨hm, -, bs, rfl, hz⟩ := came_bs h
  obtain ⟨hm', -, bs', rfl, hz'⟩ := came_bs h'
  exact FnExactRisesOf_walk bs bs' a a' c c' hm hm' W hz hz'
end Go.Proofs.Ytgbnoaclklbjbaa
