/- VerifyCode of impl. -/
import Derived.Test.YtmpppfibeoghaaaGreatDoorVArgs
namespace Go.Proofs.YtmpppfibeoghaaaGreatDoor
open Go.ChangeShapes Go.WideShapes Go.ChangeAt Go.RowKit
set_option linter.unusedVariables false
/-- The three tables. -/
structure VTabs (W : World) : Prop where
  op : OpTab W
  eff : EffTab W
  fb : FbTab W
theorem VTabs.below {B : Nat} {w w' : World} (h : VTabs w) (g : Below B w w') (hB : w.heap.size ≤ B) : VTabs w' := ⟨h.op.below g hB, h.eff.below g hB, h.fb.below g hB⟩
theorem argumentError_any (zs : List Ins) (a : Option Addr) (c : Nat) (ks : List Int) (k : Option Addr) (kc : Nat) (r : Int) (hm : zs.length ≤ maxLen) (hk : ks.length ≤ maxLen) (w : World) (ht : OpTab w) (hz : Lies w a (flat insC zs)) (hy : Lies w k (kC ks)) :
    Calls Tryz.prog 140 #[.slice a zs.length c, .slice k ks.length kc, .int .i64 r] w fun e w' => e = .returned (.int .i64 (argF zs ks r)) ∧ Below w.heap.size w w' := by
  have HW := Lib.hid (fun w hz => wellFormed_any zs a c hm w hz)
  have HK := Lib.hid (fun w hz => kindsOK_any k kc ks hk w hz)
  have HZ := Lib.hid hz
  have HY := Lib.hid hy
  have HT := Lib.hid ht
  clear hz hy ht
  unfold maxLen at hm hk
  by_cases h1 : 4096 < ks.length
  · have HR : Hid (argF zs ks r = 2) := Lib.hid (if_pos (.inl h1))
    generalize zs.length = n at *
    generalize ks.length = m at *
    go_enter Tryz.func140, Tryz.ntmps140
    go_wp2
    go_ret
    exact ⟨by rw [HR.out]; rfl, Below.refl _ _⟩
  by_cases h2 : 4096 < zs.length
  · have HR : Hid (argF zs ks r = 2) := Lib.hid (if_pos (.inr h2))
    have HC := Lib.hid (fun w => lengthError_is (if_pos h2) a c w)
    generalize zs.length = n at *
    generalize ks.length = m at *
    go_enter Tryz.func140, Tryz.ntmps140
    go_wp2_with (go_at_call 118; refine (HC.out _).mono ?_; rintro e w' ⟨rfl, rfl⟩)
    go_ret
    exact ⟨by rw [HR.out]; rfl, Below.refl _ _⟩
  have e1 : argF zs ks r = if 40 < zs.length then 6 else if (kindsB ks && okAll zs) = false then 1 else if r < 0 ∨ 6 < r then 4 else 0 := if_neg (by omega)
  by_cases h3 : 40 < zs.length
  · have HR : Hid (argF zs ks r = 6) := Lib.hid (e1.trans (if_pos h3))
    have HC := Lib.hid (fun w => lengthError_is ((if_neg h2).trans (if_pos h3)) a c w)
    clear e1
    generalize zs.length = n at *
    generalize ks.length = m at *
    go_enter Tryz.func140, Tryz.ntmps140
    go_wp2_with (go_at_call 118; refine (HC.out _).mono ?_; rintro e w' ⟨rfl, rfl⟩)
    go_ret
    exact ⟨by rw [HR.out]; rfl, Below.refl _ _⟩
  have e2 := e1.trans (if_neg h3)
  have HC := Lib.hid (fun w => lengthError_is ((if_neg h2).trans (if_neg h3)) a c w)
  have hwe : wellB zs = okAll zs := by unfold wellB; rw [decide_eq_true (by omega)]; rfl
  cases hkb : kindsB ks
  · have HR : Hid (argF zs ks r = 1) := Lib.hid (e2.trans (if_pos (by rw [hkb]; rfl)))
    rw [hkb] at HK
    clear e1 e2 hkb hwe
    generalize zs.length = n at *
    generalize ks.length = m at *
    go_enter Tryz.func140, Tryz.ntmps140
    go_wp2_with first | (go_at_call 118; refine (HC.out _).mono ?_; rintro e w' ⟨rfl, rfl⟩) | (go_at_call 37; refine (HK.out _ HY.out).mono ?_; rintro e w' ⟨rfl, rfl⟩)
    go_ret
    exact ⟨by rw [HR.out]; rfl, Below.refl _ _⟩
  rw [hkb] at HK
  rw [hwe] at HW
  cases hok : okAll zs
  · have HR : Hid (argF zs ks r = 1) := Lib.hid (e2.trans (if_pos (by rw [hkb, hok]; rfl)))
    rw [hok] at HW
    clear e1 e2 hkb hwe hok
    generalize zs.length = n at *
    generalize ks.length = m at *
    go_enter Tryz.func140, Tryz.ntmps140
    go_wp2_with first | (go_at_call 118; refine (HC.out _).mono ?_; rintro e w' ⟨rfl, rfl⟩) | (go_at_call 37; refine (HK.out _ HY.out).mono ?_; rintro e w' ⟨rfl, rfl⟩) | (go_at_call 104; refine (HW.out _ HT.out HZ.out).mono ?_; rintro e w2 ⟨rfl, hb2⟩; have Hb2 := Lib.hid hb2; clear hb2)
    go_ret
    exact ⟨by rw [HR.out]; rfl, Hb2.out⟩
  rw [hok] at HW
  have e3 := e2.trans (if_neg (by rw [hkb, hok]; decide))
  by_cases h5 : r < 0
  · have HR : Hid (argF zs ks r = 4) := Lib.hid (e3.trans (if_pos (.inl h5)))
    clear e1 e2 e3 hkb hwe hok
    generalize zs.length = n at *
    generalize ks.length = m at *
    go_enter Tryz.func140, Tryz.ntmps140
    go_wp2_with first | (go_at_call 118; refine (HC.out _).mono ?_; rintro e w' ⟨rfl, rfl⟩) | (go_at_call 37; refine (HK.out _ HY.out).mono ?_; rintro e w' ⟨rfl, rfl⟩) | (go_at_call 104; refine (HW.out _ HT.out HZ.out).mono ?_; rintro e w2 ⟨rfl, hb2⟩; have Hb2 := Lib.hid hb2; clear hb2)
    go_ret
    exact ⟨by rw [HR.out]; rfl, Hb2.out⟩
  by_cases h6 : 6 < r
  · have HR : Hid (argF zs ks r = 4) := Lib.hid (e3.trans (if_pos (.inr h6)))
    clear e1 e2 e3 hkb hwe hok
    generalize zs.length = n at *
    generalize ks.length = m at *
    go_enter Tryz.func140, Tryz.ntmps140
    go_wp2_with first | (go_at_call 118; refine (HC.out _).mono ?_; rintro e w' ⟨rfl, rfl⟩) | (go_at_call 37; refine (HK.out _ HY.out).mono ?_; rintro e w' ⟨rfl, rfl⟩) | (go_at_call 104; refine (HW.out _ HT.out HZ.out).mono ?_; rintro e w2 ⟨rfl, hb2⟩; have Hb2 := Lib.hid hb2; clear hb2)
    go_ret
    exact ⟨by rw [HR.out]; rfl, Hb2.out⟩
  have HR : Hid (argF zs ks r = 0) := Lib.hid (e3.trans (if_neg (by omega)))
  clear e1 e2 e3 hkb hwe hok
  generalize zs.length = n at *
  generalize ks.length = m at *
  go_enter Tryz.func140, Tryz.ntmps140
  go_wp2_with first | (go_at_call 118; refine (HC.out _).mono ?_; rintro e w' ⟨rfl, rfl⟩) | (go_at_call 37; refine (HK.out _ HY.out).mono ?_; rintro e w' ⟨rfl, rfl⟩) | (go_at_call 104; refine (HW.out _ HT.out HZ.out).mono ?_; rintro e w2 ⟨rfl, hb2⟩; have Hb2 := Lib.hid hb2; clear hb2)
  go_ret
  exact ⟨by rw [HR.out]; rfl, Hb2.out⟩
/-- What VerifyCode answers. -/
def codeV (zs : List Ins) (ks : List Int) (r : Int) : Int × Int := if argF zs ks r ≠ 0 then (0, argF zs ks r) else vVer zs ks r
theorem okAll_at {zs : List Ins} (h : okAll zs = true) {j : Nat} (hj : j < zs.length) : okB (zs.getD j (0, 0)).1 (zs.getD j (0, 0)).2 = true := by
  unfold okAll at h
  rw [List.all_eq_true] at h
  exact h _ (by simp [List.getD, hj])
theorem ret_ii2 {a b c d : Int} (h : a = c) (g : b = d) : Ending.returned (.tuple #[.int .i64 a, .int .i64 b]) = .returned (.tuple #[.int .i64 c, .int .i64 d]) := by rw [h, g]
theorem verifyCode_any (zs : List Ins) (a : Option Addr) (c : Nat) (ks : List Int) (k : Option Addr) (kc : Nat) (r : Int) (hm : zs.length ≤ maxLen) (hk : ks.length ≤ maxLen) (w : World) (ht : VTabs w) (hz : Lies w a (flat insC zs)) (hy : Lies w k (kC ks)) :
    Calls Tryz.prog 105 #[.slice a zs.length c, .slice k ks.length kc, .int .i64 r] w fun e w' => e = .returned (.tuple #[.int .i64 (codeV zs ks r).1, .int .i64 (codeV zs ks r).2]) ∧ Below w.heap.size w w' := by
  have HA := Lib.hid (argumentError_any zs a c ks k kc r hm hk w ht.op hz hy)
  by_cases h0 : argF zs ks r = 0
  · obtain ⟨h40, hkb, hok, _, _⟩ := argF_ok h0
    have HR : Hid (codeV zs ks r = vVer zs ks r) := Lib.hid (if_neg (fun q => q h0))
    have HV : Hid (∀ w2, Below w.heap.size w w2 → Calls Tryz.prog 141 #[.slice a zs.length c, .slice k ks.length kc, .int .i64 r] w2 fun e w' => e = .returned (.agg #[.int .i64 (vVer zs ks r).1, .int .i64 (vVer zs ks r).2]) ∧ Below w2.heap.size w2 w') :=
      Lib.hid (fun w2 hb => verify_any k kc ks r zs a c h40 (fun j hj => okAll_at hok hj) w2 ⟨(ht.below hb (Nat.le_refl _)).eff, (ht.below hb (Nat.le_refl _)).fb, hy.below hb (Nat.le_refl _), (kindsB_all hkb).2⟩ (hz.below hb (Nat.le_refl _)))
    rw [h0] at HA
    clear h0 h40 hkb hok hz hy ht hm hk
    generalize vVer zs ks r = V at *
    obtain ⟨i, d⟩ := V
    dsimp only at HV
    generalize zs.length = n at *
    generalize ks.length = m at *
    go_enter Tryz.func105, Tryz.ntmps105
    go_wp2_with fail
    refine Calls.mono HA.out ?_
    rintro e w1 ⟨rfl, hb1⟩
    have Hb1 := Lib.hid hb1
    clear hb1
    go_wp2_with fail
    refine Calls.mono (HV.out _ Hb1.out) ?_
    rintro e w2 ⟨rfl, hb2⟩
    have Hb2 := Lib.hid (Hb1.out.trans (hb2.mono Hb1.out.size))
    clear hb2
    go_wp2
    go_quiet (fail)
    go_wp2
    go_ret2
    exact ⟨ret_ii2 (by rw [HR.out]) (by rw [HR.out]), bel_dn (Hb2.out.alloc Hb2.out.size _) _⟩
  · have HR : Hid (codeV zs ks r = (0, argF zs ks r)) := Lib.hid (if_pos h0)
    have hq : (argF zs ks r != 0) = true := by rw [bne_iff_ne]; exact h0
    clear hz hy ht hm hk h0
    generalize argF zs ks r = d at *
    generalize zs.length = n at *
    generalize ks.length = m at *
    go_enter Tryz.func105, Tryz.ntmps105
    go_wp2_with fail
    refine Calls.mono HA.out ?_
    rintro e w1 ⟨rfl, hb1⟩
    have Hb1 := Lib.hid hb1
    clear hb1
    go_wp2
    go_ret2
    exact ⟨ret_ii2 (by rw [HR.out]) (by rw [HR.out]), Hb1.out⟩
end Go.Proofs.YtmpppfibeoghaaaGreatDoor
