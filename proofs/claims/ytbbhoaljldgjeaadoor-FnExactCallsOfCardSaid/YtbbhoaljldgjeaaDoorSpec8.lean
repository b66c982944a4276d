/- VerifyCode of spec. -/
import Derived.Test.YtbbhoaljldgjeaaDoorSpec7
namespace Go.Proofs.YtbbhoaljldgjeaaDoor
open Go.ChangeShapes Go.WideShapes Go.ChangeAt Go.RowKit
set_option linter.unusedVariables false
theorem l04Ask_any (zs : List Ins) (a : Option Addr) (c : Nat) (ks : List Int) (k : Option Addr) (kc : Nat) (r : Int) (hm : zs.length ≤ maxLen) (hk : ks.length ≤ maxLen) (w : World) (hz : Lies w a (flat insC zs)) (hy : Lies w k (kC ks)) :
    Calls Tryd.prog 40 #[.slice a zs.length c, .slice k ks.length kc, .int .i64 r] w fun e w' => e = .returned (.int .i64 (argF zs ks r)) ∧ Below w.heap.size w w' := by
  have HK := Lib.hid (fun w hz => l04Kinds_any k kc ks hk w hz)
  have HZ := Lib.hid hz
  have HY := Lib.hid hy
  clear hz hy
  unfold maxLen at hm hk
  by_cases h1 : 4096 < ks.length ∨ 4096 < zs.length
  · have HR : Hid (argF zs ks r = 2) := Lib.hid (if_pos h1)
    by_cases h2 : 4096 < zs.length
    · clear h1
      generalize zs.length = n at *
      generalize ks.length = m at *
      go_enter Tryd.func40, Tryd.ntmps40
      go_wp2
      go_ret
      exact ⟨by rw [HR.out]; rfl, Below.refl _ _⟩
    · have h3 : 4096 < ks.length := by omega
      clear h1
      generalize zs.length = n at *
      generalize ks.length = m at *
      go_enter Tryd.func40, Tryd.ntmps40
      go_wp2
      go_ret
      exact ⟨by rw [HR.out]; rfl, Below.refl _ _⟩
  have hz1 : ¬ 4096 < zs.length := by omega
  have hk1 : ¬ 4096 < ks.length := by omega
  have e1 : argF zs ks r = if 40 < zs.length then 6 else if (kindsB ks && okAll zs) = false then 1 else if r < 0 ∨ 6 < r then 4 else 0 := if_neg h1
  clear h1
  by_cases h3 : 40 < zs.length
  · have HR : Hid (argF zs ks r = 6) := Lib.hid (e1.trans (if_pos h3))
    clear e1
    generalize zs.length = n at *
    generalize ks.length = m at *
    go_enter Tryd.func40, Tryd.ntmps40
    go_wp2
    go_ret
    exact ⟨by rw [HR.out]; rfl, Below.refl _ _⟩
  have e2 := e1.trans (if_neg h3)
  have HW := Lib.hid (fun w hz => l02All_any zs a c (by omega) w hz)
  cases hkb : kindsB ks
  · have HR : Hid (argF zs ks r = 1) := Lib.hid (e2.trans (if_pos (by rw [hkb]; rfl)))
    rw [hkb] at HK
    clear e1 e2 hkb
    generalize zs.length = n at *
    generalize ks.length = m at *
    go_enter Tryd.func40, Tryd.ntmps40
    go_wp2_with (go_at_call 57; refine (HK.out _ HY.out).mono ?_; rintro e w' ⟨rfl, rfl⟩)
    go_ret
    exact ⟨by rw [HR.out]; rfl, Below.refl _ _⟩
  rw [hkb] at HK
  cases hok : okAll zs
  · have HR : Hid (argF zs ks r = 1) := Lib.hid (e2.trans (if_pos (by rw [hkb, hok]; rfl)))
    rw [hok] at HW
    clear e1 e2 hkb hok
    generalize zs.length = n at *
    generalize ks.length = m at *
    go_enter Tryd.func40, Tryd.ntmps40
    go_wp2_with first | (go_at_call 57; refine (HK.out _ HY.out).mono ?_; rintro e w' ⟨rfl, rfl⟩) | (go_at_call 50; refine (HW.out _ HZ.out).mono ?_; rintro e w2 ⟨rfl, hb2⟩; have Hb2 := Lib.hid hb2; clear hb2)
    go_ret
    exact ⟨by rw [HR.out]; rfl, Hb2.out⟩
  rw [hok] at HW
  have e3 := e2.trans (if_neg (by rw [hkb, hok]; decide))
  by_cases h5 : r < 0 ∨ 6 < r
  · have HR : Hid (argF zs ks r = 4) := Lib.hid (e3.trans (if_pos h5))
    have HIN := Lib.hid (show fbIn r 0 6 = false from decide_eq_false (by omega))
    clear e1 e2 e3 hkb hok h5
    generalize zs.length = n at *
    generalize ks.length = m at *
    go_enter Tryd.func40, Tryd.ntmps40
    go_wp2_with first | (go_at_call 57; refine (HK.out _ HY.out).mono ?_; rintro e w' ⟨rfl, rfl⟩) | (go_at_call 50; refine (HW.out _ HZ.out).mono ?_; rintro e w2 ⟨rfl, hb2⟩; have Hb2 := Lib.hid hb2; clear hb2) | (go_at_call 44; refine (l01In_is HIN.out _).mono ?_; rintro e w' ⟨rfl, rfl⟩)
    go_ret
    exact ⟨by rw [HR.out]; rfl, Hb2.out⟩
  have HR : Hid (argF zs ks r = 0) := Lib.hid (e3.trans (if_neg h5))
  have HIN := Lib.hid (show fbIn r 0 6 = true from decide_eq_true (by omega))
  clear e1 e2 e3 hkb hok h5
  generalize zs.length = n at *
  generalize ks.length = m at *
  go_enter Tryd.func40, Tryd.ntmps40
  go_wp2_with first | (go_at_call 57; refine (HK.out _ HY.out).mono ?_; rintro e w' ⟨rfl, rfl⟩) | (go_at_call 50; refine (HW.out _ HZ.out).mono ?_; rintro e w2 ⟨rfl, hb2⟩; have Hb2 := Lib.hid hb2; clear hb2) | (go_at_call 44; refine (l01In_is HIN.out _).mono ?_; rintro e w' ⟨rfl, rfl⟩)
  go_ret
  exact ⟨by rw [HR.out]; rfl, Hb2.out⟩
theorem specVerifyCode_any (zs : List Ins) (a : Option Addr) (c : Nat) (ks : List Int) (k : Option Addr) (kc : Nat) (r : Int) (hm : zs.length ≤ maxLen) (hk : ks.length ≤ maxLen) (w : World) (hz : Lies w a (flat insC zs)) (hy : Lies w k (kC ks)) :
    Calls Tryd.prog 12 #[.slice a zs.length c, .slice k ks.length kc, .int .i64 r] w fun e w' => e = .returned (.tuple #[.int .i64 (codeV zs ks r).1, .int .i64 (codeV zs ks r).2]) ∧ Below w.heap.size w w' := by
  have HA := Lib.hid (l04Ask_any zs a c ks k kc r hm hk w hz hy)
  unfold maxLen at hm hk
  by_cases h1 : 4096 < ks.length ∨ 4096 < zs.length
  · have hF : argF zs ks r = 2 := if_pos h1
    have HR : Hid (codeV zs ks r = (0, 2)) := Lib.hid (by unfold codeV; rw [hF]; exact if_pos (by decide))
    clear HA hz hy hF
    by_cases h2 : 4096 < zs.length
    · clear h1
      generalize zs.length = n at *
      generalize ks.length = m at *
      go_enter Tryd.func12, Tryd.ntmps12
      go_wp2
      go_ret2
      exact ⟨ret_ii2 (by rw [HR.out]) (by rw [HR.out]), Below.refl _ _⟩
    · have h3 : 4096 < ks.length := by omega
      clear h1
      generalize zs.length = n at *
      generalize ks.length = m at *
      go_enter Tryd.func12, Tryd.ntmps12
      go_wp2
      go_ret2
      exact ⟨ret_ii2 (by rw [HR.out]) (by rw [HR.out]), Below.refl _ _⟩
  have hz1 : ¬ 4096 < zs.length := by omega
  have hk1 : ¬ 4096 < ks.length := by omega
  clear h1
  by_cases h0 : argF zs ks r = 0
  · obtain ⟨h40, hkb, hok, _, _⟩ := argF_ok h0
    have HR : Hid (codeV zs ks r = vVer zs ks r) := Lib.hid (if_neg (fun q => q h0))
    have HV : Hid (∀ w2, Below w.heap.size w w2 → Calls Tryd.prog 41 #[.slice a zs.length c, .slice k ks.length kc, .int .i64 r] w2 fun e w' => e = .returned (.tuple #[.int .i64 (vVer zs ks r).1, .int .i64 (vVer zs ks r).2]) ∧ Below w2.heap.size w2 w') :=
      Lib.hid (fun w2 hb => l04Verify_any k kc ks (kindsB_all hkb).1 (kindsB_all hkb).2 r zs a c h40 (fun j hj => okAll_at hok hj) w2 (hy.below hb (Nat.le_refl _)) (hz.below hb (Nat.le_refl _)))
    rw [h0] at HA
    clear h0 h40 hkb hok hz hy hm hk
    generalize vVer zs ks r = V at *
    obtain ⟨i, d⟩ := V
    dsimp only at HV
    generalize zs.length = n at *
    generalize ks.length = m at *
    go_enter Tryd.func12, Tryd.ntmps12
    go_wp2_with fail
    refine Calls.mono HA.out ?_
    rintro e w1 ⟨rfl, hb1⟩
    have Hb1 := Lib.hid hb1
    clear hb1
    go_wp2_with fail
    refine Calls.mono (HV.out _ Hb1.out) ?_
    rintro e w2 ⟨rfl, hb2⟩
    have Hb2 := Lib.hid (Hb1.out.trans (hb2.mono Hb1.out.size))
    clear hb2
    go_wp2
    go_ret2
    exact ⟨ret_ii2 (by rw [HR.out]) (by rw [HR.out]), Hb2.out⟩
  · have HR : Hid (codeV zs ks r = (0, argF zs ks r)) := Lib.hid (if_pos h0)
    have hq : (argF zs ks r != 0) = true := by rw [bne_iff_ne]; exact h0
    clear hz hy hm hk h0
    generalize argF zs ks r = d at *
    generalize zs.length = n at *
    generalize ks.length = m at *
    go_enter Tryd.func12, Tryd.ntmps12
    go_wp2_with fail
    refine Calls.mono HA.out ?_
    rintro e w1 ⟨rfl, hb1⟩
    have Hb1 := Lib.hid hb1
    clear hb1
    go_wp2
    go_ret2
    exact ⟨ret_ii2 (by rw [HR.out]) (by rw [HR.out]), Hb1.out⟩
/-- Copies of lists of integers. -/
def kI (z : Int) : List Value := [.int .i64 z]
theorem kI_len (z : Int) : (kI z).length = 1 := rfl
theorem kC_flat (ks : List Int) : flat kI ks = kC ks := by
  induction ks with
  | nil => rfl
  | cons a t ih => rw [flat_cons, ih]; rfl
theorem toIntS_any (ks : List Int) (a : Option Addr) (c : Nat) (hn : ks.length ≤ 1048576) (w : World) (hz : Lies w a (kC ks)) :
    Calls Tryd.prog 24 #[.slice a ks.length c] w fun e w' => e = .returned (.slice (some ⟨w.heap.size, 0, none⟩) ks.length ks.length) ∧ w'.ownsRow w.heap.size 3 1 (.slice (some ⟨w.heap.size, 0, none⟩) ks.length ks.length) ks.length (kC ks) ∧ Below w.heap.size w w' := by
  obtain ⟨i0, hi, hz0, hz1, hz2⟩ := info_parts (show (Tryd.prog.info? 3).map (fun i => (i.zero, i.size, i.bytes)) = some (some (.int .i64 0), 1, 8) by kernel_rfl)
  have HI := Lib.hid (And.intro hi (And.intro hz0 (And.intro hz1 hz2)))
  clear hi hz0 hz1 hz2
  have Hz := Lib.hid hz
  clear hz
  have HKF := Lib.hid (kC_flat ks)
  generalize hL : ks.length = n at *
  have HL := Lib.hid hL
  clear hL
  go_enter Tryd.func24, Tryd.ntmps24
  go_wp2_with (at_make; go_must (refine wpList_make_full _ rfl _ _ _ rfl w.heap.size 3 i0 _ 1 Tryd.underlying23 HI.out.1 HI.out.2.1 HI.out.2.2.1 .i64 .i64 _ _ n rfl rfl rfl rfl (by rw [HI.out.2.2.2]; omega) (by unfold maxLen; omega) (Nat.le_refl _) ?_); intro w1 hown1 hgrow1)
  have Ho1 := Lib.hid (Filled.zero (enc := kI) (zs := ks) hown1)
  have Hb1 := Lib.hid ((Below.refl w.heap.size w).grown hgrow1 (Nat.le_refl _) (by intro k hk; cases hk))
  clear hown1 hgrow1
  go_loopw [4] (fun i wr => ∃ k : Nat, k ≤ n ∧ i = .int .i64 k ∧ Hid (Filled kI 1 wr w.heap.size 3 w.heap.size n n ks k) ∧ Hid (Below w.heap.size w wr)) (fun i _ => n - (intOf i).toNat)
  case atStart => exact ⟨0, Nat.zero_le _, rfl, Ho1, Hb1⟩
  case round =>
    obtain ⟨k, hk, rfl, ho, hb⟩ := hrel
    by_cases hlt : k < n
    · obtain ⟨b, o, rfl, hbl, hcs⟩ := Hz.out.open (by rw [kC_len, HL.out]; omega)
      have c0 := kind_at hcs (i := k) (by rw [HL.out]; exact hlt)
      have d0 := (hb.out.cell (p := ⟨b, o + k, none⟩) hbl).trans c0
      have HX : Hid (ks[k]? = some (ks.getD k 0)) := Lib.hid (by simp [List.getD, HL.out, hlt])
      clear hcs c0
      generalize ks.getD k 0 = x at *
      obtain ⟨v0, e0⟩ := ho.out.there hlt 0 (by omega)
      have f0 := ho.out.free (k * 1)
      obtain ⟨hs, hg⟩ := ho.out.store kI_len HL.out HX.out
      rw [Nat.mul_one] at hs hg f0
      rw [Nat.mul_one, Nat.add_zero] at e0
      have Hs : Hid (Filled kI 1 (wr.setCell ⟨w.heap.size, k, none⟩ (.int .i64 x)) w.heap.size 3 w.heap.size n n ks (k + 1)) := Lib.hid hs
      have Hg : Hid (Below w.heap.size w (wr.setCell ⟨w.heap.size, k, none⟩ (.int .i64 x))) := Lib.hid (hb.out.setCell (p := ⟨w.heap.size, k, none⟩) (Nat.le_refl _) _)
      clear hs hg
      go_wp2
      go_roundw
      case rel => exact ⟨k + 1, by omega, by go_num, Hs, Hg⟩
      case measure => simp [intOf]; omega
    · obtain rfl : k = n := by omega
      go_wp2
      go_ret
      exact ⟨rfl, HKF.out ▸ ho.out.full HL.out, hb.out⟩
theorem eqIntS_same (ks : List Int) (a b : Option Addr) (c d : Nat) (hn : ks.length ≤ 1048576) (w : World) (hz : Lies w a (kC ks)) (hy : Lies w b (kC ks)) :
    Calls Tryd.prog 26 #[.slice a ks.length c, .slice b ks.length d] w fun e w' => e = .returned (.bool true) ∧ Below w.heap.size w w' := by
  have Hz := Lib.hid hz
  have Hy := Lib.hid hy
  clear hz hy
  generalize hL : ks.length = n at *
  have HL := Lib.hid hL
  clear hL
  have hs : ((n : Int) != n) = false := by simp
  go_enter Tryd.func26, Tryd.ntmps26
  go_wp2
  go_loopw [5] (fun i wr => ∃ k : Nat, k ≤ n ∧ i = .int .i64 k ∧ Hid (Below w.heap.size w wr)) (fun i _ => n - (intOf i).toNat)
  case atStart => exact ⟨0, Nat.zero_le _, rfl, Lib.hid (Below.refl _ _)⟩
  case round =>
    obtain ⟨k, hk, rfl, hb⟩ := hrel
    by_cases hlt : k < n
    · obtain ⟨b1, o1, rfl, hb1, hc1⟩ := Hz.out.open (by rw [kC_len, HL.out]; omega)
      obtain ⟨b2, o2, rfl, hb2, hc2⟩ := Hy.out.open (by rw [kC_len, HL.out]; omega)
      have d0 := (hb.out.cell (p := ⟨b1, o1 + k, none⟩) hb1).trans (kind_at hc1 (i := k) (by rw [HL.out]; exact hlt))
      have d1 := (hb.out.cell (p := ⟨b2, o2 + k, none⟩) hb2).trans (kind_at hc2 (i := k) (by rw [HL.out]; exact hlt))
      clear hc1 hc2
      generalize ks.getD k 0 = x at *
      have hxx : (x != x) = false := by simp
      go_wp2_with fail
      go_quiet (fail)
      go_wp2
      go_roundw
      case rel => exact ⟨k + 1, by omega, by go_num, Lib.hid (bel_dn hb.out _)⟩
      case measure => simp [intOf]; omega
    · obtain rfl : k = n := by omega
      go_wp2
      go_ret
      exact ⟨rfl, hb.out⟩
theorem cInt1 : Tryd.prog.cellsOf 3 = 1 := by kernel_rfl
theorem came_ks {W : World} {a : Option Addr} {n c : Nat} (h : Came Tryd.prog W 23 [.slice a n c]) : n ≤ maxLen ∧ n ≤ c ∧ ∃ ks : List Int, ks.length = n ∧ Lies W a (kC ks) := by
  obtain ⟨h1, h2, zs, h3, h4⟩ := lies_came kI kI_len (by decide) Tryd.underlying23 cInt1 (fun es g => by
    obtain ⟨z, e, _⟩ := came_int Tryd.underlying3 g
    exact ⟨z, e⟩) h
  exact ⟨h1, h2, zs, h3, kC_flat zs ▸ h4⟩
end Go.Proofs.YtbbhoaljldgjeaaDoor
