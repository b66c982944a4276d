/- StackAt of impl and of spec. -/
import Derived.Test.YtnehaidkhpjpbaaDoorVLaw
import Derived.Test.YtnehaidkhpjpbaaDoorWkTo
namespace Go.Proofs.YtnehaidkhpjpbaaDoor
open Go.ChangeShapes Go.WideShapes Go.ChangeAt Go.RowKit
set_option linter.unusedVariables false
/-- What StackAt answers. -/
def stackF (zs : List Ins) (ks : List Int) (r p : Int) : ByteArray × Int :=
  if (codeV zs ks r).2 ≠ 0 then (⟨#[]⟩, (codeV zs ks r).2) else if p < 0 ∨ (zs.length : Int) < p then (⟨#[]⟩, 4) else (bs (vStack zs ks r p.toNat), 0)
set_option maxRecDepth 100000 in
set_option maxHeartbeats 1000000 in
theorem stackAt_any (zs : List Ins) (a : Option Addr) (c : Nat) (ks : List Int) (k : Option Addr) (kc : Nat) (r p : Int) (hm : zs.length ≤ maxLen) (hc : zs.length ≤ c) (hk : ks.length ≤ maxLen) (w : World) (ht : VTabs w) (hz : Lies w a (flat insC zs)) (hy : Lies w k (kC ks)) :
    Calls Tryd.prog 24 #[.slice a zs.length c, .slice k ks.length kc, .int .i64 r, .int .i64 p] w fun e w' => e = .returned (.tuple #[.string (stackF zs ks r p).1, .int .i64 (stackF zs ks r p).2]) ∧ Below w.heap.size w w' := by
  have HV := Lib.hid (verifyCode_any zs a c ks k kc r hm hk w ht hz hy)
  by_cases h0 : (codeV zs ks r).2 = 0
  · obtain ⟨hA, hV⟩ := stk_ok h0
    obtain ⟨h40, hkb, hok, _, _⟩ := argF_ok hA
    rw [h0] at HV
    by_cases h1 : p < 0 ∨ (zs.length : Int) < p
    · have HR : Hid (stackF zs ks r p = (⟨#[]⟩, 4)) := Lib.hid (by unfold stackF; rw [if_neg (fun q => q h0), if_pos h1])
      clear ht hz hy hA hV hkb hok h0
      generalize (codeV zs ks r).1 = i at *
      unfold maxLen at hm hk
      generalize zs.length = n at *
      generalize ks.length = m at *
      by_cases h2 : p < 0
      · clear h1
        go_enter Tryd.func24, Tryd.ntmps24
        go_wp2_with fail
        refine Calls.mono HV.out ?_
        rintro e w1 ⟨rfl, hb1⟩
        have Hb1 := Lib.hid hb1
        clear hb1
        go_wp2
        go_ret2
        exact ⟨ret_sb (by rw [HR.out]) (by rw [HR.out]), Hb1.out⟩
      · have h3 : (n : Int) < p := by omega
        clear h1
        go_enter Tryd.func24, Tryd.ntmps24
        go_wp2_with fail
        refine Calls.mono HV.out ?_
        rintro e w1 ⟨rfl, hb1⟩
        have Hb1 := Lib.hid hb1
        clear hb1
        go_wp2
        go_ret2
        exact ⟨ret_sb (by rw [HR.out]) (by rw [HR.out]), Hb1.out⟩
    · obtain ⟨q, rfl⟩ : ∃ q : Nat, p = q := ⟨p.toNat, by omega⟩
      have hq : q ≤ zs.length := by omega
      have HR : Hid (stackF zs ks r q = (bs (vStack zs ks r q), 0)) := Lib.hid (by unfold stackF; rw [if_neg (fun q => q h0), if_neg h1]; rfl)
      have HP : Hid (∀ w1, Below w.heap.size w w1 → Calls Tryd.prog 66 #[.slice a zs.length c, .slice k ks.length kc, .int .i64 r, .int .i64 q] w1 fun e w' => ∃ (st : Option Addr) (n c1 : Nat) (op : Option Addr) (m c2 : Nat), e = .returned (.agg #[.slice k ks.length kc, .int .i64 r, .int .i64 q, .slice st n c1, .slice op m c2]) ∧ w'.ownsRow w1.heap.size 5 1 (.slice st n c1) n (u8s (vStack zs ks r q)) ∧ Below w1.heap.size w1 w') :=
        Lib.hid (fun w1 hb => (walkTo_any zs a c ks k kc r q h0 hq hc w1 (ht.below hb (Nat.le_refl _)) (hz.below hb (Nat.le_refl _)) (hy.below hb (Nat.le_refl _))).mono fun e w' ⟨st, n, c1, op, m, c2, e1, e2, e3, e4⟩ => ⟨st, n, c1, op, m, c2, e1, e2, e4⟩)
      clear ht hz hy hA hV hkb hok h0 h1
      generalize vStack zs ks r q = ST at *
      generalize (codeV zs ks r).1 = i at *
      unfold maxLen at hm hk
      generalize zs.length = n at *
      generalize ks.length = m at *
      have hqc : q ≤ c := by omega
      go_enter Tryd.func24, Tryd.ntmps24
      go_wp2_with fail
      refine Calls.mono HV.out ?_
      rintro e w1 ⟨rfl, hb1⟩
      have Hb1 := Lib.hid hb1
      clear hb1
      go_wp2_with fail
      refine Calls.mono (HP.out _ Hb1.out) ?_
      rintro e w2 ⟨st, n2, c1, op, m2, c2, rfl, ho, hb2⟩
      have hcv := own_str 99 9 5 Tryd.underlying99 Tryd.underlying5 Tryd.underlying9 ho
      have hfd : ∀ w : World, (Instr.field 102 (.agg #[.slice k m kc, .int .i64 r, .int .i64 q, .slice st n2 c1, .slice op m2 c2]) 3).run Tryd.prog w = .ok (.slice st n2 c1) w := fun _ => by kernel_rfl
      have Hb2 := Lib.hid (Hb1.out.trans (hb2.mono Hb1.out.size))
      clear hb2 ho
      go_wp2
      go_ret2
      exact ⟨ret_sb (by rw [HR.out]; rfl) (by rw [HR.out]), Hb2.out⟩
  · have HR : Hid (stackF zs ks r p = (⟨#[]⟩, (codeV zs ks r).2)) := Lib.hid (by unfold stackF; rw [if_pos h0])
    have hq : ((codeV zs ks r).2 != 0) = true := by rw [bne_iff_ne]; exact h0
    clear ht hz hy h0 hm hk
    generalize (codeV zs ks r).2 = d at *
    generalize (codeV zs ks r).1 = i at *
    generalize zs.length = n at *
    generalize ks.length = m at *
    go_enter Tryd.func24, Tryd.ntmps24
    go_wp2_with fail
    refine Calls.mono HV.out ?_
    rintro e w1 ⟨rfl, hb1⟩
    have Hb1 := Lib.hid hb1
    clear hb1
    go_wp2
    go_ret2
    exact ⟨ret_sb (by rw [HR.out]) (by rw [HR.out]), Hb1.out⟩
theorem vRun_ok_step {ks : List Int} {r : Int} {zs : List Ins} {j : Nat} (h : j < zs.length) {v : VW} (h0 : (vRun ks r (zs.drop j) j v).2.1 = 0) : (vStep ks r ((zs.getD j (0, 0)).1, (zs.getD j (0, 0)).2) j v).2 = 0 := by
  rw [vRun_step h] at h0
  split at h0
  · assumption
  · exact h0
set_option maxHeartbeats 1000000 in
theorem specStackAt_any (zs : List Ins) (a : Option Addr) (c : Nat) (ks : List Int) (k : Option Addr) (kc : Nat) (r p : Int) (hm : zs.length ≤ maxLen) (hk : ks.length ≤ maxLen) (w : World) (hz : Lies w a (flat insC zs)) (hy : Lies w k (kC ks)) :
    Calls Tryd.prog 23 #[.slice a zs.length c, .slice k ks.length kc, .int .i64 r, .int .i64 p] w fun e w' => e = .returned (.tuple #[.string (stackF zs ks r p).1, .int .i64 (stackF zs ks r p).2]) ∧ Below w.heap.size w w' := by
  have HA := Lib.hid (l04Ask_any zs a c ks k kc r hm hk w hz hy)
  unfold maxLen at hm hk
  by_cases h1 : 4096 < ks.length ∨ 4096 < zs.length
  · have hF : argF zs ks r = 2 := if_pos h1
    have hC : codeV zs ks r = (0, 2) := by unfold codeV; rw [hF]; exact if_pos (by decide)
    have HR : Hid (stackF zs ks r p = (⟨#[]⟩, 2)) := Lib.hid (by unfold stackF; rw [hC]; exact if_pos (by decide))
    clear HA hz hy hF hC
    by_cases h2 : 4096 < zs.length
    · clear h1
      generalize zs.length = n at *
      generalize ks.length = m at *
      go_enter Tryd.func23, Tryd.ntmps23
      go_wp2
      go_ret2
      exact ⟨ret_sb (by rw [HR.out]) (by rw [HR.out]), Below.refl _ _⟩
    · have h3 : 4096 < ks.length := by omega
      clear h1
      generalize zs.length = n at *
      generalize ks.length = m at *
      go_enter Tryd.func23, Tryd.ntmps23
      go_wp2
      go_ret2
      exact ⟨ret_sb (by rw [HR.out]) (by rw [HR.out]), Below.refl _ _⟩
  have hz1 : ¬ 4096 < zs.length := by omega
  have hk1 : ¬ 4096 < ks.length := by omega
  clear h1
  by_cases h0 : argF zs ks r = 0
  case neg =>
    have hC : codeV zs ks r = (0, argF zs ks r) := if_pos h0
    have HR : Hid (stackF zs ks r p = (⟨#[]⟩, argF zs ks r)) := Lib.hid (by unfold stackF; rw [hC]; exact if_pos h0)
    have hq : (argF zs ks r != 0) = true := by rw [bne_iff_ne]; exact h0
    clear hz hy hm hk h0 hC
    generalize argF zs ks r = d at *
    generalize zs.length = n at *
    generalize ks.length = m at *
    go_enter Tryd.func23, Tryd.ntmps23
    go_wp2_with fail
    refine Calls.mono HA.out ?_
    rintro e w1 ⟨rfl, hb1⟩
    have Hb1 := Lib.hid hb1
    clear hb1
    go_wp2
    go_ret2
    exact ⟨ret_sb (by rw [HR.out]) (by rw [HR.out]), Hb1.out⟩
  obtain ⟨h40, hkb, hok, _, _⟩ := argF_ok h0
  have hC : codeV zs ks r = vVer zs ks r := if_neg (fun q => q h0)
  have HV : Hid (∀ w2, Below w.heap.size w w2 → Calls Tryd.prog 51 #[.slice a zs.length c, .slice k ks.length kc, .int .i64 r] w2 fun e w' => e = .returned (.tuple #[.int .i64 (vVer zs ks r).1, .int .i64 (vVer zs ks r).2]) ∧ Below w2.heap.size w2 w') :=
    Lib.hid (fun w2 hb => l04Verify_any k kc ks (kindsB_all hkb).1 (kindsB_all hkb).2 r zs a c h40 (fun j hj => okAll_at hok hj) w2 (hy.below hb (Nat.le_refl _)) (hz.below hb (Nat.le_refl _)))
  rw [h0] at HA
  by_cases hv : (vVer zs ks r).2 = 0
  case neg =>
    have HR : Hid (stackF zs ks r p = (⟨#[]⟩, (vVer zs ks r).2)) := Lib.hid (by unfold stackF; rw [hC]; exact if_pos hv)
    have hq : ((vVer zs ks r).2 != 0) = true := by rw [bne_iff_ne]; exact hv
    clear hz hy hm hk h0 hC hv h40 hkb hok
    generalize vVer zs ks r = V at *
    obtain ⟨i, d⟩ := V
    dsimp only at HV hq HR
    generalize zs.length = n at *
    generalize ks.length = m at *
    go_enter Tryd.func23, Tryd.ntmps23
    go_wp2_with fail
    refine Calls.mono HA.out ?_
    rintro e w1 ⟨rfl, hb1⟩
    have Hb1 := Lib.hid hb1
    clear hb1
    go_wp2_with fail
    refine Calls.mono (HV.out _ Hb1.out) ?_
    rintro e w2 ⟨rfl, hb2⟩
    have Hb2 := Lib.hid (Hb1.out.trans (hb2.mono Hb1.out.size))
    clear hb2
    go_wp2
    go_ret2
    exact ⟨ret_sb (by rw [HR.out]) (by rw [HR.out]), Hb2.out⟩
  have hvv := vVer_ok hv
  rw [hv] at HV
  by_cases h1 : p < 0 ∨ (zs.length : Int) < p
  · have HR : Hid (stackF zs ks r p = (⟨#[]⟩, 4)) := Lib.hid (by unfold stackF; rw [hC, if_neg (fun q => q hv), if_pos h1])
    have HIN := Lib.hid (show fbIn p 0 zs.length = false from decide_eq_false (by omega))
    clear hz hy h0 hC hv hvv h40 hkb hok h1
    generalize (vVer zs ks r).1 = i at *
    generalize zs.length = n at *
    generalize ks.length = m at *
    go_enter Tryd.func23, Tryd.ntmps23
    go_wp2_with fail
    refine Calls.mono HA.out ?_
    rintro e w1 ⟨rfl, hb1⟩
    have Hb1 := Lib.hid hb1
    clear hb1
    go_wp2_with fail
    refine Calls.mono (HV.out _ Hb1.out) ?_
    rintro e w2 ⟨rfl, hb2⟩
    have Hb2 := Lib.hid (Hb1.out.trans (hb2.mono Hb1.out.size))
    clear hb2
    go_wp2_with (go_at_call 64; refine (l01In_is HIN.out _).mono ?_; rintro e w' ⟨rfl, rfl⟩)
    go_ret2
    exact ⟨ret_sb (by rw [HR.out]) (by rw [HR.out]), Hb2.out⟩
  obtain ⟨q, rfl⟩ : ∃ q : Nat, p = q := ⟨p.toNat, by omega⟩
  have hq : q ≤ zs.length := by omega
  have HR : Hid (stackF zs ks r q = (bs (vStack zs ks r q), 0)) := Lib.hid (by unfold stackF; rw [hC, if_neg (fun q => q hv), if_neg h1]; rfl)
  have HIN := Lib.hid (show fbIn (q : Int) 0 zs.length = true from decide_eq_true (by omega))
  have hpre := vRun_prefix hvv.1 q
  have hlt : (zs.take q).length = q := by rw [List.length_take]; omega
  obtain ⟨R, hRR⟩ : ∃ R, vRun ks r (zs.take q) 0 ⟨[], []⟩ = R := ⟨_, rfl⟩
  have HRR : Hid (vRun ks r ((zs.take q).drop 0) 0 ⟨[], []⟩ = R) := Lib.hid hRR
  rw [hRR] at hpre
  have HPRE := Lib.hid hpre
  have HST : Hid (vStack zs ks r q = R.1.stk) := Lib.hid (by unfold vStack; rw [hRR])
  have HLT := Lib.hid hlt
  have HZ := Lib.hid (lies_take hz q)
  have HY := Lib.hid hy
  have HKB := Lib.hid (kindsB_all hkb)
  have HO : Hid (∀ j, j < q → okB ((zs.take q).getD j (0, 0)).1 ((zs.take q).getD j (0, 0)).2 = true) := Lib.hid (fun j hj => by rw [getD_take hj]; exact okAll_at hok (by omega))
  clear hz hy h0 hC hv hvv h40 hkb hok h1 hpre hRR hlt
  generalize (vVer zs ks r).1 = i at *
  generalize zs.take q = ys at *
  generalize zs.length = n at *
  generalize hm2 : ks.length = m at *
  have HM2 := Lib.hid hm2
  clear hm2
  go_enter Tryd.func23, Tryd.ntmps23
  go_wp2_with fail
  refine Calls.mono HA.out ?_
  rintro e w1 ⟨rfl, hb1⟩
  have Hb1 := Lib.hid hb1
  clear hb1
  go_wp2_with fail
  refine Calls.mono (HV.out _ Hb1.out) ?_
  rintro e w2 ⟨rfl, hb2⟩
  have Hb2 := Lib.hid (Hb1.out.trans (hb2.mono Hb1.out.size))
  have hBs := Hb2.out.size
  have HS0 : Hid (SStat w.heap.size w2.heap.size ⟨[], []⟩ (w2.alloc (swO ⟨#[]⟩ none 0 0))) := Lib.hid ⟨none, 0, 0, hBs, heap_alloc_new w2 _, World.ownsRow_nil _ _ _ _⟩
  have HB0 := Lib.hid (Hb2.out.alloc hBs (swO ⟨#[]⟩ none 0 0))
  clear hb2
  go_wp2_with (go_at_call 64; refine (l01In_is HIN.out _).mono ?_; rintro e w' ⟨rfl, rfl⟩)
  go_loopw [14] (fun i wr => ∃ (j : Nat) (v : VW), j ≤ q ∧ i = .int .i64 j ∧ Hid (vRun ks r (ys.drop j) j v = R) ∧ Hid (SStat w.heap.size w2.heap.size v wr) ∧ Hid v.pre ∧ Hid (Below w.heap.size w wr)) (fun i _ => q - (intOf i).toNat)
  case atStart => exact ⟨0, ⟨[], []⟩, Nat.zero_le _, rfl, HRR, HS0, Lib.hid pre_start, HB0⟩
  case round =>
    obtain ⟨j, v, hj, rfl, hr, hs, hp, hb⟩ := hrel
    by_cases hlt : j < q
    · obtain ⟨b, o, rfl, hbl, hcs⟩ := HZ.out.open (by rw [flat_len insC_len, HLT.out]; omega)
      obtain ⟨c0, c1⟩ := ins_at hcs (i := j) (by rw [HLT.out]; exact hlt)
      have d0 := (hb.out.cell (p := ⟨b, o + j * 2, none⟩) hbl).trans c0
      have d1 := (hb.out.cell (p := ⟨b, o + j * 2 + 1, none⟩) hbl).trans c1
      have hx := HO.out j hlt
      have h0 := vRun_ok_step (ks := ks) (r := r) (zs := ys) (j := j) (by rw [HLT.out]; exact hlt) (v := v) (by rw [hr.out]; exact HPRE.out)
      have hv := vRun_step (ks := ks) (r := r) (zs := ys) (j := j) (by rw [HLT.out]; exact hlt) v
      rw [hr.out, if_pos h0] at hv
      clear hcs c0 c1 hr
      generalize (ys.getD j (0, 0)).1 = x at *
      generalize (ys.getD j (0, 0)).2 = y at *
      have hC := sstep_any (kc := kc) (r := r) (i := j) hs.out hp.out x y hx HKB.out.2 (by rw [HM2.out]; exact HKB.out.1) (HY.out.below hb.out (Nat.le_refl _))
      rw [HM2.out] at hC
      have HC := Lib.hid hC
      have HV1 := Lib.hid hv
      have HP := Lib.hid (pre_step hp.out h0)
      have H0 := Lib.hid h0
      clear hv h0 hx hs hp hC
      have hjn : j < n := by omega
      go_wp2_with fail
      refine Calls.mono HC.out ?_
      rintro e w3 ⟨hb3, rfl, hs3⟩
      have HB3 := Lib.hid (hb.out.trans hb3)
      have HS3 := Lib.hid (hs3 H0.out)
      clear hb3 hs3 d0 d1
      go_wp2
      go_roundw
      case rel => exact ⟨j + 1, (vStep ks r (x, y) j v).1, by omega, by go_num, Lib.hid HV1.out.symm, HS3, HP, HB3⟩
      case measure => simp [intOf]; omega
    · obtain rfl : j = q := by omega
      have hVV : R = (v, 0, j) := by rw [← hr.out, List.drop_eq_nil_of_le (by rw [HLT.out]; exact Nat.le_refl _)]; rfl
      obtain ⟨a', n', c', h⟩ := hs.out
      have c0 := h.cells.1
      have hst := HST.out
      rw [hVV] at hst
      have HSS := Lib.hid hst
      clear hr hVV h hst
      go_wp2
      go_ret2
      exact ⟨ret_sb (by rw [HR.out, HSS.out]) (by rw [HR.out]), hb.out⟩
end Go.Proofs.YtnehaidkhpjpbaaDoor
