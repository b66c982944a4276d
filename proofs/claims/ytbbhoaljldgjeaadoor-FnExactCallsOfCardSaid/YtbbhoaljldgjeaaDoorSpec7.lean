/- Code gone through by spec's verifier; VerifyCode of spec. -/
import Derived.Test.YtbbhoaljldgjeaaDoorSpec6
namespace Go.Proofs.YtbbhoaljldgjeaaDoor
open Go.ChangeShapes Go.WideShapes Go.ChangeAt Go.RowKit
set_option linter.unusedVariables false
theorem isE_yes : (bs []).toList.isEmpty = true := by rw [ByteArray.toList_eq, bs_list]; rfl
theorem isE_no {l : List UInt8} (h : l ≠ []) : (bs l).toList.isEmpty = false := by
  rw [ByteArray.toList_eq, bs_list]
  cases l with
  | nil => exact absurd rfl h
  | cons a t => rfl
set_option maxHeartbeats 1000000 in
theorem l04Verify_any (k : Option Addr) (kc : Nat) (ks : List Int) (h8 : ks.length ≤ 8) (hkv : ∀ z ∈ ks, kindB z = true) (r : Int) (zs : List Ins) (a : Option Addr) (c : Nat) (hn : zs.length ≤ 40) (hok : ∀ j, j < zs.length → okB (zs.getD j (0, 0)).1 (zs.getD j (0, 0)).2 = true)
    (w : World) (hk : Lies w k (kC ks)) (hz : Lies w a (flat insC zs)) :
    Calls Tryd.prog 41 #[.slice a zs.length c, .slice k ks.length kc, .int .i64 r] w fun e w' => e = .returned (.tuple #[.int .i64 (vVer zs ks r).1, .int .i64 (vVer zs ks r).2]) ∧ Below w.heap.size w w' := by
  have hb0 : Below w.heap.size w (w.alloc (swO ⟨#[]⟩ none 0 0)) := (Below.refl _ _).alloc (Nat.le_refl _) _
  have hs0 : SStat w.heap.size w.heap.size ⟨[], []⟩ (w.alloc (swO ⟨#[]⟩ none 0 0)) := ⟨none, 0, 0, Nat.le_refl _, heap_alloc_new w _, World.ownsRow_nil _ _ _ _⟩
  have HB0 := Lib.hid hb0
  have HS0 := Lib.hid hs0
  have HK := Lib.hid hk
  have HZ := Lib.hid hz
  have HKV := Lib.hid hkv
  have HO := Lib.hid hok
  have H8 := Lib.hid h8
  obtain ⟨R, hR⟩ : ∃ R, vRun ks r zs 0 ⟨[], []⟩ = R := ⟨_, rfl⟩
  have HR : Hid (vRun ks r (zs.drop 0) 0 ⟨[], []⟩ = R) := Lib.hid hR
  obtain ⟨V, hV⟩ : ∃ V, vVer zs ks r = V := ⟨_, rfl⟩
  have HV := Lib.hid hV
  have HE : Hid (R.2.1 = 0 → R.2.2 = zs.length) := Lib.hid (fun h => by rw [← hR] at h ⊢; rw [vRun_end zs 0 ⟨[], []⟩ h]; omega)
  have HVP : Hid (R.2.1 ≠ 0 → V = (((R.2.2 : Nat) : Int), R.2.1)) := Lib.hid (fun h => by rw [← hR] at h ⊢; rw [← hV]; exact vVer_pass h)
  have HVF : Hid (R.2.1 = 0 → V = finC R.1 zs.length) := Lib.hid (fun h => by rw [← hR] at h ⊢; rw [← hV]; exact vVer_fin h)
  rw [hV]
  clear hb0 hs0 hk hz hkv hok hR hV h8
  generalize hL : zs.length = n at *
  have HL := Lib.hid hL
  clear hL
  go_enter Tryd.func41, Tryd.ntmps41
  go_wp2
  go_loopw [9] (fun i wr => ∃ (j : Nat) (v : VW), j ≤ n ∧ i = .int .i64 j ∧ Hid (vRun ks r (zs.drop j) j v = R) ∧ Hid (SStat w.heap.size w.heap.size v wr) ∧ Hid v.pre ∧ Hid (Below w.heap.size w wr)) (fun i _ => n - (intOf i).toNat)
  case atStart => exact ⟨0, ⟨[], []⟩, Nat.zero_le _, rfl, HR, HS0, Lib.hid pre_start, HB0⟩
  case round =>
    obtain ⟨j, v, hj, rfl, hr, hs, hp, hb⟩ := hrel
    by_cases hlt : j < n
    · obtain ⟨b, o, rfl, hbl, hcs⟩ := HZ.out.open (by rw [flat_len insC_len, HL.out]; omega)
      obtain ⟨c0, c1⟩ := ins_at hcs (i := j) (by rw [HL.out]; exact hlt)
      have d0 := (hb.out.cell (p := ⟨b, o + j * 2, none⟩) hbl).trans c0
      have d1 := (hb.out.cell (p := ⟨b, o + j * 2 + 1, none⟩) hbl).trans c1
      have hx := HO.out j hlt
      have hv := vRun_step (ks := ks) (r := r) (zs := zs) (j := j) (by rw [HL.out]; exact hlt) v
      rw [hr.out] at hv
      clear hcs c0 c1 hr
      generalize (zs.getD j (0, 0)).1 = x at *
      generalize (zs.getD j (0, 0)).2 = y at *
      have HC := Lib.hid (sstep_any (kc := kc) (r := r) (i := j) hs.out hp.out x y hx HKV.out H8.out (HK.out.below hb.out (Nat.le_refl _)))
      by_cases h0 : (vStep ks r (x, y) j v).2 = 0
      · rw [if_pos h0] at hv
        have HV1 := Lib.hid hv
        have HP := Lib.hid (pre_step hp.out h0)
        have H0 := Lib.hid h0
        clear hv h0 hx hs hp
        go_wp2_with fail
        refine Calls.mono HC.out ?_
        rintro e w2 ⟨hb2, rfl, hs2⟩
        have HB2 := Lib.hid (hb.out.trans hb2)
        have HS2 := Lib.hid (hs2 H0.out)
        have h0 := H0.out
        clear hb2 hs2 d0 d1
        go_wp2
        go_roundw
        case rel => exact ⟨j + 1, (vStep ks r (x, y) j v).1, by omega, by go_num, Lib.hid HV1.out.symm, HS2, HP, HB2⟩
        case measure => simp [intOf]; omega
      · rw [if_neg h0] at hv
        have HV1 := Lib.hid hv
        have hq : ((vStep ks r (x, y) j v).2 != 0) = true := by rw [bne_iff_ne]; exact h0
        have H0 := Lib.hid h0
        clear hv h0 hx hs hp
        go_wp2_with fail
        refine Calls.mono HC.out ?_
        rintro e w2 ⟨hb2, rfl, hs2⟩
        have HB2 := Lib.hid (hb.out.trans hb2)
        clear hb2 hs2 d0 d1
        go_wp2
        go_ret2
        have e1 := HVP.out (by rw [HV1.out]; exact H0.out)
        rw [HV1.out] at e1
        exact ⟨ret_ii2 (by rw [e1]) (by rw [e1]), HB2.out⟩
    · obtain rfl : j = n := by omega
      have hVV : R = (v, 0, j) := by rw [← hr.out, List.drop_eq_nil_of_le (by rw [HL.out]; exact Nat.le_refl _)]; rfl
      have hfin := HVF.out (by rw [hVV])
      rw [hVV] at hfin
      obtain ⟨a', n', c', h⟩ := hs.out
      have HFIN := Lib.hid hfin
      obtain ⟨st, opn⟩ := v
      have c0 := h.cells.1
      have c1 := h.cells.2
      have ho := h.olen
      rcases opn_cases opn with rfl | ⟨os, oo, rfl⟩
      · simp at ho
        subst ho
        by_cases hst : st = []
        · subst hst
          have e1 : Hid (V = (0, 0)) := Lib.hid (by rw [HFIN.out]; unfold finC; simp)
          have c0' : wr.cell? ⟨w.heap.size, 0, none⟩ = some (.string ⟨#[]⟩) := c0
          clear hr hVV hfin h c0
          go_wp2
          go_ret2
          exact ⟨ret_ii2 (by rw [e1.out]) (by rw [e1.out]), hb.out⟩
        · have e1 : Hid (V = ((j : Int), 13)) := Lib.hid (by rw [HFIN.out]; unfold finC; simp [hst])
          have q1 := isE_no hst
          have q2 : (!(bs st).toList.isEmpty) = true := by rw [q1]; rfl
          clear hr hVV hfin h hst
          generalize bs st = Sb at *
          go_wp2
          go_ret2
          exact ⟨ret_ii2 (by rw [e1.out]) (by rw [e1.out]), hb.out⟩
      · have e1 : Hid (V = (oo.pos, 14)) := Lib.hid (by rw [HFIN.out]; unfold finC; simp)
        obtain ⟨g, m, rfl, rfl, hm, hc⟩ := h.row
        have k0 := h.last.1
        have h4 := hp.out.o4
        simp at h4 hm
        have hm4 : m + 1 ≤ 4 := by omega
        have hgt : decide ((m : Int) + 1 > 0) = true := decide_eq_true (by omega)
        clear hr hVV hfin h h4 hm ho
        go_wp2
        go_quiet (fail)
        go_wp2
        go_ret2
        exact ⟨ret_ii2 (by rw [e1.out]) (by rw [e1.out]), bel_dn hb.out _⟩
end Go.Proofs.YtbbhoaljldgjeaaDoor
