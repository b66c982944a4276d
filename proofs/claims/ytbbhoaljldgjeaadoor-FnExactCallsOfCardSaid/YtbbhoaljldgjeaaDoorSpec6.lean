/- A whole step of spec's verifier. -/
import Derived.Test.YtbbhoaljldgjeaaDoorSpec5
namespace Go.Proofs.YtbbhoaljldgjeaaDoor
open Go.ChangeShapes Go.WideShapes Go.ChangeAt Go.RowKit
set_option linter.unusedVariables false
theorem l01In_is {n a b : Int} {q : Bool} (h : fbIn n a b = q) (w : World) : Calls Tryd.prog 44 #[.int .i64 n, .int .i64 a, .int .i64 b] w fun e w' => e = .returned (.bool q) ∧ w = w' := h ▸ fbIn_any n a b w
theorem bs_cat (l : List UInt8) (T : ByteArray) : bs l ++ T = bs (l ++ T.data.toList) := by
  apply bytes_inj
  simp [bs]
theorem sEnd_no {B p : Nat} {S : VW × Int} {v : VW} {c : Int} {w w' : World} (hS : S = (v, c)) (hc : c ≠ 0) (hb : Below B w w') : SEnd B p S w (.returned (.int .i64 c)) w' := by
  subst hS
  exact ⟨hb, rfl, fun q => absurd q hc⟩
theorem cell_set_ne {w : World} {a b : Addr} (u : Value) (h : b.block ≠ a.block) : (w.setCell a u).cell? b = w.cell? b := World.cell?_of_block (heap_setCell_other w a b.block u h)
theorem SStat.plt {B p : Nat} {v : VW} {w : World} (h : SStat B p v w) : p < w.heap.size := by
  obtain ⟨a, n, c, h⟩ := h
  exact h.plt
theorem floor_le {v : VW} (hp : v.pre) : v.floor ≤ v.stk.length := by
  obtain ⟨st, opn⟩ := v
  rcases opn_cases opn with rfl | ⟨os, o, rfl⟩
  · exact Nat.zero_le _
  · rw [floor_snoc]
    exact (hp.pfx o (by simp)).length_le
theorem vTake_len (st tk : List UInt8) (f : Nat) : (vTake st tk f).1.length ≤ st.length := by
  unfold vTake
  split
  · exact Nat.zero_le _
  · split
    · simp only [List.length_take]; omega
    · exact Nat.zero_le _
set_option maxHeartbeats 2000000 in
theorem sstep_any {B p : Nat} {k : Option Addr} {kc : Nat} {ks : List Int} {r i : Int} {v : VW} {w : World} (h : SStat B p v w) (hp : v.pre) (x y : Int) (hx : okB x y = true) (hkv : ∀ z ∈ ks, kindB z = true) (h8 : ks.length ≤ 8) (hk : Lies w k (kC ks)) :
    Calls Tryd.prog 45 #[.pointer (some ⟨p, 0, none⟩), .agg #[.int .i64 x, .int .i64 y], .int .i64 i, .slice k ks.length kc, .int .i64 r] w (SEnd B p (vStep ks r (x, y) i v) w) := by
  have hlow := h.low
  have hplt := h.plt
  have HS := Lib.hid (vStep_eq ks r (x, y) i v)
  obtain ⟨S, hS⟩ : ∃ S, vStep ks r (x, y) i v = S := ⟨_, rfl⟩
  rw [hS] at HS ⊢
  have ha := (Below.refl w.heap.size w).alloc (Nat.le_refl _) (.cells #[.int .i64 x, .int .i64 y] 38)
  have HA := Lib.hid ha
  have HAB := Lib.hid (ha.mono hlow)
  by_cases h1 : (x = 19 ∨ x = 20) ∧ (ks.length : Int) ≤ y
  · have hf : vFind ks r (x, y) = 5 := if_pos h1
    have HR := Lib.hid (HS.out.trans (if_pos (by rw [hf]; decide)))
    rw [hf] at HR
    obtain ⟨hx1, hy1⟩ := h1
    clear h hp hx hkv hk hS ha hf HS hlow
    generalize ks.length = n at *
    rcases hx1 with rfl | rfl
    all_goals
      go_enter Tryd.func45, Tryd.ntmps45
      go_wp2
      go_ret
      exact sEnd_no HR.out (by decide) HAB.out
  by_cases h2 : x = 26 ∧ r ≤ y
  · have hf : vFind ks r (x, y) = 15 := (if_neg h1).trans (if_pos h2)
    have HR := Lib.hid (HS.out.trans (if_pos (by rw [hf]; decide)))
    rw [hf] at HR
    obtain ⟨rfl, hy1⟩ := h2
    clear h hp hx hkv hk hS ha hf HS hlow h1
    generalize ks.length = n at *
    go_enter Tryd.func45, Tryd.ntmps45
    go_wp2
    go_ret
    exact sEnd_no HR.out (by decide) HAB.out
  have hf : vFind ks r (x, y) = 0 := (if_neg h1).trans (if_neg h2)
  have HS2 := Lib.hid (HS.out.trans (if_neg (by rw [hf]; decide)))
  have HG := Lib.hid (fun (w : World) (hk : Lies w k (kC ks)) => l04Sign_any (kc := kc) hx hf hkv w hk)
  have H1 := Lib.hid (h.bel ha)
  have HK1 := Lib.hid (hk.below ha (Nat.le_refl _))
  have HP := Lib.hid hp
  have HX1 := Lib.hid (box_new w (.cells #[.int .i64 x, .int .i64 y] 38))
  have HSL := Lib.hid (sign_len ks (x, y))
  clear hx hkv hk ha hf HS hlow hS hp h
  by_cases h3 : x = 19 ∨ x = 20
  · have hy : y < ks.length := by omega
    have HIN := Lib.hid (show fbIn x 21 24 = false from decide_eq_false (by omega))
    have HNO : Hid (∀ v, NestOut (x, y) i v = (v, 0)) := Lib.hid (fun v => if_neg (by simp only; omega))
    clear h1 h2
    generalize hLk : ks.length = n at *
    clear hLk
    rcases h3 with rfl | rfl
    all_goals
      go_enter Tryd.func45, Tryd.ntmps45
      go_wp2_with fail
      refine Calls.mono (HG.out _ HK1.out) ?_
      rintro e w1 ⟨hb1, T, G, rfl, hT, hG⟩
      have H2 := Lib.hid (H1.out.bel hb1)
      have Hb1 := Lib.hid (HAB.out.trans (hb1.mono H1.out.low))
      have hx1 := below_at HX1.out hb1
      have d0 := cell_of_row w1 w.heap.size 0 _ _ _ hx1
      have d1 := cell_of_row w1 w.heap.size 1 _ _ _ hx1
      have k0 : ∀ q u, ((w1.drewN q).setCell ⟨p, 0, none⟩ u).cell? ⟨w.heap.size, 0, none⟩ = some (.int .i64 _) := fun q u => (cell_set_ne u (by simp only; omega)).trans d0
      have k1 : ∀ q u, ((w1.drewN q).setCell ⟨p, 0, none⟩ u).cell? ⟨w.heap.size, 1, none⟩ = some (.int .i64 y) := fun q u => (cell_set_ne u (by simp only; omega)).trans d1
      have hTl : T.size ≤ 3 := by have := HSL.out.1; rw [← hT] at this; exact this
      have hGl : G.size ≤ 3 := by have := HSL.out.2; rw [← hG] at this; exact Nat.le_trans this (by decide)
      rw [← hT, ← hG] at HS2
      clear hb1 hx1 hT hG H1 HG HK1 HX1 HSL HA HAB
      obtain ⟨a, n', c, hs⟩ := H2.out
      have c0 := hs.cells.1
      have f0 := hs.frozen 0
      have HF := Lib.hid (fun q => sfloor_any (H2.out.dn q) HP.out)
      have hst8 := HP.out.s8
      have hfl := floor_le HP.out
      have HTk := Lib.hid (fun w => l04Take_any v.stk T v.floor (by omega) (by omega) hfl w)
      have HST := Lib.hid hs
      have htl := vTake_len v.stk T.data.toList v.floor
      have HPR := Lib.hid (fun h0 h8 => pre_taken HP.out (tk := T.data.toList) (pt := G.data.toList) h0 h8)
      clear hs hTl
      generalize hV : vTake v.stk T.data.toList v.floor = V at *
      clear hV
      obtain ⟨st, d⟩ := V
      dsimp only at HTk HS2 htl HPR
      have hsz := bs_size st
      have hgs : G.data.toList.length = G.size := rfl
      have hst : st.length ≤ 8 := by omega
      generalize v.floor = fl at *
      clear hst8 htl hfl
      go_wp2_with fail
      go_quiet ((first | (go_at_call 73; exact Calls.quiet_of (HF.out _)) | (go_at_call 72; exact Calls.quiet_of_same ((HTk.out _).mono fun _ _ ⟨a, b⟩ => ⟨a, b.symm⟩))))
      by_cases hd : d = 0
      · subst hd
        have HS3 := Lib.hid (HS2.out.trans (if_neg (by simp)))
        by_cases h9 : 8 < st.length + G.size
        · have HR := Lib.hid (HS3.out.trans (if_pos (by rw [hgs]; exact h9)))
          clear hgs
          go_wp2
          go_ret
          exact sEnd_no HR.out (by decide) (bel_dn Hb1.out _)
        · have HR := Lib.hid (HS3.out.trans (if_neg (by rw [hgs]; exact h9)))
          have HPS := Lib.hid (HPR.out rfl (by rw [hgs]; omega))
          have hpl := HST.out.plt
          have HCT := Lib.hid (bs_cat st G)
          have hov : ¬ 9223372036854775807 < st.length + G.size := by omega
          clear hgs HS3 HPR
          generalize bs st = Sb at *
          go_wp2_with (go_at_call 44; refine (l01In_is HIN.out _).mono ?_; rintro e w' ⟨rfl, rfl⟩)
          go_ret
          have h2 := HST.out.stacked (st ++ G.data.toList) nq
          rw [← HCT.out] at h2
          exact ⟨(bel_dn Hb1.out 0).trans h2.2, by rw [HR.out, HNO.out]; rfl, fun _ => by rw [HR.out, HNO.out]; exact ⟨_, _, _, h2.1⟩⟩
      · have hdd : (d != 0) = true := by rw [bne_iff_ne]; exact hd
        clear hgs
        go_wp2
        go_ret
        exact sEnd_no (HS2.out.trans (if_pos hd)) hd (bel_dn Hb1.out _)
  by_cases h4 : x = 26
  · subst h4
    have hy : y < r := by omega
    have HIN := Lib.hid (show fbIn 26 21 24 = false from decide_eq_false (by omega))
    have HNO : Hid (∀ v, NestOut (26, y) i v = (v, 0)) := Lib.hid (fun v => if_neg (by simp only; omega))
    clear h1 h2 h3
    generalize hLk : ks.length = n at *
    clear hLk
    go_enter Tryd.func45, Tryd.ntmps45
    go_wp2_with fail
    refine Calls.mono (HG.out _ HK1.out) ?_
    rintro e w1 ⟨hb1, T, G, rfl, hT, hG⟩
    have H2 := Lib.hid (H1.out.bel hb1)
    have Hb1 := Lib.hid (HAB.out.trans (hb1.mono H1.out.low))
    have hx1 := below_at HX1.out hb1
    have d0 := cell_of_row w1 w.heap.size 0 _ _ _ hx1
    have d1 := cell_of_row w1 w.heap.size 1 _ _ _ hx1
    have k0 : ∀ q u, ((w1.drewN q).setCell ⟨p, 0, none⟩ u).cell? ⟨w.heap.size, 0, none⟩ = some (.int .i64 26) := fun q u => (cell_set_ne u (by simp only; omega)).trans d0
    have k1 : ∀ q u, ((w1.drewN q).setCell ⟨p, 0, none⟩ u).cell? ⟨w.heap.size, 1, none⟩ = some (.int .i64 y) := fun q u => (cell_set_ne u (by simp only; omega)).trans d1
    have hTl : T.size ≤ 3 := by have := HSL.out.1; rw [← hT] at this; exact this
    have hGl : G.size ≤ 3 := by have := HSL.out.2; rw [← hG] at this; exact Nat.le_trans this (by decide)
    rw [← hT, ← hG] at HS2
    clear hb1 hx1 hT hG H1 HG HK1 HX1 HSL HA HAB
    obtain ⟨a, n', c, hs⟩ := H2.out
    have c0 := hs.cells.1
    have f0 := hs.frozen 0
    have HF := Lib.hid (fun q => sfloor_any (H2.out.dn q) HP.out)
    have hst8 := HP.out.s8
    have hfl := floor_le HP.out
    have HTk := Lib.hid (fun w => l04Take_any v.stk T v.floor (by omega) (by omega) hfl w)
    have HST := Lib.hid hs
    have htl := vTake_len v.stk T.data.toList v.floor
    have HPR := Lib.hid (fun h0 h8 => pre_taken HP.out (tk := T.data.toList) (pt := G.data.toList) h0 h8)
    clear hs hTl
    generalize hV : vTake v.stk T.data.toList v.floor = V at *
    clear hV
    obtain ⟨st, d⟩ := V
    dsimp only at HTk HS2 htl HPR
    have hsz := bs_size st
    have hgs : G.data.toList.length = G.size := rfl
    have hst : st.length ≤ 8 := by omega
    generalize v.floor = fl at *
    clear hst8 htl hfl
    go_wp2_with fail
    go_quiet ((first | (go_at_call 73; exact Calls.quiet_of (HF.out _)) | (go_at_call 72; exact Calls.quiet_of_same ((HTk.out _).mono fun _ _ ⟨a, b⟩ => ⟨a, b.symm⟩))))
    by_cases hd : d = 0
    · subst hd
      have HS3 := Lib.hid (HS2.out.trans (if_neg (by simp)))
      by_cases h9 : 8 < st.length + G.size
      · have HR := Lib.hid (HS3.out.trans (if_pos (by rw [hgs]; exact h9)))
        clear hgs
        go_wp2
        go_ret
        exact sEnd_no HR.out (by decide) (bel_dn Hb1.out _)
      · have HR := Lib.hid (HS3.out.trans (if_neg (by rw [hgs]; exact h9)))
        have HPS := Lib.hid (HPR.out rfl (by rw [hgs]; omega))
        have hpl := HST.out.plt
        have HCT := Lib.hid (bs_cat st G)
        have hov : ¬ 9223372036854775807 < st.length + G.size := by omega
        clear hgs HS3 HPR
        generalize bs st = Sb at *
        go_wp2_with (go_at_call 44; refine (l01In_is HIN.out _).mono ?_; rintro e w' ⟨rfl, rfl⟩)
        go_ret
        have h2 := HST.out.stacked (st ++ G.data.toList) nq
        rw [← HCT.out] at h2
        exact ⟨(bel_dn Hb1.out 0).trans h2.2, by rw [HR.out, HNO.out]; rfl, fun _ => by rw [HR.out, HNO.out]; exact ⟨_, _, _, h2.1⟩⟩
    · have hdd : (d != 0) = true := by rw [bne_iff_ne]; exact hd
      clear hgs
      go_wp2
      go_ret
      exact sEnd_no (HS2.out.trans (if_pos hd)) hd (bel_dn Hb1.out _)
  have b19 : (x == 19) = false := by rw [beq_eq_false_iff_ne]; omega
  have b20 : (x == 20) = false := by rw [beq_eq_false_iff_ne]; omega
  have b26 : (x == 26) = false := by rw [beq_eq_false_iff_ne]; omega
  by_cases h5 : 21 ≤ x ∧ x ≤ 24
  · have HIN := Lib.hid (show fbIn x 21 24 = true from decide_eq_true h5)
    have HNO : Hid (∀ v, NestOut (x, y) i v = vNest (x, y) i v) := Lib.hid (fun v => if_pos h5)
    have HH5 := Lib.hid h5
    clear h1 h2 h3 h4 h5
    generalize hLk : ks.length = n at *
    clear hLk
    go_enter Tryd.func45, Tryd.ntmps45
    go_wp2_with fail
    refine Calls.mono (HG.out _ HK1.out) ?_
    rintro e w1 ⟨hb1, T, G, rfl, hT, hG⟩
    have H2 := Lib.hid (H1.out.bel hb1)
    have Hb1 := Lib.hid (HAB.out.trans (hb1.mono H1.out.low))
    have hx1 := below_at HX1.out hb1
    have d0 := cell_of_row w1 w.heap.size 0 _ _ _ hx1
    have d1 := cell_of_row w1 w.heap.size 1 _ _ _ hx1
    have k0 : ∀ q u, ((w1.drewN q).setCell ⟨p, 0, none⟩ u).cell? ⟨w.heap.size, 0, none⟩ = some (.int .i64 x) := fun q u => (cell_set_ne u (by simp only; omega)).trans d0
    have k1 : ∀ q u, ((w1.drewN q).setCell ⟨p, 0, none⟩ u).cell? ⟨w.heap.size, 1, none⟩ = some (.int .i64 y) := fun q u => (cell_set_ne u (by simp only; omega)).trans d1
    have hTl : T.size ≤ 3 := by have := HSL.out.1; rw [← hT] at this; exact this
    have hGl : G.size ≤ 3 := by have := HSL.out.2; rw [← hG] at this; exact Nat.le_trans this (by decide)
    rw [← hT, ← hG] at HS2
    clear hb1 hx1 hT hG H1 HG HK1 HX1 HSL HA HAB
    obtain ⟨a, n', c, hs⟩ := H2.out
    have c0 := hs.cells.1
    have f0 := hs.frozen 0
    have HF := Lib.hid (fun q => sfloor_any (H2.out.dn q) HP.out)
    have hst8 := HP.out.s8
    have hfl := floor_le HP.out
    have HTk := Lib.hid (fun w => l04Take_any v.stk T v.floor (by omega) (by omega) hfl w)
    have HST := Lib.hid hs
    have htl := vTake_len v.stk T.data.toList v.floor
    have HPR := Lib.hid (fun h0 h8 => pre_taken HP.out (tk := T.data.toList) (pt := G.data.toList) h0 h8)
    clear hs hTl
    generalize hV : vTake v.stk T.data.toList v.floor = V at *
    clear hV
    obtain ⟨st, d⟩ := V
    dsimp only at HTk HS2 htl HPR
    have hsz := bs_size st
    have hgs : G.data.toList.length = G.size := rfl
    have hst : st.length ≤ 8 := by omega
    generalize v.floor = fl at *
    clear hst8 htl hfl
    go_wp2_with fail
    go_quiet ((first | (go_at_call 73; exact Calls.quiet_of (HF.out _)) | (go_at_call 72; exact Calls.quiet_of_same ((HTk.out _).mono fun _ _ ⟨a, b⟩ => ⟨a, b.symm⟩))))
    by_cases hd : d = 0
    · subst hd
      have HS3 := Lib.hid (HS2.out.trans (if_neg (by simp)))
      by_cases h9 : 8 < st.length + G.size
      · have HR := Lib.hid (HS3.out.trans (if_pos (by rw [hgs]; exact h9)))
        clear hgs
        go_wp2
        go_ret
        exact sEnd_no HR.out (by decide) (bel_dn Hb1.out _)
      · have HR := Lib.hid (HS3.out.trans (if_neg (by rw [hgs]; exact h9)))
        have HPS := Lib.hid (HPR.out rfl (by rw [hgs]; omega))
        have hpl := HST.out.plt
        have HCT := Lib.hid (bs_cat st G)
        have hov : ¬ 9223372036854775807 < st.length + G.size := by omega
        clear hgs HS3 HPR
        generalize bs st = Sb at *
        have HQ := Lib.hid (fun q => HST.out.stacked (st ++ G.data.toList) q)
        rw [← HCT.out] at HQ
        have HNS : Hid (∀ q, SNest x y p i ((w1.drewN q).setCell ⟨p, 0, none⟩ (.string (Sb ++ G))) (SEnd B p S ((w1.drewN q).setCell ⟨p, 0, none⟩ (.string (Sb ++ G))))) := Lib.hid (fun q => by
          have hh := snest_any (p := p) (B := B) ⟨_, _, _, (HQ.out q).1⟩ HPS.out x y i HH5.out
          rw [← HNO.out, ← HR.out] at hh
          exact hh)
        go_wp2_with (go_at_call 44; refine (l01In_is HIN.out _).mono ?_; rintro e w' ⟨rfl, rfl⟩)
        refine Calls.mono (HNS.out nq) ?_
        rintro e w5 ⟨hb5, rfl, h5⟩
        have HB5 := Lib.hid ((Hb1.out.trans (HQ.out nq).2).trans hb5)
        have HE5 := Lib.hid h5
        clear hb5 h5
        go_wp2
        go_ret
        exact ⟨HB5.out, rfl, HE5.out⟩
    · have hdd : (d != 0) = true := by rw [bne_iff_ne]; exact hd
      clear hgs
      go_wp2
      go_ret
      exact sEnd_no (HS2.out.trans (if_pos hd)) hd (bel_dn Hb1.out _)
  · have HIN := Lib.hid (show fbIn x 21 24 = false from decide_eq_false (by omega))
    have HNO : Hid (∀ v, NestOut (x, y) i v = (v, 0)) := Lib.hid (fun v => if_neg (by simp only; omega))
    clear h1 h2 h3 h4 h5
    generalize hLk : ks.length = n at *
    clear hLk
    go_enter Tryd.func45, Tryd.ntmps45
    go_wp2_with fail
    refine Calls.mono (HG.out _ HK1.out) ?_
    rintro e w1 ⟨hb1, T, G, rfl, hT, hG⟩
    have H2 := Lib.hid (H1.out.bel hb1)
    have Hb1 := Lib.hid (HAB.out.trans (hb1.mono H1.out.low))
    have hx1 := below_at HX1.out hb1
    have d0 := cell_of_row w1 w.heap.size 0 _ _ _ hx1
    have d1 := cell_of_row w1 w.heap.size 1 _ _ _ hx1
    have k0 : ∀ q u, ((w1.drewN q).setCell ⟨p, 0, none⟩ u).cell? ⟨w.heap.size, 0, none⟩ = some (.int .i64 x) := fun q u => (cell_set_ne u (by simp only; omega)).trans d0
    have k1 : ∀ q u, ((w1.drewN q).setCell ⟨p, 0, none⟩ u).cell? ⟨w.heap.size, 1, none⟩ = some (.int .i64 y) := fun q u => (cell_set_ne u (by simp only; omega)).trans d1
    have hTl : T.size ≤ 3 := by have := HSL.out.1; rw [← hT] at this; exact this
    have hGl : G.size ≤ 3 := by have := HSL.out.2; rw [← hG] at this; exact Nat.le_trans this (by decide)
    rw [← hT, ← hG] at HS2
    clear hb1 hx1 hT hG H1 HG HK1 HX1 HSL HA HAB
    obtain ⟨a, n', c, hs⟩ := H2.out
    have c0 := hs.cells.1
    have f0 := hs.frozen 0
    have HF := Lib.hid (fun q => sfloor_any (H2.out.dn q) HP.out)
    have hst8 := HP.out.s8
    have hfl := floor_le HP.out
    have HTk := Lib.hid (fun w => l04Take_any v.stk T v.floor (by omega) (by omega) hfl w)
    have HST := Lib.hid hs
    have htl := vTake_len v.stk T.data.toList v.floor
    have HPR := Lib.hid (fun h0 h8 => pre_taken HP.out (tk := T.data.toList) (pt := G.data.toList) h0 h8)
    clear hs hTl
    generalize hV : vTake v.stk T.data.toList v.floor = V at *
    clear hV
    obtain ⟨st, d⟩ := V
    dsimp only at HTk HS2 htl HPR
    have hsz := bs_size st
    have hgs : G.data.toList.length = G.size := rfl
    have hst : st.length ≤ 8 := by omega
    generalize v.floor = fl at *
    clear hst8 htl hfl
    go_wp2_with fail
    go_quiet ((first | (go_at_call 73; exact Calls.quiet_of (HF.out _)) | (go_at_call 72; exact Calls.quiet_of_same ((HTk.out _).mono fun _ _ ⟨a, b⟩ => ⟨a, b.symm⟩))))
    by_cases hd : d = 0
    · subst hd
      have HS3 := Lib.hid (HS2.out.trans (if_neg (by simp)))
      by_cases h9 : 8 < st.length + G.size
      · have HR := Lib.hid (HS3.out.trans (if_pos (by rw [hgs]; exact h9)))
        clear hgs
        go_wp2
        go_ret
        exact sEnd_no HR.out (by decide) (bel_dn Hb1.out _)
      · have HR := Lib.hid (HS3.out.trans (if_neg (by rw [hgs]; exact h9)))
        have HPS := Lib.hid (HPR.out rfl (by rw [hgs]; omega))
        have hpl := HST.out.plt
        have HCT := Lib.hid (bs_cat st G)
        have hov : ¬ 9223372036854775807 < st.length + G.size := by omega
        clear hgs HS3 HPR
        generalize bs st = Sb at *
        go_wp2_with (go_at_call 44; refine (l01In_is HIN.out _).mono ?_; rintro e w' ⟨rfl, rfl⟩)
        go_ret
        have h2 := HST.out.stacked (st ++ G.data.toList) nq
        rw [← HCT.out] at h2
        exact ⟨(bel_dn Hb1.out 0).trans h2.2, by rw [HR.out, HNO.out]; rfl, fun _ => by rw [HR.out, HNO.out]; exact ⟨_, _, _, h2.1⟩⟩
    · have hdd : (d != 0) = true := by rw [bne_iff_ne]; exact hd
      clear hgs
      go_wp2
      go_ret
      exact sEnd_no (HS2.out.trans (if_pos hd)) hd (bel_dn Hb1.out _)
end Go.Proofs.YtbbhoaljldgjeaaDoor
