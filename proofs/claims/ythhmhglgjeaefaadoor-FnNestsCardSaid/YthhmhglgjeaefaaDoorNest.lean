/- The law: every if and every repeat has its own end, and these do not cross. -/
import Derived.Test.YthhmhglgjeaefaaDoorRight
import Derived.Test.YthhmhglgjeaefaaDoorNestP
import Derived.Test.YthhmhglgjeaefaaDoorMatchL
namespace Go.Proofs.YthhmhglgjeaefaaDoor
open Go.ChangeShapes Go.WideShapes Go.ChangeAt Go.RowKit
set_option linter.unusedVariables false
theorem mF_none {zs : List Ins} {i : Nat} (hi : i < zs.length) (h40 : zs.length ≤ 40) (h : mAt zs i = none) : ∃ z : Int, (z != 0) = true ∧ matchF zs i = .tuple #[.int .i64 0, .int .i64 0, .int .i64 z] := by
  unfold matchF
  rw [if_neg (by omega), if_neg (by omega), if_neg (by omega), Int.toNat_natCast]
  unfold mAt at h
  by_cases ho : opens zs i
  · rw [if_pos ho] at h
    unfold opens at ho
    rw [if_neg (by omega), h]
    exact ⟨14, rfl, rfl⟩
  · unfold opens at ho
    rw [if_pos (by omega)]
    exact ⟨10, rfl, rfl⟩
theorem mF_some {zs : List Ins} {i : Nat} (hi : i < zs.length) (h40 : zs.length ≤ 40) {x : Int × Int} (h : mAt zs i = some x) : matchF zs i = .tuple #[.int .i64 x.1, .int .i64 x.2, .int .i64 0] := by
  unfold matchF
  rw [if_neg (by omega), if_neg (by omega), if_neg (by omega), Int.toNat_natCast]
  unfold mAt at h
  by_cases ho : opens zs i
  · rw [if_pos ho] at h
    unfold opens at ho
    rw [if_neg (by omega), h]
    rfl
  · rw [if_neg ho] at h
    exact absurd h (by simp)
theorem endsL_at {zs : List Ins} {i k : Nat} {x : Int × Int} (h : mAt zs i = some x) (hk : k < (endsL zs i).length) : ((endsL zs i).getD k 0 == x.2) = false ∧ ¬ ((i : Int) < (endsL zs i).getD k 0 ∧ (endsL zs i).getD k 0 < x.2) := by
  have e : (endsL zs i).getD k 0 = (endsL zs i)[k] := by simp [List.getD, hk]
  have := endsL_apart h _ (List.getElem_mem hk)
  rw [e]
  exact ⟨beq_eq_false_iff_ne.2 this.1, fun g => this.2 ⟨g.1, g.2⟩⟩
set_option maxRecDepth 100000 in
set_option maxHeartbeats 4000000 in
theorem FnNests_came (a : Option Addr) (n c : Nat) (a1 : Option Addr) (n1 c1 : Nat) (W : World) (h0 : Came Tryd.prog W 22 [.slice a n c]) (h1 : Came Tryd.prog W 22 [.slice a1 n1 c1]) (hf : OpTab W) :
    Calls Tryd.prog 4 #[.slice a n c, .slice a1 n1 c1] W fun e w' => e = .returned (.bool true) ∧ Below W.heap.size W w' := by
  have B0 := Lib.hid (came_bytesN h0)
  have B1 := Lib.hid (came_bytesN h1)
  have hn := B0.out.1
  have hn1 := B1.out.1
  unfold maxLen at hn hn1
  have HT := Lib.hid hf
  clear hf h0 h1
  by_cases l0 : 1048576 < n
  · go_enter Tryd.func4, Tryd.ntmps4
    go_wp2
    go_ret
    exact ⟨rfl, Below.refl _ _⟩
  by_cases l1 : 1048576 < n1
  · go_enter Tryd.func4, Tryd.ntmps4
    go_wp2
    go_ret
    exact ⟨rfl, Below.refl _ _⟩
  go_enter Tryd.func4, Tryd.ntmps4
  go_wp2_with fail
  refine (kindsDrawn_any a1 n1 c1 W B1.out).mono ?_
  rintro e w1 ⟨k, mk, kc, ks, rfl, rfl, hmk, hok, hlk, hlt, hb1⟩
  have HK := Lib.hid hlk
  have HLT := Lib.hid hlt
  have HOK := Lib.hid hok
  have Hb1 := Lib.hid hb1
  clear hlk hlt hok hb1
  go_wp2_with fail
  refine Calls.mono (rightCode_any a n c k kc ks 1 w1 (B0.out.belN Hb1.out Hb1.out.size) HK.out HLT.out (by omega) HOK.out (by omega) (by omega)) ?_
  rintro e w2 ⟨a2, m2, c2, zs, rfl, hl, hm, hmc, _, hz, hb2⟩
  have HZ := Lib.hid hz
  have Hb2 := Lib.hid (Hb1.out.trans (hb2.mono Hb1.out.size))
  have HL := Lib.hid hl
  have HM1 := Lib.hid (fun p w hz => matchOf_any zs a2 c2 p (by rw [hl]; unfold maxLen; omega) w hz)
  have HM2 := Lib.hid (fun p w hz => specMatchOf_any zs a2 c2 p (by rw [hl]; unfold maxLen; omega) w hz)
  rw [hl] at HM1 HM2
  obtain ⟨i0, hi, hz0, hz1, hz2⟩ := info_parts (show (Tryd.prog.info? 3).map (fun i => (i.zero, i.size, i.bytes)) = some (some (.int .i64 0), 1, 8) by kernel_rfl)
  have HI := Lib.hid (And.intro hi (And.intro hz0 (And.intro hz1 hz2)))
  clear hz hb2 hl hi hz0 hz1 hz2
  go_wp2
  go_loopw [7, 8, 9, 10, 11, 12, 13, 14, 15] (fun v i _ _ _ _ _ _ _ wr => ∃ (j m q : Nat) (x : Option Addr), j ≤ m2 ∧ m ≤ j ∧ i = .int .i64 j ∧ v = .slice x m q ∧ Hid ((endsL zs j).length = m) ∧ Hid (wr.ownsRow w2.heap.size 3 1 (.slice x m q) m (kC (endsL zs j))) ∧ Hid (Below w2.heap.size w2 wr)) (fun _ i _ _ _ _ _ _ _ _ => m2 - (intOf i).toNat)
  case atStart => exact ⟨0, 0, 0, some ⟨w2.heap.size, 0, none⟩, Nat.zero_le _, Nat.le_refl _, rfl, rfl, Lib.hid rfl, Lib.hid (World.ownsRow_lit w2 #[] 0 (Nat.le_refl _) (Nat.zero_le _) rfl), Lib.hid (bel_al w2 _)⟩
  case round =>
    obtain ⟨j, m, q, x, hj, hmj, rfl, rfl, hlen, ho, hb⟩ := hrel
    have hzr := Lib.hid (HZ.out.below hb.out (Nat.le_refl _))
    by_cases hlt : j < m2
    · have hjl : j < zs.length := by rw [HL.out]; exact hlt
      have h40 : zs.length ≤ 40 := by rw [HL.out]; exact hm
      go_wp2_with fail
      refine (HM1.out j _ hzr.out).mono ?_
      rintro e w3 ⟨rfl, rfl⟩
      cases hx : mAt zs j with
      | none =>
        obtain ⟨z, hz0, hzF⟩ := mF_none hjl h40 hx
        have hzz : (z != z) = false := by simp
        have HE := Lib.hid (endsL_none hx)
        have HL4 : Hid ((endsL zs (j + 1)).length = m) := Lib.hid (by rw [HE.out]; exact hlen.out)
        have HO4 : Hid (wr.ownsRow w2.heap.size 3 1 (.slice x m q) m (kC (endsL zs (j + 1)))) := Lib.hid (by rw [HE.out]; exact ho.out)
        clear hjl h40
        rw [hzF]
        go_wp2_with fail
        refine (HM2.out j _ hzr.out).mono ?_
        rintro e w4 ⟨rfl, rfl⟩
        rw [hzF]
        clear hzF hx
        go_wp2
        go_roundw
        case rel => exact ⟨j + 1, m, q, x, by omega, by omega, by go_num, rfl, HL4, HO4, hb⟩
        case measure => simp [intOf]; omega
      | some y =>
        have hzF := mF_some hjl h40 hx
        obtain ⟨⟨en, n1', n2', n3', n4'⟩, hoth⟩ := mAt_found hx
        have HE := Lib.hid (endsL_some hx)
        have HA := Lib.hid (fun k hk => endsL_at (k := k) hx hk)
        clear h40
        rw [hzF]
        go_wp2_with fail
        refine (HM2.out j _ hzr.out).mono ?_
        rintro e w4 ⟨rfl, rfl⟩
        rw [hzF]
        have HX := Lib.hid hoth
        clear hzF hx hoth
        obtain ⟨y1, y2⟩ := y
        dsimp only at *
        subst n3'
        have hy1 : (y1 != y1) = false := by simp
        have hy2 : ((en : Int) != en) = false := by simp
        obtain ⟨b2, o2, rfl, hbl, hcs⟩ := HZ.out.open (by rw [flat_len insC_len]; omega)
        have HC0 := Lib.hid (ins_at hcs (i := en) n2').1
        rw [n4'] at HC0
        have HC1 := Lib.hid (fun t (h : t < zs.length) => (ins_at hcs (i := t) h).1)
        have HLl := HL.out
        rw [HLl] at n2' hjl
        have HB := hb.out.size
        have hen : ((en : Int)).toNat = en := Int.toNat_natCast en
        clear hcs n4' hzr HM1 HM2
        go_wp2
        go_loop [15] (fun kk => ∃ t : Nat, t ≤ m ∧ kk = .int .i64 t) (fun kk => m - (intOf kk).toNat)
        case atStart => exact ⟨0, Nat.zero_le _, rfl⟩
        case round =>
          obtain ⟨t, ht, rfl⟩ := hrel
          by_cases htm : t < m
          · obtain ⟨b3, o3, rfl, _, hc3⟩ := (lies_own ho.out).open (by rw [kC_len, hlen.out]; omega)
            have c3 := kind_at hc3 (i := t) (by rw [hlen.out]; exact htm)
            obtain ⟨hA1, hA2⟩ := HA.out t (by rw [hlen.out]; exact htm)
            clear hc3
            generalize (endsL zs j).getD t 0 = z at *
            by_cases hzj : (j : Int) < z
            · have hzn : ¬ z < (en : Int) := fun g => hA2 ⟨hzj, g⟩
              clear hA2
              go_wp2
              go_round
              case rel => exact ⟨t + 1, by omega, by go_num⟩
              case measure => simp [intOf]; omega
            · clear hA2
              go_wp2
              go_round
              case rel => exact ⟨t + 1, by omega, by go_num⟩
              case measure => simp [intOf]; omega
          · obtain rfl : t = m := by omega
            obtain ⟨H1, H2, H3, H4⟩ := HI.out
            rcases HX.out with rfl | ⟨ot, g1, g2, rfl, g4, g5⟩
            · clear HX HA hy1
              go_wp2_with (at_builtin; go_must (refine wpList_append_own _ rfl (.tmp 93) (.tmp 95) _ rfl w2.heap.size 3 i0 _ 1 8 Tryd.underlying23 H1 H2 H3 H4 rfl (by decide) (.slice x t q) t (kC (endsL zs j)) rfl (ho.out.alloc _) ⟨wr.heap.size, 0, none⟩ 1 1 [.int .i64 en] rfl rfl (cell_one_nw wr _ _) (by simp [Value.oneCell']) (by unfold maxLen; omega) (by omega) (by simp; omega) ?_); intro v3 w3 ho3 hg3 _; obtain ⟨x3, q3, rfl⟩ := wk_slice ho3; have Ho3 := Lib.hid ho3; have Hb3 := Lib.hid ((hb.out.alloc HB _).grown hg3 (by simp; omega) (fun k hk => (ho.out.lt k hk).1)); have d0 := (Hb3.out.cell (p := ⟨b2, o2 + en * 2, none⟩) hbl).trans HC0.out; clear ho3 hg3)
              have HO4 : Hid (w3.ownsRow w2.heap.size 3 1 (.slice x3 (t + 1) q3) (t + 1) (kC (endsL zs (j + 1)))) := Lib.hid (by rw [HE.out, ← show kC (endsL zs j) ++ [.int .i64 (en : Int)] = kC (endsL zs j ++ [(en : Int)]) from by simp [kC]]; exact Ho3.out)
              have HL4 : Hid ((endsL zs (j + 1)).length = t + 1) := Lib.hid (by rw [HE.out, List.length_append, hlen.out]; rfl)
              go_roundw
              case rel => exact ⟨j + 1, t + 1, q3, x3, by omega, by omega, by go_num, rfl, HL4, HO4, Hb3⟩
              case measure => simp [intOf]; omega
            · have HC2 := Lib.hid (HC1.out ot g2)
              rw [g4] at HC2
              have ho1 : ((ot : Int)).toNat = ot := Int.toNat_natCast ot
              rw [HLl] at g2
              have g6 : ot < en := by omega
              clear HX HA hy1 g4 g5
              go_wp2_with (at_builtin; go_must (refine wpList_append_own _ rfl (.tmp 93) (.tmp 95) _ rfl w2.heap.size 3 i0 _ 1 8 Tryd.underlying23 H1 H2 H3 H4 rfl (by decide) (.slice x t q) t (kC (endsL zs j)) rfl (ho.out.alloc _) ⟨wr.heap.size, 0, none⟩ 1 1 [.int .i64 en] rfl rfl (cell_one_nw wr _ _) (by simp [Value.oneCell']) (by unfold maxLen; omega) (by omega) (by simp; omega) ?_); intro v3 w3 ho3 hg3 _; obtain ⟨x3, q3, rfl⟩ := wk_slice ho3; have Ho3 := Lib.hid ho3; have Hb3 := Lib.hid ((hb.out.alloc HB _).grown hg3 (by simp; omega) (fun k hk => (ho.out.lt k hk).1)); have d0 := (Hb3.out.cell (p := ⟨b2, o2 + en * 2, none⟩) hbl).trans HC0.out; have d1 := (Hb3.out.cell (p := ⟨b2, o2 + ot * 2, none⟩) hbl).trans HC2.out; clear ho3 hg3)
              have HO4 : Hid (w3.ownsRow w2.heap.size 3 1 (.slice x3 (t + 1) q3) (t + 1) (kC (endsL zs (j + 1)))) := Lib.hid (by rw [HE.out, ← show kC (endsL zs j) ++ [.int .i64 (en : Int)] = kC (endsL zs j ++ [(en : Int)]) from by simp [kC]]; exact Ho3.out)
              have HL4 : Hid ((endsL zs (j + 1)).length = t + 1) := Lib.hid (by rw [HE.out, List.length_append, hlen.out]; rfl)
              go_roundw
              case rel => exact ⟨j + 1, t + 1, q3, x3, by omega, by omega, by go_num, rfl, HL4, HO4, Hb3⟩
              case measure => simp [intOf]; omega
    · obtain rfl : j = m2 := by omega
      have Hbw := Lib.hid (Hb2.out.trans (hb.out.mono Hb2.out.size))
      have HTr := Lib.hid (HT.out.below Hbw.out (Nat.le_refl _))
      go_wp2_with fail
      refine (opName_any 23 _ HTr.out).mono ?_
      rintro e w3 ⟨rfl, rfl⟩
      have hen : nameF 23 = ⟨#[101, 110, 100]⟩ := by rfl
      rw [hen]
      go_wp2
      go_ret
      exact ⟨rfl, Hbw.out⟩
end Go.Proofs.YthhmhglgjeaefaaDoor
