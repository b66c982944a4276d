/- Spec's l05Costs: each accepted routine's cost behind the others. -/
import Derived.Test.YtppgknjpbfopjaaGreatDoorPart2
import Derived.Test.YtppgknjpbfopjaaGreatDoorCosts
namespace Go.Proofs.YtppgknjpbfopjaaGreatDoor
open Go.ChangeShapes Go.WideShapes Go.ChangeAt Go.RowKit
set_option maxRecDepth 100000 in
set_option maxHeartbeats 2000000 in
theorem l05Costs_any (a : Option Addr) (c : Nat) (ls : List (List Ins)) (ks : List Int) (w : World) (hok : (allF ls ks).2.2 = 0) (hz : Routs w a ls) :
    Calls Tryz.prog 51 #[.slice a ls.length c] w (NextPost w.heap.size (costsL ls) w) := by
  obtain ⟨h6, hw, hv⟩ := all_ok hok
  obtain ⟨i0, hi, hz0, hz1, hz2⟩ := info_parts (show (Tryz.prog.info? 81).map (fun i => (i.zero, i.size, i.bytes)) = some (some (.agg #[.int .i64 0, .int .i64 0, .int .i64 0, .int .i64 0, .int .i64 0]), 5, 40) by kernel_rfl)
  have HI := Lib.hid (And.intro hi (And.intro hz0 (And.intro hz1 hz2)))
  have HS0 : Hid (∀ X, w.heap.size ≤ X.heap.size → Below w.heap.size w X → SRow w.heap.size 0 (.slice (some ⟨X.heap.size, 0, none⟩) 0 0) (costsL (ls.take 0)) (X.alloc (.cells #[] 81))) := Lib.hid (fun X hX _ => World.ownsRow_lit (base := w.heap.size) (e := 81) (size := 5) X #[] 0 hX (Nat.zero_le _) rfl)
  have HZ : Hid (∀ wr, Below w.heap.size w wr → ∀ j, j < ls.length → ∃ b o x c, a = some ⟨b, o, none⟩ ∧ b < w.heap.size ∧ w.cell? ⟨b, o + j, none⟩ = some (.slice x (ls.getD j []).length c) ∧ Lies wr x (flat insC (ls.getD j []))) := Lib.hid (fun wr h j hj => by
    obtain ⟨b, o, x, c, e, hb, hc, hl⟩ := hz.at hj
    exact ⟨b, o, x, c, e, hb, hc, hl.below h (Nat.le_refl _)⟩)
  have HW := Lib.hid hw
  have HV : Hid (∀ j, j < ls.length → (vVer (ls.getD j []) ks ((costsL (ls.take j)).length : Int)).2 = 0) := Lib.hid (fun j hj => by
    rw [costsL_len, List.length_take, Nat.min_eq_left (by omega)]; exact hv j hj)
  have HO := Lib.hid (costs_ok hok)
  have HTK : Hid (∀ j, j < ls.length → costsL (ls.take (j + 1)) = costsL (ls.take j) ++ [codeCost (costsL (ls.take j)) (ls.getD j [])]) := Lib.hid (fun j hj => costsL_take hj)
  have HE : Hid (costsL (ls.take ls.length) = costsL ls) := Lib.hid (by rw [List.take_length])
  clear hok hz hw hv hi hz0 hz1 hz2
  generalize hL : ls.length = n at *
  clear hL
  go_enter Tryz.func51, Tryz.ntmps51
  go_wp2
  go_loopw [3, 4] (fun s i wr => ∃ j : Nat, j ≤ n ∧ i = .int .i64 j ∧ Hid (Below w.heap.size w wr ∧ ∃ a' n' c', s = .slice a' n' c' ∧ SRow w.heap.size n' (.slice a' n' c') (costsL (ls.take j)) wr)) (fun _ i _ => n - (intOf i).toNat)
  case atStart => exact ⟨0, Nat.zero_le _, rfl, Lib.hid ⟨sm_al _ _, _, _, _, rfl, HS0.out w (Nat.le_refl _) (Below.refl _ _)⟩⟩
  case round =>
    obtain ⟨j, hj, rfl, hs⟩ := hrel
    obtain ⟨hbl, a', n', c', rfl, hrow⟩ := hs.out
    by_cases hlt : j < n
    · obtain ⟨zb, zo, zx, zc, rfl, hzb, d0w, hzl⟩ := HZ.out wr hbl j hlt
      have d0 := (hbl.cell (p := ⟨zb, zo + j, none⟩) hzb).trans d0w
      have hnn : (costsL (ls.take j)).length = n' := sr_len hrow
      have hwj := HW.out j hlt
      have hn6 : n' ≤ 6 := by rw [← hnn, costsL_len, List.length_take]; omega
      have HT2 := Lib.hid (HTK.out j hlt)
      have HPW : Hid (∀ X, Below wr.heap.size wr X → PartC zx (ls.getD j []).length zc a' n' c' 0 (ls.getD j []).length (codeCost (costsL (ls.take j)) (ls.getD j [])) X) := Lib.hid (fun X hX => by
        have := part_whole zx zc (ls.getD j []) a' c' (costsL (ls.take j)) (HO.out j (by omega)) hwj.1 hwj.2 (HV.out j hlt) X (hzl.below hX (Nat.le_refl _)) (lies_own (own_bl hrow hX))
        rw [hnn] at this
        exact this)
      have HR := Lib.hid hrow
      have HB := Lib.hid hbl
      have hq40 : (ls.getD j []).length ≤ 40 := hwj.1
      clear hrow hzl hwj hs hbl hnn
      generalize codeCost (costsL (ls.take j)) (ls.getD j []) = C at *
      generalize (ls.getD j []).length = q at *
      generalize costsL (ls.take j) = known at *
      go_wp2_with fail
      have HSB := Lib.hid (show Below wr.heap.size wr wr.drew from sm_dr (Below.refl _ _))
      have HDW := Lib.hid d0w
      have HSW := Lib.hid (And.intro d0 (sm_dr HB.out))
      clear d0w
      refine wp_region_hl 16 (fun X => X.cell? ⟨zb, zo + j, none⟩ = some (.slice zx q zc) ∧ Below w.heap.size w X) (by kernel_rfl) rfl rfl (by kernel_rfl) ?_
      refine hl_take (v := ?v0) 0 rfl (by kernel_rfl) (fun _ _ _ h => h) (Or.inl ⟨by rfl, ?hy0⟩) HSW.out ?rest0
      case hy0 =>
        intro w hSw
        have d0 := hSw.1
        go_simp <;> with_reducible rfl
      try simp only [Act.put, List.setIfInBounds_toArray, List.set_cons_zero, List.set_cons_succ]
      refine hl_take (v := ?v1) 1 rfl (by kernel_rfl) (fun _ _ _ h => h) (Or.inl ⟨by rfl, ?hy1⟩) HSW.out ?rest1
      case hy1 =>
        intro w hSw
        have d0 := hSw.1
        go_simp <;> with_reducible rfl
      try simp only [Act.put, List.setIfInBounds_toArray, List.set_cons_zero, List.set_cons_succ]
      refine hl_take (v := ?v2) 2 rfl (by kernel_rfl) (fun _ _ _ h => h) (Or.inl ⟨by rfl, ?hy2⟩) HSW.out ?rest2
      case hy2 =>
        intro w hSw
        have d0 := hSw.1
        go_simp <;> with_reducible rfl
      try simp only [Act.put, List.setIfInBounds_toArray, List.set_cons_zero, List.set_cons_succ]
      refine hl_take (v := ?v3) 3 rfl (by kernel_rfl) (fun _ _ _ h => h) (Or.inl ⟨by rfl, ?hy3⟩) HSW.out ?rest3
      case hy3 =>
        intro w hSw
        have d0 := hSw.1
        go_simp <;> with_reducible rfl
      try simp only [Act.put, List.setIfInBounds_toArray, List.set_cons_zero, List.set_cons_succ]
      refine hl_take (v := ?v4) 4 rfl (by kernel_rfl) (fun _ _ _ h => h) (Or.inl ⟨by rfl, ?hy4⟩) HSW.out ?rest4
      case hy4 =>
        intro w hSw
        have d0 := hSw.1
        go_simp <;> with_reducible rfl
      try simp only [Act.put, List.setIfInBounds_toArray, List.set_cons_zero, List.set_cons_succ]
      refine hl_take (v := ?v5) 5 rfl (by kernel_rfl) (fun _ _ _ h => h) (Or.inl ⟨by rfl, ?hy5⟩) HSW.out ?rest5
      case hy5 =>
        intro w hSw
        have d0 := hSw.1
        go_simp <;> with_reducible rfl
      try simp only [Act.put, List.setIfInBounds_toArray, List.set_cons_zero, List.set_cons_succ]
      refine hl_take (v := ?v6) 6 rfl (by kernel_rfl) (fun _ _ _ h => h) (Or.inl ⟨by rfl, ?hy6⟩) HSW.out ?rest6
      case hy6 =>
        intro w hSw
        have d0 := hSw.1
        go_simp <;> with_reducible rfl
      try simp only [Act.put, List.setIfInBounds_toArray, List.set_cons_zero, List.set_cons_succ]
      refine hl_take (v := ?v7) 7 rfl (by kernel_rfl) (fun _ _ _ h => h) (Or.inl ⟨by rfl, ?hy7⟩) HSW.out ?rest7
      case hy7 =>
        intro w hSw
        have d0 := hSw.1
        go_simp <;> with_reducible rfl
      try simp only [Act.put, List.setIfInBounds_toArray, List.set_cons_zero, List.set_cons_succ]
      refine hl_take (v := ?v8) 8 rfl (by kernel_rfl) (fun _ _ _ h => h) (Or.inl ⟨by rfl, ?hy8⟩) HSW.out ?rest8
      case hy8 =>
        intro w hSw
        have d0 := hSw.1
        go_simp <;> with_reducible rfl
      try simp only [Act.put, List.setIfInBounds_toArray, List.set_cons_zero, List.set_cons_succ]
      refine hl_take (v := ?v9) 9 rfl (by kernel_rfl) (fun _ _ _ h => h) (Or.inl ⟨by rfl, ?hy9⟩) HSW.out ?rest9
      case hy9 =>
        intro w hSw
        have d0 := hSw.1
        go_simp <;> with_reducible rfl
      try simp only [Act.put, List.setIfInBounds_toArray, List.set_cons_zero, List.set_cons_succ]
      refine hl_take (v := ?v10) 10 rfl (by kernel_rfl) (fun _ _ _ h => h) (Or.inl ⟨by rfl, ?hy10⟩) HSW.out ?rest10
      case hy10 =>
        intro w hSw
        have d0 := hSw.1
        go_simp <;> with_reducible rfl
      try simp only [Act.put, List.setIfInBounds_toArray, List.set_cons_zero, List.set_cons_succ]
      refine hl_take (v := ?v11) 11 rfl (by kernel_rfl) (fun _ _ _ h => h) (Or.inl ⟨by rfl, ?hy11⟩) HSW.out ?rest11
      case hy11 =>
        intro w hSw
        have d0 := hSw.1
        go_simp <;> with_reducible rfl
      try simp only [Act.put, List.setIfInBounds_toArray, List.set_cons_zero, List.set_cons_succ]
      refine hl_take (v := ?v12) 12 rfl (by kernel_rfl) (fun _ _ _ h => h) (Or.inl ⟨by rfl, ?hy12⟩) HSW.out ?rest12
      case hy12 =>
        intro w hSw
        have d0 := hSw.1
        go_simp <;> with_reducible rfl
      try simp only [Act.put, List.setIfInBounds_toArray, List.set_cons_zero, List.set_cons_succ]
      refine hl_one 13 rfl (by kernel_rfl) (fun K hK => ?_)
      go_simp
      refine Calls.mono (HPW.out _ HSB.out) ?_
      rintro e w2 ⟨rfl, hb2⟩
      have HSB2 := Lib.hid (HSB.out.trans (hb2.mono HSB.out.size))
      have hB2 := HB.out.trans (HSB2.out.mono HB.out.size)
      have HSW := Lib.hid (And.intro ((hB2.cell (p := ⟨zb, zo + j, none⟩) hzb).trans HDW.out) hB2)
      refine hK.out _ _ HSW.out ?_
      clear hK hb2 hB2
      try simp only [Act.put, List.setIfInBounds_toArray, List.set_cons_zero, List.set_cons_succ]
      refine hl_one 14 rfl (by kernel_rfl) (fun K hK => ?_)
      go_simp
      have HSB3 := Lib.hid (HSB2.out.alloc HSB2.out.size (smO C))
      have hB2 := HSW.out.2.alloc HSW.out.2.size (smO C)
      have HSW2 := Lib.hid (And.intro ((hB2.cell (p := ⟨zb, zo + j, none⟩) hzb).trans HDW.out) hB2)
      refine hK.out _ _ HSW2.out ?_
      clear hK hB2
      try simp only [Act.put, List.setIfInBounds_toArray, List.set_cons_zero, List.set_cons_succ]
      refine hl_one 15 rfl (by kernel_rfl) (fun K hK => ?_)
      refine wp_append_own _ (.tmp 12) (.tmp 26) _ rfl w.heap.size 81 i0 _ 5 40 Tryz.underlying78 HI.out.1 HI.out.2.1 HI.out.2.2.1 HI.out.2.2.2 rfl (by decide) (.slice a' n' c') n' _ rfl (own_bl HR.out HSB3.out) ⟨w2.heap.size, 0, none⟩ 1 1 (smC C) rfl rfl (sm_new_cells w2 C) (smC_one C) (by unfold maxLen; omega) (by omega) HSW2.out.2.size (fun v' w4 hown hgrow _ => ?_)
      obtain ⟨g', c2, rfl⟩ := own_some hown (by omega)
      have HB4 := Lib.hid (HSW2.out.2.grown hgrow HSW2.out.2.size (fun k hk => ((own_bl HR.out HSB3.out).lt k hk).1))
      have HR4 := Lib.hid (show SRow w.heap.size (n' + 1) (.slice (some ⟨g', 0, none⟩) (n' + 1) c2) (known ++ [C]) w4 from by unfold SRow; rw [flat_app]; exact hown)
      refine hK.out _ _ ⟨(HB4.out.cell (p := ⟨zb, zo + j, none⟩) hzb).trans HDW.out, HB4.out⟩ ?_
      clear hK hown hgrow
      try simp only [Act.put, List.setIfInBounds_toArray, List.set_cons_zero, List.set_cons_succ]
      refine hl_done (by kernel_rfl) ?_
      go_simp
      go_wp2
      go_roundw
      case rel => exact ⟨j + 1, by omega, by go_num, Lib.hid ⟨HB4.out, _, _, _, rfl, by rw [HT2.out]; exact HR4.out⟩⟩
      case measure => simp [intOf]; omega
    · obtain rfl : j = n := by omega
      have HB2 := Lib.hid hbl
      have HR2 := Lib.hid hrow
      clear hbl hrow hs
      go_wp2
      go_ret
      exact ⟨HB2.out, a', n', c', rfl, by rw [← HE.out]; exact HR2.out⟩
end Go.Proofs.YtppgknjpbfopjaaGreatDoor
