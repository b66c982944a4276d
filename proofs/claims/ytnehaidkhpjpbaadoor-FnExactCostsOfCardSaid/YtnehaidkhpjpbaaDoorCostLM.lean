/- The exact law of CostsOf: spec's costs, comparisons and marks of summaries, the law itself. -/
import Derived.Test.YtnehaidkhpjpbaaDoorPart2
import Derived.Test.YtnehaidkhpjpbaaDoorCosts
import Derived.Test.YtnehaidkhpjpbaaDoorRtM
namespace Go.Proofs.YtnehaidkhpjpbaaDoor
open Go.ChangeShapes Go.WideShapes Go.ChangeAt Go.RowKit
set_option maxRecDepth 100000 in
set_option maxHeartbeats 2000000 in
theorem l05Costs_any (a : Option Addr) (c : Nat) (ls : List (List Ins)) (ks : List Int) (w : World) (hok : (allF ls ks).2.2 = 0) (hz : Routs w a ls) :
    Calls Tryd.prog 72 #[.slice a ls.length c] w (NextPost w.heap.size (costsL ls) w) := by
  obtain ⟨h6, hw, hv⟩ := all_ok hok
  obtain ⟨i0, hi, hz0, hz1, hz2⟩ := info_parts (show (Tryd.prog.info? 112).map (fun i => (i.zero, i.size, i.bytes)) = some (some (.agg #[.int .i64 0, .int .i64 0, .int .i64 0, .int .i64 0, .int .i64 0]), 5, 40) by kernel_rfl)
  have HI := Lib.hid (And.intro hi (And.intro hz0 (And.intro hz1 hz2)))
  have HS0 : Hid (∀ X, w.heap.size ≤ X.heap.size → Below w.heap.size w X → SRow w.heap.size 0 (.slice (some ⟨X.heap.size, 0, none⟩) 0 0) (costsL (ls.take 0)) (X.alloc (.cells #[] 112))) := Lib.hid (fun X hX _ => World.ownsRow_lit (base := w.heap.size) (e := 112) (size := 5) X #[] 0 hX (Nat.zero_le _) rfl)
  have HZ : Hid (∀ wr, Below w.heap.size w wr → ∀ j, j < ls.length → ∃ b o x c, a = some ⟨b, o, none⟩ ∧ b < w.heap.size ∧ w.cell? ⟨b, o + j, none⟩ = some (.slice x (ls.getD j []).length c) ∧ Lies wr x (flat insC (ls.getD j []))) := Lib.hid (fun wr h j hj => by
    obtain ⟨b, o, x, c, e, hb, hc, hl⟩ := hz.at hj
    exact ⟨b, o, x, c, e, hb, hc, hl.below h (Nat.le_refl _)⟩)
  have HW := Lib.hid hw
  have HV : Hid (∀ j, j < ls.length → (vVer (ls.getD j []) ks ((costsL (ls.take j)).length : Int)).2 = 0) := Lib.hid (fun j hj => by
    rw [costsL_len, List.length_take, Nat.min_eq_left (by omega)]; exact hv j hj)
  have HO := Lib.hid (costs_ok hok)
  have HTK : Hid (∀ j, j < ls.length → costsL (ls.take (j + 1)) = costsL (ls.take j) ++ [codeCost (costsL (ls.take j)) (ls.getD j [])]) := Lib.hid (fun j hj => costsL_take hj)
  have HE : Hid (costsL (ls.take ls.length) = costsL ls) := Lib.hid (by rw [List.take_length])
  clear hok hz hw hv hi hz0 hz1 hz2
  generalize hL : ls.length = n at *
  clear hL
  go_enter Tryd.func72, Tryd.ntmps72
  go_wp2
  go_loopw [3, 4] (fun s i wr => ∃ j : Nat, j ≤ n ∧ i = .int .i64 j ∧ Hid (Below w.heap.size w wr ∧ ∃ a' n' c', s = .slice a' n' c' ∧ SRow w.heap.size n' (.slice a' n' c') (costsL (ls.take j)) wr)) (fun _ i _ => n - (intOf i).toNat)
  case atStart => exact ⟨0, Nat.zero_le _, rfl, Lib.hid ⟨sm_al _ _, _, _, _, rfl, HS0.out w (Nat.le_refl _) (Below.refl _ _)⟩⟩
  case round =>
    obtain ⟨j, hj, rfl, hs⟩ := hrel
    obtain ⟨hbl, a', n', c', rfl, hrow⟩ := hs.out
    by_cases hlt : j < n
    · obtain ⟨zb, zo, zx, zc, rfl, hzb, d0w, hzl⟩ := HZ.out wr hbl j hlt
      have d0 := (hbl.cell (p := ⟨zb, zo + j, none⟩) hzb).trans d0w
      have hnn : (costsL (ls.take j)).length = n' := sr_len hrow
      have hwj := HW.out j hlt
      have hn6 : n' ≤ 6 := by rw [← hnn, costsL_len, List.length_take]; omega
      have HT2 := Lib.hid (HTK.out j hlt)
      have HPW : Hid (∀ X, Below wr.heap.size wr X → PartC zx (ls.getD j []).length zc a' n' c' 0 (ls.getD j []).length (codeCost (costsL (ls.take j)) (ls.getD j [])) X) := Lib.hid (fun X hX => by
        have := part_whole zx zc (ls.getD j []) a' c' (costsL (ls.take j)) (HO.out j (by omega)) hwj.1 hwj.2 (HV.out j hlt) X (hzl.below hX (Nat.le_refl _)) (lies_own (own_bl hrow hX))
        rw [hnn] at this
        exact this)
      have HR := Lib.hid hrow
      have HB := Lib.hid hbl
      have hq40 : (ls.getD j []).length ≤ 40 := hwj.1
      clear hrow hzl hwj hs hbl hnn
      generalize codeCost (costsL (ls.take j)) (ls.getD j []) = C at *
      generalize (ls.getD j []).length = q at *
      generalize costsL (ls.take j) = known at *
      go_wp2_with fail
      have HSB := Lib.hid (show Below wr.heap.size wr wr.drew from sm_dr (Below.refl _ _))
      have HDW := Lib.hid d0w
      have HSW := Lib.hid (And.intro d0 (sm_dr HB.out))
      clear d0w
      refine wp_region_hl 16 (fun X => X.cell? ⟨zb, zo + j, none⟩ = some (.slice zx q zc) ∧ Below w.heap.size w X) (by kernel_rfl) rfl rfl (by kernel_rfl) ?_
      refine hl_take (v := ?v0) 0 rfl (by kernel_rfl) (fun _ _ _ h => h) (Or.inl ⟨by rfl, ?hy0⟩) HSW.out ?rest0
      case hy0 =>
        intro w hSw
        have d0 := hSw.1
        go_simp <;> with_reducible rfl
      try simp only [Act.put, List.setIfInBounds_toArray, List.set_cons_zero, List.set_cons_succ]
      refine hl_take (v := ?v1) 1 rfl (by kernel_rfl) (fun _ _ _ h => h) (Or.inl ⟨by rfl, ?hy1⟩) HSW.out ?rest1
      case hy1 =>
        intro w hSw
        have d0 := hSw.1
        go_simp <;> with_reducible rfl
      try simp only [Act.put, List.setIfInBounds_toArray, List.set_cons_zero, List.set_cons_succ]
      refine hl_take (v := ?v2) 2 rfl (by kernel_rfl) (fun _ _ _ h => h) (Or.inl ⟨by rfl, ?hy2⟩) HSW.out ?rest2
      case hy2 =>
        intro w hSw
        have d0 := hSw.1
        go_simp <;> with_reducible rfl
      try simp only [Act.put, List.setIfInBounds_toArray, List.set_cons_zero, List.set_cons_succ]
      refine hl_take (v := ?v3) 3 rfl (by kernel_rfl) (fun _ _ _ h => h) (Or.inl ⟨by rfl, ?hy3⟩) HSW.out ?rest3
      case hy3 =>
        intro w hSw
        have d0 := hSw.1
        go_simp <;> with_reducible rfl
      try simp only [Act.put, List.setIfInBounds_toArray, List.set_cons_zero, List.set_cons_succ]
      refine hl_take (v := ?v4) 4 rfl (by kernel_rfl) (fun _ _ _ h => h) (Or.inl ⟨by rfl, ?hy4⟩) HSW.out ?rest4
      case hy4 =>
        intro w hSw
        have d0 := hSw.1
        go_simp <;> with_reducible rfl
      try simp only [Act.put, List.setIfInBounds_toArray, List.set_cons_zero, List.set_cons_succ]
      refine hl_take (v := ?v5) 5 rfl (by kernel_rfl) (fun _ _ _ h => h) (Or.inl ⟨by rfl, ?hy5⟩) HSW.out ?rest5
      case hy5 =>
        intro w hSw
        have d0 := hSw.1
        go_simp <;> with_reducible rfl
      try simp only [Act.put, List.setIfInBounds_toArray, List.set_cons_zero, List.set_cons_succ]
      refine hl_take (v := ?v6) 6 rfl (by kernel_rfl) (fun _ _ _ h => h) (Or.inl ⟨by rfl, ?hy6⟩) HSW.out ?rest6
      case hy6 =>
        intro w hSw
        have d0 := hSw.1
        go_simp <;> with_reducible rfl
      try simp only [Act.put, List.setIfInBounds_toArray, List.set_cons_zero, List.set_cons_succ]
      refine hl_take (v := ?v7) 7 rfl (by kernel_rfl) (fun _ _ _ h => h) (Or.inl ⟨by rfl, ?hy7⟩) HSW.out ?rest7
      case hy7 =>
        intro w hSw
        have d0 := hSw.1
        go_simp <;> with_reducible rfl
      try simp only [Act.put, List.setIfInBounds_toArray, List.set_cons_zero, List.set_cons_succ]
      refine hl_take (v := ?v8) 8 rfl (by kernel_rfl) (fun _ _ _ h => h) (Or.inl ⟨by rfl, ?hy8⟩) HSW.out ?rest8
      case hy8 =>
        intro w hSw
        have d0 := hSw.1
        go_simp <;> with_reducible rfl
      try simp only [Act.put, List.setIfInBounds_toArray, List.set_cons_zero, List.set_cons_succ]
      refine hl_take (v := ?v9) 9 rfl (by kernel_rfl) (fun _ _ _ h => h) (Or.inl ⟨by rfl, ?hy9⟩) HSW.out ?rest9
      case hy9 =>
        intro w hSw
        have d0 := hSw.1
        go_simp <;> with_reducible rfl
      try simp only [Act.put, List.setIfInBounds_toArray, List.set_cons_zero, List.set_cons_succ]
      refine hl_take (v := ?v10) 10 rfl (by kernel_rfl) (fun _ _ _ h => h) (Or.inl ⟨by rfl, ?hy10⟩) HSW.out ?rest10
      case hy10 =>
        intro w hSw
        have d0 := hSw.1
        go_simp <;> with_reducible rfl
      try simp only [Act.put, List.setIfInBounds_toArray, List.set_cons_zero, List.set_cons_succ]
      refine hl_take (v := ?v11) 11 rfl (by kernel_rfl) (fun _ _ _ h => h) (Or.inl ⟨by rfl, ?hy11⟩) HSW.out ?rest11
      case hy11 =>
        intro w hSw
        have d0 := hSw.1
        go_simp <;> with_reducible rfl
      try simp only [Act.put, List.setIfInBounds_toArray, List.set_cons_zero, List.set_cons_succ]
      refine hl_take (v := ?v12) 12 rfl (by kernel_rfl) (fun _ _ _ h => h) (Or.inl ⟨by rfl, ?hy12⟩) HSW.out ?rest12
      case hy12 =>
        intro w hSw
        have d0 := hSw.1
        go_simp <;> with_reducible rfl
      try simp only [Act.put, List.setIfInBounds_toArray, List.set_cons_zero, List.set_cons_succ]
      refine hl_one 13 rfl (by kernel_rfl) (fun K hK => ?_)
      go_simp
      refine Calls.mono (HPW.out _ HSB.out) ?_
      rintro e w2 ⟨rfl, hb2⟩
      have HSB2 := Lib.hid (HSB.out.trans (hb2.mono HSB.out.size))
      have hB2 := HB.out.trans (HSB2.out.mono HB.out.size)
      have HSW := Lib.hid (And.intro ((hB2.cell (p := ⟨zb, zo + j, none⟩) hzb).trans HDW.out) hB2)
      refine hK.out _ _ HSW.out ?_
      clear hK hb2 hB2
      try simp only [Act.put, List.setIfInBounds_toArray, List.set_cons_zero, List.set_cons_succ]
      refine hl_one 14 rfl (by kernel_rfl) (fun K hK => ?_)
      go_simp
      have HSB3 := Lib.hid (HSB2.out.alloc HSB2.out.size (smO C))
      have hB2 := HSW.out.2.alloc HSW.out.2.size (smO C)
      have HSW2 := Lib.hid (And.intro ((hB2.cell (p := ⟨zb, zo + j, none⟩) hzb).trans HDW.out) hB2)
      refine hK.out _ _ HSW2.out ?_
      clear hK hB2
      try simp only [Act.put, List.setIfInBounds_toArray, List.set_cons_zero, List.set_cons_succ]
      refine hl_one 15 rfl (by kernel_rfl) (fun K hK => ?_)
      refine wp_append_own _ (.tmp 12) (.tmp 26) _ rfl w.heap.size 112 i0 _ 5 40 Tryd.underlying49 HI.out.1 HI.out.2.1 HI.out.2.2.1 HI.out.2.2.2 rfl (by decide) (.slice a' n' c') n' _ rfl (own_bl HR.out HSB3.out) ⟨w2.heap.size, 0, none⟩ 1 1 (smC C) rfl rfl (sm_new_cells w2 C) (smC_one C) (by unfold maxLen; omega) (by omega) HSW2.out.2.size (fun v' w4 hown hgrow _ => ?_)
      obtain ⟨g', c2, rfl⟩ := own_some hown (by omega)
      have HB4 := Lib.hid (HSW2.out.2.grown hgrow HSW2.out.2.size (fun k hk => ((own_bl HR.out HSB3.out).lt k hk).1))
      have HR4 := Lib.hid (show SRow w.heap.size (n' + 1) (.slice (some ⟨g', 0, none⟩) (n' + 1) c2) (known ++ [C]) w4 from by unfold SRow; rw [flat_app]; exact hown)
      refine hK.out _ _ ⟨(HB4.out.cell (p := ⟨zb, zo + j, none⟩) hzb).trans HDW.out, HB4.out⟩ ?_
      clear hK hown hgrow
      try simp only [Act.put, List.setIfInBounds_toArray, List.set_cons_zero, List.set_cons_succ]
      refine hl_done (by kernel_rfl) ?_
      go_simp
      go_wp2
      go_roundw
      case rel => exact ⟨j + 1, by omega, by go_num, Lib.hid ⟨HB4.out, _, _, _, rfl, by rw [HT2.out]; exact HR4.out⟩⟩
      case measure => simp [intOf]; omega
    · obtain rfl : j = n := by omega
      have HB2 := Lib.hid hbl
      have HR2 := Lib.hid hrow
      clear hbl hrow hs
      go_wp2
      go_ret
      exact ⟨HB2.out, a', n', c', rfl, by rw [← HE.out]; exact HR2.out⟩
end Go.Proofs.YtnehaidkhpjpbaaDoor
namespace Go.Proofs.YtnehaidkhpjpbaaDoor
open Go.ChangeShapes Go.WideShapes Go.ChangeAt Go.RowKit
theorem sr_nil (w w1 : World) (h : w.heap.size ≤ w1.heap.size) : SRow w.heap.size 0 (.slice (some ⟨w1.heap.size, 0, none⟩) 0 0) [] (w1.alloc (.cells #[] 112)) :=
  World.ownsRow_lit (base := w.heap.size) (e := 112) (size := 5) w1 #[] 0 h (Nat.zero_le _) rfl
set_option maxHeartbeats 1000000 in
theorem specCostsOf_any (a : Option Addr) (c : Nat) (ls : List (List Ins)) (ks : List Int) (k : Option Addr) (kc : Nat) (hm : ls.length ≤ maxLen) (hl : ∀ j, j < ls.length → (ls.getD j []).length ≤ maxLen) (hk : ks.length ≤ maxLen) (w : World) (hz : Routs w a ls) (hy : Lies w k (kC ks)) :
    Calls Tryd.prog 30 #[.slice a ls.length c, .slice k ks.length kc] w (CostPost ls ks w) := by
  have HV := Lib.hid (specVerifyAll_any a c ls ks k kc hm hl hk w hz hy)
  have HF := Lib.hid (fun (h0 : (allF ls ks).2.2 = 0) (w1 : World) (hb : Below w.heap.size w w1) => l05Costs_any a c ls ks w1 h0 (hz.below hb))
  unfold maxLen at hm hk
  clear hz hy hl
  by_cases h1 : 4096 < ls.length ∨ 4096 < ks.length
  · have HAF : allF ls ks = (0, 0, 2) := if_pos h1
    have HP : Hid (∀ e w', Below w.heap.size w w' → (∃ a, e = .returned (.tuple #[.slice a 0 0, .int .i64 2]) ∧ SRow w.heap.size 0 (.slice a 0 0) [] w') → CostPost ls ks w e w') := Lib.hid (fun e w' h1 ⟨a, h2, h3⟩ => ⟨h1, a, 0, 0, by rw [HAF]; exact h2, by unfold costR; rw [HAF]; exact h3⟩)
    generalize CostPost ls ks w = POST at *
    clear HAF HV HF
    by_cases h2 : 4096 < ls.length
    · clear h1
      generalize ls.length = n at *
      generalize ks.length = m at *
      go_enter Tryd.func30, Tryd.ntmps30
      go_wp2
      exact HP.out _ _ (sm_al _ _) ⟨_, rfl, sr_nil w w (Nat.le_refl _)⟩
    · have h3 : 4096 < ks.length := by omega
      clear h1
      generalize ls.length = n at *
      generalize ks.length = m at *
      go_enter Tryd.func30, Tryd.ntmps30
      go_wp2
      exact HP.out _ _ (sm_al _ _) ⟨_, rfl, sr_nil w w (Nat.le_refl _)⟩
  have hz1 : ¬ 4096 < ls.length := by omega
  have hk1 : ¬ 4096 < ks.length := by omega
  clear h1
  by_cases h0 : (allF ls ks).2.2 = 0
  · have HR : Hid (costR ls ks = costsL ls) := Lib.hid (if_pos h0)
    have HF1 := Lib.hid (HF.out h0)
    have HP : Hid (∀ e w', (Below w.heap.size w w' ∧ ∃ a n c, e = .returned (.tuple #[.slice a n c, .int .i64 0]) ∧ SRow w.heap.size n (.slice a n c) (costsL ls) w') → CostPost ls ks w e w') := Lib.hid (fun e w' ⟨h1, a, n, c, h2, h3⟩ => ⟨h1, a, n, c, by rw [h0]; exact h2, by rw [HR.out]; exact h3⟩)
    rw [h0] at HV
    generalize CostPost ls ks w = POST at *
    generalize (allF ls ks).1 = u at *
    generalize (allF ls ks).2.1 = v at *
    clear h0 HF HR
    generalize ls.length = n at *
    generalize ks.length = m at *
    go_enter Tryd.func30, Tryd.ntmps30
    go_wp2_with fail
    refine Calls.mono HV.out ?_
    rintro e w1 ⟨rfl, hb1⟩
    have Hb1 := Lib.hid hb1
    clear hb1
    go_wp2_with fail
    refine Calls.mono (HF1.out w1 Hb1.out) ?_
    rintro e w2 ⟨hb2, a2, n2, c2, rfl, hr2⟩
    have HB2 := Lib.hid (Hb1.out.trans (hb2.mono Hb1.out.size))
    have HR2 := Lib.hid (own_base hr2 Hb1.out.size)
    clear hb2 hr2
    go_wp2
    exact HP.out _ _ ⟨HB2.out, a2, n2, c2, rfl, HR2.out⟩
  · have HR : Hid (costR ls ks = []) := Lib.hid (if_neg h0)
    have HP : Hid (∀ e w', Below w.heap.size w w' → (∃ a, e = .returned (.tuple #[.slice a 0 0, .int .i64 (allF ls ks).2.2]) ∧ SRow w.heap.size 0 (.slice a 0 0) [] w') → CostPost ls ks w e w') := Lib.hid (fun e w' h1 ⟨a, h2, h3⟩ => ⟨h1, a, 0, 0, h2, by rw [HR.out]; exact h3⟩)
    have hne : ((allF ls ks).2.2 != 0) = true := by rw [bne_iff_ne]; exact h0
    generalize CostPost ls ks w = POST at *
    generalize (allF ls ks).1 = u at *
    generalize (allF ls ks).2.1 = v at *
    generalize (allF ls ks).2.2 = z at *
    clear h0 HF HR
    generalize ls.length = n at *
    generalize ks.length = m at *
    go_enter Tryd.func30, Tryd.ntmps30
    go_wp2_with fail
    refine Calls.mono HV.out ?_
    rintro e w1 ⟨rfl, hb1⟩
    have Hb1 := Lib.hid hb1
    clear hb1
    go_wp2
    exact HP.out _ _ (Hb1.out.alloc Hb1.out.size _) ⟨_, rfl, sr_nil w w1 Hb1.out.size⟩
end Go.Proofs.YtnehaidkhpjpbaaDoor
namespace Go.Proofs.YtnehaidkhpjpbaaDoor
open Go.ChangeShapes Go.WideShapes Go.ChangeAt Go.RowKit
set_option linter.unusedVariables false
theorem eqSummary_same (a : SM) (w : World) : Calls Tryd.prog 74 #[smV a, smV a] w fun e w' => e = .returned (.bool true) ∧ Below w.heap.size w w' := by
  obtain ⟨t, n, h, l, i⟩ := a
  go_enter Tryd.func74, Tryd.ntmps74
  go_wp2
  go_ret
  exact ⟨rfl, ((Below.refl w.heap.size w).alloc (Nat.le_refl _) _).alloc (by simp) _⟩
/-- The five cells of a summary in a row. -/
abbrev C5 (b o : Nat) (u : SM) (X : World) : Prop := X.cell? ⟨b, o, none⟩ = some (.int .i64 u.t) ∧ X.cell? ⟨b, o + 1, none⟩ = some (.int .i64 u.n) ∧ X.cell? ⟨b, o + 2, none⟩ = some (.int .i64 u.h) ∧ X.cell? ⟨b, o + 3, none⟩ = some (.int .i64 u.l) ∧ X.cell? ⟨b, o + 4, none⟩ = some (.int .i64 u.i)
theorem C5.bel {b o B : Nat} {u : SM} {X Y : World} (h : C5 b o u X) (hb : Below B X Y) (hl : b < B) : C5 b o u Y :=
  ⟨(hb.cell (p := ⟨b, o, none⟩) hl).trans h.1, (hb.cell (p := ⟨b, o + 1, none⟩) hl).trans h.2.1, (hb.cell (p := ⟨b, o + 2, none⟩) hl).trans h.2.2.1, (hb.cell (p := ⟨b, o + 3, none⟩) hl).trans h.2.2.2.1, (hb.cell (p := ⟨b, o + 4, none⟩) hl).trans h.2.2.2.2⟩
set_option maxRecDepth 100000 in
set_option maxHeartbeats 1000000 in
theorem eqSummaryS_same (l : List SM) (a b : Option Addr) (c d : Nat) (hn : l.length ≤ 1048576) (w : World) (hz : Lies w a (flat smC l)) (hy : Lies w b (flat smC l)) :
    Calls Tryd.prog 32 #[.slice a l.length c, .slice b l.length d] w fun e w' => e = .returned (.bool true) ∧ Below w.heap.size w w' := by
  have Hz := Lib.hid hz
  have Hy := Lib.hid hy
  clear hz hy
  generalize hL : l.length = n at *
  have HL := Lib.hid hL
  clear hL
  have hs : ((n : Int) != n) = false := by simp
  go_enter Tryd.func32, Tryd.ntmps32
  go_wp2
  go_loopw [5] (fun i wr => ∃ k : Nat, k ≤ n ∧ i = .int .i64 k ∧ Hid (Below w.heap.size w wr)) (fun i _ => n - (intOf i).toNat)
  case atStart => exact ⟨0, Nat.zero_le _, rfl, Lib.hid (Below.refl _ _)⟩
  case round =>
    obtain ⟨k, hk, rfl, hb⟩ := hrel
    by_cases hlt : k < n
    · obtain ⟨b1, o1, rfl, hb1, hc1⟩ := Hz.out.open (by rw [flat_len smC_len, HL.out]; omega)
      obtain ⟨b2, o2, rfl, hb2, hc2⟩ := Hy.out.open (by rw [flat_len smC_len, HL.out]; omega)
      have e1 : C5 b1 (o1 + k * 5) (l.getD k (one 0 false)) w := sum_at hc1 (by rw [HL.out]; exact hlt)
      have e2 : C5 b2 (o2 + k * 5) (l.getD k (one 0 false)) w := sum_at hc2 (by rw [HL.out]; exact hlt)
      clear hc1 hc2
      generalize l.getD k (one 0 false) = u at *
      have HE := Lib.hid (fun w => eqSummary_same u w)
      have HSW := Lib.hid (show C5 b1 (o1 + k * 5) u wr.drew ∧ C5 b2 (o2 + k * 5) u wr.drew from ⟨e1.bel (sm_dr hb.out) hb1, e2.bel (sm_dr hb.out) hb2⟩)
      clear e1 e2
      go_wp2_with fail
      refine wp_region_hl 9 (fun X => C5 b1 (o1 + k * 5) u X ∧ C5 b2 (o2 + k * 5) u X) (by kernel_rfl) rfl rfl (by kernel_rfl) ?_
      refine hl_take (v := ?v0) 0 rfl (by kernel_rfl) (fun _ _ _ h => h) (Or.inl ⟨by rfl, ?hy0⟩) HSW.out ?rest0
      case hy0 =>
        intro w hSw
        obtain ⟨⟨c0, c1, c2, c3, c4⟩, d0, d1, d2, d3, d4⟩ := hSw
        go_simp <;> with_reducible rfl
      try simp only [Act.put, List.setIfInBounds_toArray, List.set_cons_zero, List.set_cons_succ]
      refine hl_take (v := ?v1) 1 rfl (by kernel_rfl) (fun _ _ _ h => h) (Or.inl ⟨by rfl, ?hy1⟩) HSW.out ?rest1
      case hy1 =>
        intro w hSw
        obtain ⟨⟨c0, c1, c2, c3, c4⟩, d0, d1, d2, d3, d4⟩ := hSw
        go_simp <;> with_reducible rfl
      try simp only [Act.put, List.setIfInBounds_toArray, List.set_cons_zero, List.set_cons_succ]
      refine hl_take (v := ?v2) 2 rfl (by kernel_rfl) (fun _ _ _ h => h) (Or.inl ⟨by rfl, ?hy2⟩) HSW.out ?rest2
      case hy2 =>
        intro w hSw
        obtain ⟨⟨c0, c1, c2, c3, c4⟩, d0, d1, d2, d3, d4⟩ := hSw
        go_simp <;> with_reducible rfl
      try simp only [Act.put, List.setIfInBounds_toArray, List.set_cons_zero, List.set_cons_succ]
      refine hl_take (v := ?v3) 3 rfl (by kernel_rfl) (fun _ _ _ h => h) (Or.inl ⟨by rfl, ?hy3⟩) HSW.out ?rest3
      case hy3 =>
        intro w hSw
        obtain ⟨⟨c0, c1, c2, c3, c4⟩, d0, d1, d2, d3, d4⟩ := hSw
        go_simp <;> with_reducible rfl
      try simp only [Act.put, List.setIfInBounds_toArray, List.set_cons_zero, List.set_cons_succ]
      refine hl_take (v := ?v4) 4 rfl (by kernel_rfl) (fun _ _ _ h => h) (Or.inl ⟨by rfl, ?hy4⟩) HSW.out ?rest4
      case hy4 =>
        intro w hSw
        obtain ⟨⟨c0, c1, c2, c3, c4⟩, d0, d1, d2, d3, d4⟩ := hSw
        go_simp <;> with_reducible rfl
      try simp only [Act.put, List.setIfInBounds_toArray, List.set_cons_zero, List.set_cons_succ]
      refine hl_take (v := ?v5) 5 rfl (by kernel_rfl) (fun _ _ _ h => h) (Or.inl ⟨by rfl, ?hy5⟩) HSW.out ?rest5
      case hy5 =>
        intro w hSw
        obtain ⟨⟨c0, c1, c2, c3, c4⟩, d0, d1, d2, d3, d4⟩ := hSw
        go_simp <;> with_reducible rfl
      try simp only [Act.put, List.setIfInBounds_toArray, List.set_cons_zero, List.set_cons_succ]
      refine hl_take (v := ?v6) 6 rfl (by kernel_rfl) (fun _ _ _ h => h) (Or.inl ⟨by rfl, ?hy6⟩) HSW.out ?rest6
      case hy6 =>
        intro w hSw
        obtain ⟨⟨c0, c1, c2, c3, c4⟩, d0, d1, d2, d3, d4⟩ := hSw
        go_simp <;> with_reducible rfl
      try simp only [Act.put, List.setIfInBounds_toArray, List.set_cons_zero, List.set_cons_succ]
      refine hl_take (v := ?v7) 7 rfl (by kernel_rfl) (fun _ _ _ h => h) (Or.inl ⟨by rfl, ?hy7⟩) HSW.out ?rest7
      case hy7 =>
        intro w hSw
        obtain ⟨⟨c0, c1, c2, c3, c4⟩, d0, d1, d2, d3, d4⟩ := hSw
        go_simp <;> with_reducible rfl
      try simp only [Act.put, List.setIfInBounds_toArray, List.set_cons_zero, List.set_cons_succ]
      refine hl_one 8 rfl (by kernel_rfl) (fun K hK => ?_)
      go_simp
      refine Calls.mono (HE.out _) ?_
      rintro e w2 ⟨rfl, hb3⟩
      have hwd : w.heap.size ≤ wr.drew.heap.size := hb.out.size
      refine hK.out _ _ ⟨HSW.out.1.bel hb3 (by omega), HSW.out.2.bel hb3 (by omega)⟩ ?_
      have Hb3 := Lib.hid ((sm_dr hb.out).trans (hb3.mono hwd))
      clear hK hb3
      try simp only [Act.put, List.setIfInBounds_toArray, List.set_cons_zero, List.set_cons_succ]
      refine hl_done (by kernel_rfl) ?_
      go_simp
      go_wp2
      go_roundw
      all_goals first | exact ⟨k + 1, by omega, by go_num, Hb3⟩ | (simp [intOf]; omega)
    · obtain rfl : k = n := by omega
      go_wp2
      go_ret
      exact ⟨rfl, hb.out⟩
/-- What mark leaves: the numbers from m on, one a field. -/
def markS (m : Int) (k : Nat) : SM := ⟨m + 5 * k, m + 5 * k + 1, m + 5 * k + 1 + 1, m + 5 * k + 1 + 1 + 1, m + 5 * k + 1 + 1 + 1 + 1⟩
def marksS (m : Int) : Nat → List SM
  | 0 => []
  | k + 1 => marksS m k ++ [markS m k]
theorem marksS_len (m : Int) (k : Nat) : (marksS m k).length = k := by
  induction k with
  | zero => rfl
  | succ k ih => simp [marksS, ih]
theorem marksS_at (m : Int) : ∀ (n k : Nat), k < n → (marksS m n)[k]? = some (markS m k)
  | n + 1, k, h => by
    by_cases e : k < n
    · rw [marksS, List.getElem?_append_left (by rw [marksS_len]; exact e)]
      exact marksS_at m n k e
    · obtain rfl : k = n := by omega
      rw [marksS, List.getElem?_append_right (by rw [marksS_len]; exact Nat.le_refl _), marksS_len]
      simp
set_option maxHeartbeats 1000000 in
theorem markSummaryS_any (B g n cap : Nat) (xs : List Value) (m : Int) (hm : 0 ≤ m ∧ m ≤ 1000000000) (hn : n ≤ 1048576) (w : World) (ho : w.ownsRow B 112 5 (.slice (some ⟨g, 0, none⟩) n cap) n xs) :
    Calls Tryd.prog 34 #[.slice (some ⟨g, 0, none⟩) n cap, .int .i64 m] w fun e w' => e = .returned (.int .i64 (m + 5 * n)) ∧ w'.ownsRow B 112 5 (.slice (some ⟨g, 0, none⟩) n cap) n (flat smC (marksS m n)) ∧ w.grownBy w' (some g) := by
  have Ho := Lib.hid (Filled.zero (enc := smC) (zs := marksS m n) ho)
  clear ho
  go_enter Tryd.func34, Tryd.ntmps34
  go_wp2
  go_loopw [1, 5] (fun q i wr => ∃ k : Nat, k ≤ n ∧ i = .int .i64 k ∧ q = .int .i64 (m + 5 * k) ∧ Hid (Filled smC 5 wr B 112 g n cap (marksS m n) k) ∧ Hid (w.grownBy wr (some g))) (fun _ i _ => n - (intOf i).toNat)
  case atStart => exact ⟨0, Nat.zero_le _, rfl, by go_num, Ho, Lib.hid (World.grownBy.refl _ _)⟩
  case round =>
    obtain ⟨k, hk, rfl, rfl, ho, hg⟩ := hrel
    by_cases hlt : k < n
    · obtain ⟨v0, e0⟩ := ho.out.there hlt 0 (by omega)
      obtain ⟨v1, e1⟩ := ho.out.there hlt 1 (by omega)
      obtain ⟨v2, e2⟩ := ho.out.there hlt 2 (by omega)
      obtain ⟨v3, e3⟩ := ho.out.there hlt 3 (by omega)
      obtain ⟨v4, e4⟩ := ho.out.there hlt 4 (by omega)
      have f0 := ho.out.free (k * 5)
      have f1 := ho.out.free (k * 5 + 1)
      have f2 := ho.out.free (k * 5 + 2)
      have f3 := ho.out.free (k * 5 + 3)
      have f4 := ho.out.free (k * 5 + 4)
      obtain ⟨hs, hg2⟩ := ho.out.store smC_len (marksS_len m n) (marksS_at m n k hlt)
      have Hs : Hid (Filled smC 5 (((((wr.setCell ⟨g, k * 5, none⟩ (.int .i64 (m + 5 * k))).setCell ⟨g, k * 5 + 1, none⟩ (.int .i64 (m + 5 * k + 1))).setCell ⟨g, k * 5 + 2, none⟩ (.int .i64 (m + 5 * k + 1 + 1))).setCell ⟨g, k * 5 + 3, none⟩ (.int .i64 (m + 5 * k + 1 + 1 + 1))).setCell ⟨g, k * 5 + 4, none⟩ (.int .i64 (m + 5 * k + 1 + 1 + 1 + 1))) B 112 g n cap (marksS m n) (k + 1)) := Lib.hid hs
      have Hg : Hid (w.grownBy (((((wr.setCell ⟨g, k * 5, none⟩ (.int .i64 (m + 5 * k))).setCell ⟨g, k * 5 + 1, none⟩ (.int .i64 (m + 5 * k + 1))).setCell ⟨g, k * 5 + 2, none⟩ (.int .i64 (m + 5 * k + 1 + 1))).setCell ⟨g, k * 5 + 3, none⟩ (.int .i64 (m + 5 * k + 1 + 1 + 1))).setCell ⟨g, k * 5 + 4, none⟩ (.int .i64 (m + 5 * k + 1 + 1 + 1 + 1))) (some g)) := Lib.hid (row_tr hg.out hg2)
      clear hs hg2
      rw [Nat.add_zero] at e0
      go_wp2
      go_roundw
      case rel => exact ⟨k + 1, by omega, by go_num, by go_num, Hs, Hg⟩
      case measure => simp [intOf]; omega
    · obtain rfl : k = n := by omega
      go_wp2
      go_ret
      exact ⟨rfl, ho.out.full (marksS_len m k), hg.out⟩
def MarkSPost (B n : Nat) (v : Value) (m : Int) (w : World) (e : Ending) (w' : World) : Prop :=
  e = .returned (.int .i64 (m + 5 * n)) ∧ w'.ownsRow B 112 5 v n (flat smC (marksS m n)) ∧ w.grownBy w' v.ownBlock
theorem markSummaryS_own (B n c : Nat) (a : Option Addr) (xs : List Value) (m : Int) (hm : 0 ≤ m ∧ m ≤ 1000000000) (hn : n ≤ 1048576) (w : World) (ho : w.ownsRow B 112 5 (.slice a n c) n xs) :
    Calls Tryd.prog 34 #[.slice a n c, .int .i64 m] w (MarkSPost B n (.slice a n c) m w) := by
  rcases own_form ho with ⟨hv, rfl⟩ | ⟨g, c', hv⟩
  · simp only [Value.slice.injEq] at hv
    obtain ⟨rfl, _, rfl⟩ := hv
    clear ho
    go_enter Tryd.func34, Tryd.ntmps34
    go_wp2
    go_loop [1, 5] (fun q i => q = .int .i64 m ∧ i = .int .i64 0) (fun _ i => 0)
    case atStart => exact ⟨rfl, rfl⟩
    case round =>
      obtain ⟨rfl, rfl⟩ := hrel
      go_wp2
      go_ret
      exact ⟨by simp, World.ownsRow_nil _ _ _ _, World.grownBy.refl _ _⟩
  · simp only [Value.slice.injEq] at hv
    obtain ⟨rfl, _, rfl⟩ := hv
    exact (markSummaryS_any B g n c xs m hm hn w ho).mono fun _ _ h => h
set_option maxHeartbeats 1000000 in
theorem heldSummaryS_any (n cap : Nat) (a : Option Addr) (m : Int) (hm : 0 ≤ m ∧ m ≤ 1000000000) (hn : n ≤ 1048576) (w : World) (hz : Lies w a (flat smC (marksS m n))) :
    Calls Tryd.prog 35 #[.slice a n cap, .int .i64 m] w fun e w' => e = .returned (.int .i64 (m + 5 * n)) ∧ w = w' := by
  have Hz := Lib.hid hz
  clear hz
  go_enter Tryd.func35, Tryd.ntmps35
  go_wp2
  go_loop [1, 5] (fun q i => ∃ k : Nat, k ≤ n ∧ i = .int .i64 k ∧ q = .int .i64 (m + 5 * k)) (fun _ i => n - (intOf i).toNat)
  case atStart => exact ⟨0, Nat.zero_le _, rfl, by go_num⟩
  case round =>
    obtain ⟨k, hk, rfl, rfl⟩ := hrel
    by_cases hlt : k < n
    · obtain ⟨b, o, rfl, hbl, hcs⟩ := Hz.out.open (by rw [flat_len smC_len, marksS_len]; omega)
      have e1 : C5 b (o + k * 5) ((marksS m n).getD k (one 0 false)) w := sum_at hcs (by rw [marksS_len]; exact hlt)
      have hx : (marksS m n).getD k (one 0 false) = markS m k := by rw [List.getD, marksS_at m n k hlt]; rfl
      rw [hx] at e1
      obtain ⟨c0, c1, c2, c3, c4⟩ := e1
      dsimp only [markS] at c0 c1 c2 c3 c4
      clear hcs hx
      go_wp2
      go_round
      case rel => exact ⟨k + 1, by omega, by go_num, by go_num⟩
      case measure => simp [intOf]; omega
    · obtain rfl : k = n := by omega
      go_wp2
      go_ret
      exact ⟨rfl, rfl⟩
end Go.Proofs.YtnehaidkhpjpbaaDoor
namespace Go.Proofs.YtnehaidkhpjpbaaDoor
open Go.ChangeShapes Go.WideShapes Go.ChangeAt Go.RowKit
set_option linter.unusedVariables false
theorem cl_rlt {w : World} {B size n c : Nat} {e : TypeId} {a : Option Addr} {xs : List Value} (h : w.ownsRow B e size (.slice a n c) n xs) : ∀ x, a = some x → x.block < w.heap.size := fun x e => (h.lt x.block (by rw [e]; rfl)).2
theorem cl_rge {w : World} {B size n c : Nat} {e : TypeId} {a : Option Addr} {xs : List Value} (h : w.ownsRow B e size (.slice a n c) n xs) : ∀ x, a = some x → B ≤ x.block := fun x e => (h.lt x.block (by rw [e]; rfl)).1
theorem cl_off {w w' : World} {B size n c : Nat} {row : Option Nat} {e : TypeId} {a : Option Addr} {xs : List Value} (h : w.ownsRow B e size (.slice a n c) n xs) (hg : w.grownBy w' row) (hd : ∀ x, a = some x → row ≠ some x.block) : w'.ownsRow B e size (.slice a n c) n xs :=
  h.kept hg (by
    cases a with
    | none => exact .inl rfl
    | some x => exact .inr (fun q => hd x rfl q.symm))
theorem cost_len (ls : List (List Ins)) (ks : List Int) : (costR ls ks).length ≤ 6 := by
  unfold costR
  split
  · rename_i h
    rw [costsL_len]
    exact (all_ok h).1
  · simp
set_option maxRecDepth 100000 in
set_option maxHeartbeats 4000000 in
theorem FnExactCostsOf_came (a : Option Addr) (n c : Nat) (k : Option Addr) (m kc : Nat) (W : World) (h : Came Tryd.prog W 33 [.slice a n c]) (hk : Came Tryd.prog W 23 [.slice k m kc]) (hf : OpTab W ∧ EffTab W ∧ FbTab W) :
    Calls Tryd.prog 7 #[.slice a n c, .slice k m kc] W fun e w' => e = .returned (.bool true) ∧ Below W.heap.size W w' := by
  obtain ⟨hT, hE, hF⟩ := hf
  obtain ⟨hm, ls, rfl, hz, hlm⟩ := came_rts h
  obtain ⟨hm2, _, ks, rfl, hy⟩ := came_ks hk
  clear h hk
  have hmm := hm
  have hmm2 := hm2
  unfold maxLen at hmm hmm2
  by_cases hk2 : (1048576 : Int) < ks.length
  · clear hz hy hT hE hF hm hm2 hlm
    generalize ls.length = n at *
    generalize ks.length = m at *
    go_enter Tryd.func7, Tryd.ntmps7
    go_wp2
    go_ret
    exact ⟨rfl, Below.refl _ _⟩
  have Hz := Lib.hid hz
  have Hy := Lib.hid hy
  have HT : Hid (∀ w, Below W.heap.size W w → VTabs w) := Lib.hid (fun w hb => (VTabs.mk hT hE hF).below hb (Nat.le_refl _))
  have HS : Hid (Calls Tryd.prog 18 #[.slice a ls.length c, .int .i64 1048576] W fun e w' => ∃ v : Int, e = .returned (.int .i64 v) ∧ Below W.heap.size W w' ∧ (v < 0 ∨ 0 ≤ v ∧ v ≤ 1048576 ∧ ls.length + sumL ls ls.length ≤ 1048576)) := Lib.hid ((szRoutineS_sum ls a c 1048576 (by omega) hm hlm W hz).mono fun e w' h => h)
  have HA := Lib.hid (fun (hs : ls.length + sumL ls ls.length ≤ 1048576) w hz => (toRoutineSO_any ls a c (by omega) (fun j hj => by have := sumL_each hj; omega) w hz).mono (R' := fun e w' => e = .returned (.slice (some ⟨w.heap.size, 0, none⟩) ls.length ls.length) ∧ ROwn w.heap.size w'.heap.size ls w' ∧ Below w.heap.size w w') fun e w' h => h)
  have HA2 := Lib.hid (fun w hz => toIntS_any ks k kc (by omega) w hz)
  have HB0 := Lib.hid (fun a c k kc w hz hy => (specCostsOf_any a c ls ks k kc hm hlm hm2 w hz hy).mono (R' := fun e w' => ∃ a' c', e = .returned (.tuple #[.slice a' (costR ls ks).length c', .int .i64 (allF ls ks).2.2]) ∧ w'.ownsRow w.heap.size 112 5 (.slice a' (costR ls ks).length c') (costR ls ks).length (flat smC (costR ls ks)) ∧ Below w.heap.size w w') fun e w' ⟨h1, a', n', c', h2, h3⟩ => by
    have hn : n' = (costR ls ks).length := by
      have := h3.1
      rw [flat_len smC_len] at this
      omega
    subst hn
    exact ⟨a', c', h2, h3, h1⟩)
  have HC := Lib.hid (fun a c k kc w ht hz hy => (costsOf_any a c ls ks k kc hm hlm hm2 w ht hz hy).mono (R' := fun e w' => ∃ a' c', e = .returned (.tuple #[.slice a' (costR ls ks).length c', .int .i64 (allF ls ks).2.2]) ∧ w'.ownsRow w.heap.size 112 5 (.slice a' (costR ls ks).length c') (costR ls ks).length (flat smC (costR ls ks)) ∧ Below w.heap.size w w') fun e w' ⟨h1, a', n', c', h2, h3⟩ => by
    have hn : n' = (costR ls ks).length := by
      have := h3.1
      rw [flat_len smC_len] at this
      omega
    subst hn
    exact ⟨a', c', h2, h3, h1⟩)
  have HEI := Lib.hid (fun (hs : ls.length + sumL ls ls.length ≤ 1048576) a b c d w hz hy => eqRoutineS_same ls a b c d (by omega) (fun j hj => by have := sumL_each hj; omega) w hz hy)
  have HEK := Lib.hid (fun a b c d w hz hy => eqIntS_same ks a b c d (by omega) w hz hy)
  have HMR := Lib.hid (fun (hs : ls.length + sumL ls ls.length ≤ 1048576) B hi w ho => markRoutineS_any B hi ls 1 (by omega) (by omega) (by omega) w ho)
  have hsb : ∀ (hs : ls.length + sumL ls ls.length ≤ 1048576), sumL ls ls.length ≤ 1048576 := fun hs => by omega
  have hcl := cost_len ls ks
  clear hz hy hT hE hF hm hm2 hlm
  generalize (allF ls ks).2.2 = y at *
  generalize sumL ls ls.length = S at *
  have e2 : (y != y) = false := by simp
  generalize costR ls ks = FS at *
  have HE := Lib.hid (fun a b c d w hz hy => eqSummaryS_same FS a b c d (by omega) w hz hy)
  have HSB := Lib.hid hsb
  clear hsb
  generalize hp : FS.length = u at *
  have HP := Lib.hid hp
  clear hp
  generalize ls.length = n at *
  generalize hq : ks.length = m at *
  have HQ := Lib.hid hq
  clear hq
  go_enter Tryd.func7, Tryd.ntmps7
  go_wp2_with fail
  refine Calls.mono HS.out ?_
  rintro e w0 ⟨v, rfl, hb, hv⟩
  have HB := Lib.hid hb
  clear hb
  by_cases hv0 : v < 0
  · clear hv
    go_wp2
    go_ret
    exact ⟨rfl, HB.out⟩
  obtain ⟨hv1, hv2, hsum⟩ : 0 ≤ v ∧ v ≤ 1048576 ∧ n + S ≤ 1048576 := by
    rcases hv with h | h
    · exact absurd h hv0
    · exact h
  have HSU := Lib.hid hsum
  have hS := HSB.out hsum
  clear hv hsum
  go_wp2_with fail
  refine Calls.mono (HA.out HSU.out _ (Hz.out.below HB.out)) ?_
  rintro e w1 ⟨rfl, ho, hb⟩
  have HB := Lib.hid (HB.out.trans (hb.mono HB.out.size))
  have S0 := Lib.hid (ho.routs)
  clear ho hb
  go_wp2_with fail
  refine Calls.mono (HA2.out _ (Hy.out.below HB.out (Nat.le_refl _))) ?_
  rintro e w2 ⟨rfl, ho, hb⟩
  have HB := Lib.hid (HB.out.trans (hb.mono HB.out.size))
  have S0 := Lib.hid (S0.out.below hb)
  have S1 := Lib.hid (lies_own ho)
  clear ho hb
  go_wp2_with fail
  refine Calls.mono (HB0.out _ _ _ _ _ S0.out S1.out) ?_
  rintro e w3 ⟨a3, c3, rfl, ho, hb⟩
  have HB := Lib.hid (HB.out.trans (hb.mono HB.out.size))
  have HC0 := Lib.hid (lies_own ho)
  have HW : Hid (Below w3.heap.size w3 w3) := Lib.hid (Below.refl _ _)
  have H3 := Lib.hid (show W.heap.size ≤ w3.heap.size from HB.out.size)
  have HLV := Lib.hid (fun w' (hb : Below w3.heap.size w3 w') => HC0.out.below hb (Nat.le_refl _))
  clear ho hb
  go_wp2_with fail
  refine Calls.mono (HA.out HSU.out _ (Hz.out.below HB.out)) ?_
  rintro e w4 ⟨rfl, ho, hb⟩
  have HB := Lib.hid (HB.out.trans (hb.mono HB.out.size))
  have HW := Lib.hid (HW.out.trans (hb.mono HW.out.size))
  have X0 := Lib.hid (ho)
  have X0B := Lib.hid (show w3.heap.size < w4.heap.size from by obtain ⟨rs, _, h2, _⟩ := ho.rows; exact (h2.lt _ rfl).2)
  clear ho hb
  go_wp2_with fail
  refine Calls.mono (HA2.out _ (Hy.out.below HB.out (Nat.le_refl _))) ?_
  rintro e w5 ⟨rfl, ho, hb⟩
  have HB := Lib.hid (HB.out.trans (hb.mono HB.out.size))
  have HW := Lib.hid (HW.out.trans (hb.mono HW.out.size))
  have X0 := Lib.hid (X0.out.bel hb)
  have X1 := Lib.hid (ho)
  have X1B := Lib.hid (show w4.heap.size < w5.heap.size from (ho.lt _ rfl).2)
  clear ho hb
  go_wp2_with fail
  refine Calls.mono (HC.out _ _ _ _ _ (HT.out _ HB.out) X0.out.routs (lies_own X1.out)) ?_
  rintro e w6 ⟨a6, c6, rfl, ho, hb⟩
  have HB := Lib.hid (HB.out.trans (hb.mono HB.out.size))
  have HW := Lib.hid (HW.out.trans (hb.mono HW.out.size))
  have X0 := Lib.hid (X0.out.bel hb)
  have X1 := Lib.hid (own_bl X1.out hb)
  have GB := Lib.hid (cl_rge ho)
  have G := Lib.hid (ho)
  clear ho hb
  go_wp2_with fail
  refine Calls.mono (HE.out _ _ _ _ _ (lies_own G.out) (HLV.out _ HW.out)) ?_
  rintro e w7 ⟨rfl, hb⟩
  have HB := Lib.hid (HB.out.trans (hb.mono HB.out.size))
  have HW := Lib.hid (HW.out.trans (hb.mono HW.out.size))
  have X0 := Lib.hid (X0.out.bel hb)
  have X1 := Lib.hid (own_bl X1.out hb)
  have G := Lib.hid (own_bl G.out hb)
  clear hb
  go_wp2_with fail
  refine Calls.mono (HA.out HSU.out _ (Hz.out.below HB.out)) ?_
  rintro e w8 ⟨rfl, ho, hb⟩
  have HB := Lib.hid (HB.out.trans (hb.mono HB.out.size))
  have HW := Lib.hid (HW.out.trans (hb.mono HW.out.size))
  have X0 := Lib.hid (X0.out.bel hb)
  have X1 := Lib.hid (own_bl X1.out hb)
  have G := Lib.hid (own_bl G.out hb)
  have T := Lib.hid (ho.routs)
  clear ho hb
  go_wp2_with fail
  refine Calls.mono (HEI.out HSU.out _ _ _ _ _ X0.out.routs T.out) ?_
  rintro e w9 ⟨rfl, hb⟩
  have HB := Lib.hid (HB.out.trans (hb.mono HB.out.size))
  have HW := Lib.hid (HW.out.trans (hb.mono HW.out.size))
  have X0 := Lib.hid (X0.out.bel hb)
  have X1 := Lib.hid (own_bl X1.out hb)
  have G := Lib.hid (own_bl G.out hb)
  clear hb
  go_wp2_with fail
  refine Calls.mono (HA2.out _ (Hy.out.below HB.out (Nat.le_refl _))) ?_
  rintro e w10 ⟨rfl, ho, hb⟩
  have HB := Lib.hid (HB.out.trans (hb.mono HB.out.size))
  have HW := Lib.hid (HW.out.trans (hb.mono HW.out.size))
  have X0 := Lib.hid (X0.out.bel hb)
  have X1 := Lib.hid (own_bl X1.out hb)
  have G := Lib.hid (own_bl G.out hb)
  have T := Lib.hid (lies_own ho)
  clear ho hb
  go_wp2_with fail
  refine Calls.mono (HEK.out _ _ _ _ _ (lies_own X1.out) T.out) ?_
  rintro e w11 ⟨rfl, hb⟩
  have HB := Lib.hid (HB.out.trans (hb.mono HB.out.size))
  have HW := Lib.hid (HW.out.trans (hb.mono HW.out.size))
  have X0 := Lib.hid (X0.out.bel hb)
  have X1 := Lib.hid (own_bl X1.out hb)
  have G := Lib.hid (own_bl G.out hb)
  clear hb
  go_wp2_with fail
  refine Calls.mono (HMR.out HSU.out _ _ _ X0.out) ?_
  rintro e w12 ⟨rfl, hg⟩
  have HBL := Lib.hid (hg.below HW.out.size)
  have HB := Lib.hid (HB.out.trans (HBL.out.mono H3.out))
  have X1 := Lib.hid (hg.own X1.out (fun x e => by simp only [Option.some.injEq] at e; rw [← e]; exact .inr (Nat.le_refl _)))
  have G := Lib.hid (hg.own G.out (fun x e => by have h1 := GB.out x e; have h3 := X1B.out; exact .inr (by omega)))
  have HW := Lib.hid (HW.out.trans HBL.out)
  clear hg
  go_wp2_with fail
  refine Calls.mono (markIntS_own _ _ _ _ _ (1 + 2 * S) (by omega) (by omega) _ X1.out) ?_
  rintro e w13 ⟨rfl, _, hg⟩
  have HB := Lib.hid (HB.out.grown hg HB.out.size (fun q hq => by have h1 := X0B.out; have h2 := H3.out; simp only [Value.ownBlock, Option.some.injEq] at hq; omega))
  have HW := Lib.hid (HW.out.grown hg HW.out.size (fun q hq => by have h1 := X0B.out; simp only [Value.ownBlock, Option.some.injEq] at hq; omega))
  have G := Lib.hid (cl_off G.out hg (fun x e q => by have h1 := GB.out x e; have h3 := X1B.out; simp only [Value.ownBlock, Option.some.injEq] at q; omega))
  clear hg
  have hk1 : ¬ ((1 : Int) + 2 * S + m < 0) := by omega
  go_wp2_with fail
  refine Calls.mono (HE.out _ _ _ _ _ (lies_own G.out) (HLV.out _ HW.out)) ?_
  rintro e w14 ⟨rfl, hb⟩
  have HB := Lib.hid (HB.out.trans (hb.mono HB.out.size))
  have HW := Lib.hid (HW.out.trans (hb.mono HW.out.size))
  have G := Lib.hid (own_bl G.out hb)
  clear hb
  go_wp2_with fail
  refine Calls.mono (markSummaryS_own _ _ _ _ _ 1 (by omega) (by omega) _ G.out) ?_
  rintro e w15 ⟨rfl, ho, hg⟩
  have HB := Lib.hid (HB.out.grown hg HB.out.size (fun q hq => by
    cases a6 with
    | none => cases hq
    | some x => simp only [Value.ownBlock, Option.some.injEq] at hq; have h1 := GB.out x rfl; have h2 := X0B.out; have h3 := X1B.out; have h4 := H3.out; omega))
  have HW := Lib.hid (HW.out.grown hg HW.out.size (fun q hq => by
    cases a6 with
    | none => cases hq
    | some x => simp only [Value.ownBlock, Option.some.injEq] at hq; have h1 := GB.out x rfl; have h2 := X0B.out; have h3 := X1B.out; omega))
  have G := Lib.hid ho
  clear ho hg
  have hk2 : ¬ ((1 : Int) + 5 * u < 0) := by omega
  have hk3 : ((1 : Int) + 5 * u != 1 + 5 * u) = false := by simp
  go_wp2_with fail
  refine Calls.mono (heldSummaryS_any _ _ _ 1 (by omega) (by omega) _ (lies_own G.out)) ?_
  rintro e w16 ⟨rfl, rfl⟩
  go_wp2_with fail
  refine Calls.mono (HA.out HSU.out _ (Hz.out.below HB.out)) ?_
  rintro e w17 ⟨rfl, ho, hb⟩
  have HB := Lib.hid (HB.out.trans (hb.mono HB.out.size))
  have HW := Lib.hid (HW.out.trans (hb.mono HW.out.size))
  have G := Lib.hid (own_bl G.out hb)
  have S0 := Lib.hid (ho.routs)
  clear ho hb
  go_wp2_with fail
  refine Calls.mono (HA2.out _ (Hy.out.below HB.out (Nat.le_refl _))) ?_
  rintro e w18 ⟨rfl, ho, hb⟩
  have HB := Lib.hid (HB.out.trans (hb.mono HB.out.size))
  have HW := Lib.hid (HW.out.trans (hb.mono HW.out.size))
  have G := Lib.hid (own_bl G.out hb)
  have S0 := Lib.hid (S0.out.below hb)
  have S1 := Lib.hid (lies_own ho)
  clear ho hb
  go_wp2_with fail
  refine Calls.mono (HC.out _ _ _ _ _ (HT.out _ HB.out) S0.out S1.out) ?_
  rintro e w19 ⟨a19, c19, rfl, ho, hb⟩
  have HB := Lib.hid (HB.out.trans (hb.mono HB.out.size))
  have HW := Lib.hid (HW.out.trans (hb.mono HW.out.size))
  have G := Lib.hid (own_bl G.out hb)
  have G2 := Lib.hid (ho)
  clear ho hb
  go_wp2_with fail
  refine Calls.mono (HE.out _ _ _ _ _ (lies_own G2.out) (HLV.out _ HW.out)) ?_
  rintro e w20 ⟨rfl, hb⟩
  have HB := Lib.hid (HB.out.trans (hb.mono HB.out.size))
  have HW := Lib.hid (HW.out.trans (hb.mono HW.out.size))
  have G := Lib.hid (own_bl G.out hb)
  have G2 := Lib.hid (own_bl G2.out hb)
  clear hb
  go_wp2_with fail
  refine Calls.mono (heldSummaryS_any _ _ _ 1 (by omega) (by omega) _ (lies_own G.out)) ?_
  rintro e w21 ⟨rfl, rfl⟩
  go_wp2
  go_ret
  exact ⟨rfl, HB.out⟩
end Go.Proofs.YtnehaidkhpjpbaaDoor
