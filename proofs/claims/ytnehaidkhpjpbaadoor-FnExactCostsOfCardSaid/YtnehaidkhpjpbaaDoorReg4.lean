/- One instruction read: the method read of impl. -/
import Derived.Test.YtnehaidkhpjpbaaDoorReg3
import Derived.IntWalk
namespace Go.Proofs.YtnehaidkhpjpbaaDoor
open Go.ChangeShapes Go.WideShapes Go.ChangeAt Go.RowKit
set_option linter.unusedVariables false
theorem own_some {w : World} {B n size : Nat} {e : TypeId} {v : Value} {xs : List Value} (h : w.ownsRow B e size v n xs) (hn : 0 < n) : ∃ g c, v = .slice (some ⟨g, 0, none⟩) n c := by
  rcases h.2 with ⟨_, h0⟩ | ⟨g, cap, cur, e, _⟩
  · omega
  · exact ⟨g, cap, e⟩
theorem rg_new_cells (w : World) (r : RG) : ∀ j u, (rgC r)[j]? = some u → (w.alloc (rgO r)).cell? ((⟨w.heap.size, 0, none⟩ : Addr).add j) = some u := fun j u hj =>
  (World.ownsRow_lit (base := w.heap.size) (e := 193) (size := 12) w (rgC r).toArray 1 (Nat.le_refl _) (by unfold maxLen; omega) rfl).cells (g := w.heap.size) rfl j u (by simpa using hj)
theorem rgC_one (r : RG) : ∀ u ∈ rgC r, u.oneCell' = true := by
  intro u hu
  simp only [rgC, List.mem_cons, List.not_mem_nil, or_false] at hu
  rcases hu with rfl | rfl | rfl | rfl | rfl | rfl | rfl | rfl | rfl | rfl | rfl | rfl <;> rfl
theorem ticks_any (k : Nat) (y : Int) (h1 : 1 ≤ k) (h2 : k ≤ 26) (w : World) (ht : OpTab w) : Calls Tryd.prog 165 #[.agg #[.int .i64 (k : Int), .int .i64 y]] w fun e w' => e = .returned (.int .i64 (tick (k : Int))) ∧ Below w.heap.size w w' := by
  have HB := Lib.hid (sm_al w (inO k y))
  have ht2 := ht.below HB.out (Nat.le_refl _)
  have hc1 := (ht2 k (by omega)).2.1
  rw [tick_op h1 h2] at hc1
  have hk1 : (k : Int) < 27 := by omega
  clear ht ht2
  go_enter Tryd.func165, Tryd.ntmps165
  go_wp2
  go_ret
  exact ⟨rfl, HB.out⟩
def ReadPost (B : Nat) (known : List SM) (b : List RG) (top : RG) (x : Ins) (w : World) (e : Ending) (w' : World) : Prop :=
  Below B w w' ∧ ∃ g n c, e = .returned (.slice (some ⟨g, 0, none⟩) n c) ∧ RRow B g n c (rgStep known b top x) w'
set_option maxRecDepth 100000 in
set_option maxHeartbeats 2000000 in
theorem read_any (B : Nat) (ka : Option Addr) (kn kc : Nat) (known : List SM) (g m c : Nat) (b : List RG) (top : RG) (k : Nat) (y : Int) (w : World) (hB : B ≤ w.heap.size) (hG : 0 < B) (ht : OpTab w) (hk : Kn B ka known w) (hkl : known.length = kn) (hko : ∀ a ∈ known, a.ok)
    (hrow : RRow B g (m + 1) c (b ++ [top]) w) (hgood : ∀ r ∈ b ++ [top], r.good) (h1 : 1 ≤ k) (h2 : k ≤ 26) (h24 : k = 24 → 1 ≤ y ∧ y ≤ 20) (h23 : k = 23 → b ≠ []) (h26 : k = 26 → 0 ≤ y ∧ y < kn) (hm : m ≤ 4) :
    Calls Tryd.prog 147 #[.slice ka kn kc, .slice (some ⟨g, 0, none⟩) (m + 1) c, .agg #[.int .i64 (k : Int), .int .i64 y]] w (ReadPost B known b top ((k : Int), y) w) := by
  have hb := rr_len hrow
  simp at hb
  have hcap : m + 1 ≤ c := by
    rcases hrow.2 with ⟨h0, _⟩ | ⟨g', cap, cur, e, _, _, hc, _⟩
    · simp at h0
    · simp only [Value.slice.injEq] at e
      omega
  have hat := rr_at hrow
  rw [hb] at hat
  have hg : top.good := hgood top (by simp)
  have htk := tick_rng (k : Int)
  have ho : (one (tick (k : Int)) ((k : Int) == 25)).ok := one_ok (by omega) _
  have HADD := Lib.hid (fun w h => add_any g (m * 12) top (one (tick (k : Int)) ((k : Int) == 25)) hg.1 ho w h)
  have hc1 := (ht k (by omega)).2.1
  rw [tick_op h1 h2] at hc1
  have h27 : k < 27 := by omega
  have HROW := Lib.hid hrow
  have hgw : g < w.heap.size := (rr_lt hrow).2
  have HAT := Lib.hid hat
  have HK := Lib.hid hk
  have HGOOD := Lib.hid hgood
  have HT := Lib.hid ht
  have HKO := Lib.hid hko
  clear hrow hat hk hgood ht htk ho hko
  go_enter Tryd.func147, Tryd.ntmps147
  go_upto_region 2 with (fail)
  have HW0 : Hid (RRow B g (m + 1) c (b ++ [top]) (w.alloc (inO k y)) ∧ Below B w (w.alloc (inO k y)) ∧ (w.alloc (inO k y)).heap[w.heap.size]? = some (inO k y)) := Lib.hid ⟨own_bl HROW.out (sm_al w _), (sm_al w _).mono hB, heap_alloc_new w _⟩
  have HN : Hid (∀ wn, Below (w.alloc (inO k y)).drew.heap.size (w.alloc (inO k y)).drew wn → RRow B g (m + 1) c (b ++ [top]) wn ∧ Below B w wn ∧ wn.heap[w.heap.size]? = some (inO k y) ∧ B ≤ wn.heap.size) :=
    Lib.hid (fun wn hbn => ⟨own_bl (w := (w.alloc (inO k y)).drew) HW0.out.1 hbn, bel_tr (sm_dr HW0.out.2.1) (Nat.le_trans hB (sm_al w _).size) hbn, blk_belR (w1 := (w.alloc (inO k y)).drew) HW0.out.2.2 hbn, Nat.le_trans (Nat.le_trans hB (sm_al w (inO k y)).size) hbn.size⟩)
  have HM := Lib.hid hb
  clear hb
  go_cut [] (fun wx => Hid (RRow B g (m + 1) c (b ++ [top.tk ((k : Int), y)]) wx ∧ Below B w wx ∧ wx.heap[w.heap.size]? = some (inO k y)))
  case first =>
    have hG0 : 0 < w.heap.size := by omega
    have hk0 : (0 : Int) ≤ (k : Int) := by omega
    have hk1 : (k : Int) < 27 := by omega
    have HTK := Lib.hid (ticks_any k y h1 h2 _ ((HT.out.below (sm_al w (inO k y)) (Nat.le_refl _)).below (sm_dr (Below.refl (w.alloc (inO k y)).heap.size (w.alloc (inO k y)))) (Nat.le_refl _)))
    have z0 : (w.alloc (inO k y)).cell? ⟨w.heap.size, 0, none⟩ = some (.int .i64 (k : Int)) := cell_of_row _ _ 0 _ _ _ HW0.out.2.2
    have z1 : (w.alloc (inO k y)).cell? ⟨w.heap.size, 1, none⟩ = some (.int .i64 y) := cell_of_row _ _ 1 _ _ _ HW0.out.2.2
    go_region_with (first
      | (go_at_call 165; (with_reducible refine HTK.out.mono ?_); rintro e wt ⟨rfl, hbt⟩; have q0 := cell_of_row wt w.heap.size 0 _ _ _ (blk_belR (w1 := (w.alloc (inO k y)).drew) HW0.out.2.2 hbt))
      | (go_at_call 164; (with_reducible refine (oneCost_any _ _ _).mono ?_); rintro e wn ⟨rfl, hbo⟩; have hbn := hbt.trans (hbo.mono hbt.size); clear hbo)
      | (go_at_call 163; (with_reducible refine (HADD.out _ (rr_atm (HN.out _ hbn).1 HM.out)).mono ?_); intro e wz hpz; have hz := rr_addm (HN.out _ hbn).1 HM.out (HN.out _ hbn).2.2.2 hpz; have hz3 := add_oth hpz (HN.out _ hbn).2.2.1 (by omega); obtain ⟨rfl, hz1, hz2⟩ := hz))
    all_goals
      have HZ := Lib.hid (And.intro hz1 (And.intro ((HN.out _ hbn).2.1.trans hz2) hz3))
      go_wp2_with fail
      go_meet
      exact Lib.hid HZ.out
  case rest =>
    have HW := hcut
    have b0 : wc.cell? ⟨w.heap.size, 0, none⟩ = some (.int .i64 (k : Int)) := cell_of_row _ _ 0 _ _ _ HW.out.2.2
    have b1 : wc.cell? ⟨w.heap.size, 1, none⟩ = some (.int .i64 y) := cell_of_row _ _ 1 _ _ _ HW.out.2.2
    have hzw : w.heap.size < wc.heap.size := (Array.getElem?_eq_some_iff.1 HW.out.2.2).1
    clear hcut HADD HN HW0 hc1
    by_cases e21 : k = 21 ∨ k = 24
    · have HS : Hid (rgStep known b top ((k : Int), y) = b ++ [top.tk ((k : Int), y)] ++ [rgNew ((k : Int), y)]) := Lib.hid (if_pos (by show (k : Int) = 21 ∨ (k : Int) = 24; omega))
      obtain ⟨i0, hi, hz0, hz1, hz2⟩ := info_parts (show (Tryd.prog.info? 193).map (fun i => (i.zero, i.size, i.bytes)) = some (some (.agg #[.int .i64 0, .int .i64 0, .int .i64 0, .int .i64 0, .int .i64 0, .int .i64 0, .int .i64 0, .int .i64 0, .int .i64 0, .int .i64 0, .int .i64 0, .int .i64 0]), 12, 96) by kernel_rfl)
      have HI := Lib.hid (And.intro hi (And.intro hz0 (And.intro hz1 hz2)))
      clear hi hz0 hz1 hz2 h24 h23 h26
      rcases e21 with rfl | rfl
      all_goals
        go_wp2_with fail
        refine Calls.mono (newRegion_any _ _ _) ?_
        rintro e w1 ⟨rfl, hb1⟩
        have HW1 := Lib.hid (And.intro (own_bl HW.out.1 hb1) (bel_tr HW.out.2.1 (by omega) hb1))
        have hz1 : B ≤ w1.heap.size := by have := hb1.size; omega
        clear hb1 b0 b1 hzw
        go_wp2_with (at_builtin; (refine wpList_append_own _ rfl _ _ 190 rfl B 193 i0 _ 12 96 Tryd.underlying190 HI.out.1 HI.out.2.1 HI.out.2.2.1 HI.out.2.2.2 rfl (by decide) (.slice (some ⟨g, 0, none⟩) (m + 1) c) (m + 1) _ rfl (HW1.out.1.alloc _) ⟨w1.heap.size, 0, none⟩ 1 1 (rgC (rgNew _)) rfl rfl (rg_new_cells w1 (rgNew _)) (rgC_one _) (by unfold maxLen; omega) (by omega) (by simp; omega) ?_); intro v' w2 hown hgrow _)
        obtain ⟨g', c', rfl⟩ := own_some hown (by omega)
        go_ret
        exact ⟨(HW1.out.2.alloc hz1 _).grown hgrow (by simp; omega) (fun k hk => (HW1.out.1.lt k hk).1), g', m + 1 + 1, c', rfl, by rw [HS.out]; unfold RRow; rw [flat_snoc]; exact hown⟩
    by_cases e22 : k = 22
    · subst e22
      have HS : Hid (rgStep known b top (((22 : Nat) : Int), y) = b ++ [⟨top.x, one 0 false, (top.tk (((22 : Nat) : Int), y)).own⟩]) := Lib.hid rfl
      have HN : Hid (∀ wn, Below wc.drew.heap.size wc.drew wn → RgAt wn g (m * 12) (top.tk (((22 : Nat) : Int), y))) := Lib.hid (fun wn hbn => rr_atm (own_bl (w := wc.drew) HW.out.1 hbn) HM.out)
      have hA := rr_atm HW.out.1 HM.out
      unfold RgAt at hA
      clear h24 h23 h26 e21
      go_wp2
      go_split_ands
      go_region_with (go_at_call 162; (with_reducible refine (nothing_any _).mono ?_); rintro e wn ⟨rfl, hbn⟩; have k2 := HN.out _ hbn; unfold RgAt at k2; go_split_ands)
      all_goals
        have HZ := Lib.hid (rr_else (w := wc.drew) HW.out.1 HM.out (show B ≤ wc.heap.size by omega) hbn (one 0 false) (top.tk (((22 : Nat) : Int), y)).own)
        go_wp2
        go_ret
        exact ⟨(sm_dr HW.out.2.1).trans HZ.out.2, g, m + 1, c, rfl, by rw [HS.out]; exact HZ.out.1⟩
    by_cases e23 : k = 23
    · subst e23
      rcases snoc_cases b with hb0 | ⟨b', p, hbp⟩
      · exact absurd hb0 (h23 rfl)
      subst hbp
      obtain ⟨m', rfl⟩ : ∃ m', m = m' + 1 := ⟨b'.length, by have := HM.out; simp at this; omega⟩
      have HM' : Hid (b'.length = m') := Lib.hid (by have := HM.out; simp at this; omega)
      have HS : Hid (rgStep known (b' ++ [p]) top (((23 : Nat) : Int), y) = b' ++ [p.add (top.tk (((23 : Nat) : Int), y)).whole]) := Lib.hid (by
        unfold rgStep
        rw [if_neg (by simp), if_neg (by simp), if_pos (by simp)]
        simp)
      have hgt : (top.tk (((23 : Nat) : Int), y)).good := (HGOOD.out top (by simp)).tk _
      have hgp : p.good := HGOOD.out p (by simp)
      have HWH := Lib.hid (fun w h => whole_any g ((m' + 1) * 12) (top.tk (((23 : Nat) : Int), y)) hgt w h)
      have HAD := Lib.hid (fun w h => add_any g (m' * 12) p (top.tk (((23 : Nat) : Int), y)).whole hgp.1 hgt.whole w h)
      have HN : Hid (∀ wn, Below wc.drew.heap.size wc.drew wn → RRow B g (m' + 1 + 1) c (b' ++ [p] ++ [top.tk (((23 : Nat) : Int), y)]) wn ∧ Below B w wn ∧ B ≤ wn.heap.size) :=
        Lib.hid (fun wn hbn => ⟨own_bl (w := wc.drew) HW.out.1 hbn, bel_tr (sm_dr HW.out.2.1) (by show B ≤ wc.heap.size; omega) hbn, by have := hbn.size; have : wc.heap.size ≤ wn.heap.size := this; omega⟩)
      have HA0 : Hid (RgAt wc.drew g ((m' + 1) * 12) (top.tk (((23 : Nat) : Int), y))) := Lib.hid (rr_atm HW.out.1 HM.out)
      clear h24 h23 h26 e21 e22 hgt hgp
      generalize (top.tk (((23 : Nat) : Int), y)).whole = S at *
      go_wp2
      have w1 : IntKind.i64.wrap ((m' : Int) + 1 + 1 - 2) = (m' : Int) := by rw [IntWalk.i64_in _ (by omega)]; omega
      have w2 : (m' : Int) < (m' : Int) + 1 + 1 := by omega
      have w3 : (0 : Int) ≤ (m' : Int) := by omega
      go_region_with (first
        | (go_at_call 166; (with_reducible refine (HWH.out _ HA0.out).mono ?_); rintro e wn ⟨rfl, hbn⟩)
        | (go_at_call 163; (with_reducible refine (HAD.out _ (rr_atp (HN.out _ hbn).1 HM'.out)).mono ?_); intro e wz hpz; have hz := rr_addp (HN.out _ hbn).1 HM'.out (HN.out _ hbn).2.2 hpz; obtain ⟨rfl, hz1, hz2⟩ := hz))
      all_goals
        have HZ := Lib.hid (And.intro (rr_less hz1 (by have := HM'.out; simp; omega)) ((HN.out _ hbn).2.1.trans hz2))
        go_wp2
        go_ret
        exact ⟨HZ.out.2, g, m' + 1, c, rfl, by rw [HS.out]; exact HZ.out.1⟩
    by_cases e26 : k = 26
    · subst e26
      obtain ⟨y0, y1⟩ := h26 rfl
      obtain ⟨j, rfl⟩ := Int.eq_ofNat_of_zero_le y0
      have hjk : j < known.length := by omega
      have HS : Hid (rgStep known b top (((26 : Nat) : Int), (j : Int)) = b ++ [(top.tk (((26 : Nat) : Int), (j : Int))).add (known.getD j (one 0 false))]) := Lib.hid (by
        unfold rgStep
        rw [if_neg (by simp), if_neg (by simp), if_neg (by simp), if_pos (by simp)]
        rfl)
      have hgt : (top.tk (((26 : Nat) : Int), (j : Int))).good := (HGOOD.out top (by simp)).tk _
      have HAD := Lib.hid (fun w h => add_any g (m * 12) (top.tk (((26 : Nat) : Int), (j : Int))) (known.getD j (one 0 false)) hgt.1 (known_ok HKO.out j) w h)
      obtain ⟨kb, ko, rfl, hkb, k0, k1, k2, k3, k4⟩ := (HK.out.bel HW.out.2.1).at hjk
      generalize known.getD j (one 0 false) = S at *
      clear h24 h23 h26 e21 e22 e23 hgt hjk
      go_wp2_with fail
      refine Calls.mono (HAD.out _ (rr_atm HW.out.1 HM.out)) ?_
      intro e wz hpz
      have hz := rr_addm HW.out.1 HM.out (by omega) hpz
      obtain ⟨rfl, hz1, hz2⟩ := hz
      have HZ := Lib.hid (And.intro hz1 (HW.out.2.1.trans hz2))
      clear hpz hz1 hz2 k0 k1 k2 k3 k4
      go_wp2
      go_ret
      exact ⟨HZ.out.2, g, m + 1, c, rfl, by rw [HS.out]; exact HZ.out.1⟩
    have HS : Hid (rgStep known b top ((k : Int), y) = b ++ [top.tk ((k : Int), y)]) := Lib.hid (by unfold rgStep; rw [if_neg (by show ¬ ((k : Int) = 21 ∨ (k : Int) = 24); omega), if_neg (by show ¬ (k : Int) = 22; omega), if_neg (by show ¬ (k : Int) = 23; omega), if_neg (by show ¬ (k : Int) = 26; omega)])
    have f1 : ((k : Int) == 21) = false := beq_eq_false_iff_ne.2 (by omega)
    have f2 : ((k : Int) == 24) = false := beq_eq_false_iff_ne.2 (by omega)
    have f3 : ((k : Int) == 22) = false := beq_eq_false_iff_ne.2 (by omega)
    have f4 : ((k : Int) == 23) = false := beq_eq_false_iff_ne.2 (by omega)
    have f5 : ((k : Int) == 26) = false := beq_eq_false_iff_ne.2 (by omega)
    clear e21 e22 e23 e26
    go_wp2
    go_ret
    exact ⟨HW.out.2.1, g, m + 1, c, rfl, by rw [HS.out]; exact HW.out.1⟩
end Go.Proofs.YtnehaidkhpjpbaaDoor
