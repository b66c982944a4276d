/- The law of rising pins. (Written by tools/gen_ril.py.) -/
import Derived.Test.YtgbnoaclklbjbaaRiD
import Derived.Test.YtgbnoaclklbjbaaPhj
import Derived.Deep.DeepCutAuto
namespace Go.Proofs.Ytgbnoaclklbjbaa
open Go.ChangeShapes Go.WideShapes Go.ChangeAt Go.RowKit
set_option linter.unusedVariables false
theorem ri_bytes {W : World} {a : Option Addr} {n c : Nat} (h : Came Try.prog W 55 [.slice a n c]) : Bytes0 W W.heap.size a n := by
  obtain ⟨h1, h2⟩ := came_ints Try.underlying55 Try.underlying5 (by kernel_rfl) h
  refine ⟨h1, fun hn => ?_⟩
  obtain ⟨x, e, hx, hc⟩ := h2 hn
  refine ⟨x, e, hx, fun i hi => ?_⟩
  obtain ⟨z, wz, hz⟩ := hc i hi
  have := bounds_u8 wz
  exact ⟨z, this.1, this.2, hz⟩
/-- The drawn rows, in the law's memory. -/
structure KL (W : World) (g c : Nat) (vs : List Value) (w : World) : Prop where
  own : w.ownsRow W.heap.size 45 1 (.slice (some ⟨g, 0, none⟩) 12 c) 12 vs
  all : ∀ x ∈ vs, R8 w W.heap.size x
  bel : Below W.heap.size W w
theorem KL.step {W w w' : World} {g c : Nat} {vs : List Value} (h : KL W g c vs w) (hb : Below w.heap.size w w') : KL W g c vs w' := ⟨own_bl h.own hb, fun x hx => (h.all x hx).bel hb, h.bel.trans (hb.mono h.bel.size)⟩
theorem inputsDrawn_any (a : Option Addr) (n c : Nat) (W : World) (h : Bytes0 W W.heap.size a n) :
    Calls Try.prog 41 #[.slice a n c, .int .i64 12] W fun e w => ∃ g c' vs, vs.length = 12 ∧ e = .returned (.slice (some ⟨g, 0, none⟩) 12 c') ∧ KL W g c' vs w := by
  have HB := Lib.hid h
  clear h
  go_enter Try.func41, Try.ntmps41
  go_wp2_with fail
  refine Calls.mono (source_any a n c W HB.out) ?_
  rintro e w1 ⟨rfl, hS, hb⟩
  have HS := Lib.hid hS
  have HB1 := Lib.hid hb
  clear hS hb
  go_wp2_with fail
  refine Calls.mono (inputs_any _ _ _ _ HS.out (by omega)) ?_
  rintro e w2 ⟨a', c', vs, hl, rfl, ho, hall, hg⟩
  obtain ⟨g, rfl, -⟩ := row_open ho (by omega)
  have HK : Hid (KL W g c' vs w2) := Lib.hid ⟨own_down ho HB1.out.size, (fun x hx => by obtain ⟨a, c, bs, e, h1, h2⟩ := hall x hx; exact ⟨a, c, bs, e, h1, own_down h2 HB1.out.size⟩), HB1.out.grown hg HB1.out.size (fun j hj => by cases hj; exact Nat.le_refl _)⟩
  clear ho hall hg
  go_wp2
  go_ret
  exact ⟨g, c', vs, hl, rfl, HK.out⟩
theorem made8 : (madeCells (Value.bool false).cells (8 * 1)).toList = flat bI (List.replicate 8 false) := by first | rfl | decide | kernel_rfl
def isSl (L : List Int) : HerP := ⟨fun v X => ∃ a c, v = .slice a L.length c ∧ Lies X a (kC L), fun _ _ _ ⟨a, c, h1, h2⟩ hb => ⟨a, c, h1, h2.below hb (Nat.le_refl _)⟩⟩
def isRis (L : List Int) : HerP := ⟨fun v X => ∃ a c, v = .tuple #[.slice a L.length c, .int .i64 0] ∧ Lies X a (kC L), fun _ _ _ ⟨a, c, h1, h2⟩ hb => ⟨a, c, h1, h2.below hb (Nat.le_refl _)⟩⟩
theorem ris_8 {o n : List Bool} (ho : o.length = 8) (hn : n.length = 8) : risF o n = (risL o n 8, 0) := by
  unfold risF
  rw [if_neg (by omega), if_neg (by omega)]
theorem imp8 (o n : List Bool) (ho : o.length = 8) (hn : n.length = 8) (x y : Option Addr) (c d : Nat) (w : World) (hz : Lies w x (flat bI o)) (hy : Lies w y (flat bI n)) :
    Calls Try.prog 30 #[.slice x 8 c, .slice y 8 d] w fun e w' => ∃ a c, e = .returned (.tuple #[.slice a (risL o n 8).length c, .int .i64 0]) ∧ w'.ownsRow w.heap.size 3 1 (.slice a (risL o n 8).length c) (risL o n 8).length (kC (risL o n 8)) ∧ Below w.heap.size w w' := by
  have h := implRisesOf_any o n x y c d (by rw [ho]; decide) (by rw [hn]; decide) w hz hy
  rw [ris_8 ho hn, ho, hn] at h
  exact h
theorem spe8 (o n : List Bool) (ho : o.length = 8) (hn : n.length = 8) (x y : Option Addr) (c d : Nat) (w : World) (hz : Lies w x (flat bI o)) (hy : Lies w y (flat bI n)) :
    Calls Try.prog 28 #[.slice x 8 c, .slice y 8 d] w fun e w' => ∃ a c, e = .returned (.tuple #[.slice a (risL o n 8).length c, .int .i64 0]) ∧ w'.ownsRow w.heap.size 3 1 (.slice a (risL o n 8).length c) (risL o n 8).length (kC (risL o n 8)) ∧ Below w.heap.size w w' := by
  have h := specRisesOf_any o n x y c d (by rw [ho]; decide) (by rw [hn]; decide) w hz hy
  rw [ris_8 ho hn, ho, hn] at h
  exact h
set_option maxRecDepth 100000 in
set_option maxHeartbeats 2000000 in
theorem FnRises_came (a : Option Addr) (n c : Nat) (a1 : Option Addr) (n1 c1 : Nat) (W : World) (h0 : Came Try.prog W 55 [.slice a n c]) (h1 : Came Try.prog W 55 [.slice a1 n1 c1]) :
    Calls Try.prog 11 #[.slice a n c, .slice a1 n1 c1] W fun e w' => e = .returned (.bool true) ∧ Below W.heap.size W w' := by
  have B0 := Lib.hid (ri_bytes h0)
  have B1 := Lib.hid (ri_bytes h1)
  have hn := B0.out.1
  have hn1 := B1.out.1
  unfold maxLen at hn hn1
  clear h0 h1
  by_cases l0 : 1048576 < n
  · go_enter Try.func11, Try.ntmps11
    go_wp2
    go_ret
    exact ⟨rfl, Below.refl _ _⟩
  by_cases l1 : 1048576 < n1
  · have l0' : ¬ (1048576 : Int) < n := by omega
    go_enter Try.func11, Try.ntmps11
    go_wp2
    go_ret
    exact ⟨rfl, Below.refl _ _⟩
  have l0' : ¬ (1048576 : Int) < n := by omega
  have l1' : ¬ (1048576 : Int) < n1 := by omega
  go_enter Try.func11, Try.ntmps11
  go_wp2_with fail
  refine Calls.mono (inputsDrawn_any a n c W B0.out) ?_
  rintro e w1 ⟨g, cl, vs, hl, rfl, hK⟩
  have HK := Lib.hid hK
  clear hK l0 l1 l0' l1' hn hn1 B0 B1
  go_wp2
  go_loopw [6, 7, 8, 9, 10] (fun i u7 u8 u9 u10 wx => ∃ k : Nat, k ≤ 11 ∧ i = .int .i64 ((k : Int) + 1) ∧ Hid (KL W g cl vs wx)) (fun i _ _ _ _ _ => 12 - (intOf i).toNat)
  case atStart => exact ⟨0, by omega, rfl, HK⟩
  case round =>
    rename_i wr
    clear HK
    obtain ⟨k, hk, rfl, HK⟩ := hrel
    by_cases hlt : k < 11
    case neg =>
      obtain rfl : k = 11 := by omega
      have hsw := HK.out.bel.size
      clear hlt hk
      obtain ⟨i0, hi, hz0, hz1, hz2⟩ := info_parts (show (Try.prog.info? 4).map (fun i => (i.zero, i.size, i.bytes)) = some (some (.bool false), 1, 1) by kernel_rfl)
      have HI := Lib.hid (And.intro hi (And.intro hz0 (And.intro hz1 hz2)))
      clear hi hz0 hz1 hz2
      go_wp2_with (at_make; go_must (refine wpList_make_full _ rfl _ _ _ rfl wr.heap.size 4 i0 _ 1 Try.underlying45 HI.out.1 HI.out.2.1 HI.out.2.2.1 .i64 .i64 _ _ 8 rfl rfl rfl rfl (by rw [HI.out.2.2.2]; omega) (by unfold maxLen; omega) (Nat.le_refl _) ?_); intro w2 hown1 hgrow1; have HO1 : Hid (w2.ownsRow wr.heap.size 4 1 (.slice (some ⟨wr.heap.size, 0, none⟩) 8 8) 8 (flat bI (List.replicate 8 false))) := Lib.hid (made8 ▸ hown1); have HK2 := Lib.hid (HK.out.step ((Below.refl wr.heap.size wr).grown hgrow1 (Nat.le_refl _) (by intro k hk; cases hk))); clear hown1 hgrow1)
      refine Calls.mono (imp8 (List.replicate 8 false) (List.replicate 8 true) rfl rfl _ _ _ _ _ (lies_own (own_bl HO1.out (dbox _ _))) (lies_own (World.ownsRow_lit (base := w2.heap.size) (e := 4) (size := 1) w2 #[.bool true, .bool true, .bool true, .bool true, .bool true, .bool true, .bool true, .bool true] 8 (Nat.le_refl _) (by decide) rfl))) ?_
      rintro e w3 ⟨ra, rc, rfl, ho, hb⟩
      have HB := Lib.hid ((HK2.out.step (dbox _ _)).step hb).bel
      rw [show (risL (List.replicate 8 false) (List.replicate 8 true) 8).length = 8 from by decide]
      clear ho hb HO1 HK2
      go_wp2
      go_ret
      exact ⟨rfl, HB.out⟩
    have hg : g < wr.heap.size := (HK.out.own.lt g rfl).2
    have hgW : W.heap.size ≤ g := (HK.out.own.lt g rfl).1
    obtain ⟨a1', c1, bs1, e1, hl1, ho1⟩ := HK.out.all (vs[k]'(by omega)) (List.getElem_mem _)
    obtain ⟨a2, c2, bs2, e2, hl2, ho2⟩ := HK.out.all (vs[k + 1]'(by omega)) (List.getElem_mem _)
    have d1 : wr.cell? ⟨g, k, none⟩ = some (.slice a1' 8 c1) := by rw [HK.out.own.cellAt k (by omega), List.getElem?_eq_getElem (by omega), e1]
    have d2 : wr.cell? ⟨g, k + 1, none⟩ = some (.slice a2 8 c2) := by rw [HK.out.own.cellAt (k + 1) (by omega), List.getElem?_eq_getElem (by omega), e2]
    have HI := Lib.hid (fun x y c d w hz hy => imp8 bs1 bs2 hl1 hl2 x y c d w hz hy)
    have HS := Lib.hid (fun x y c d w hz hy => spe8 bs1 bs2 hl1 hl2 x y c d w hz hy)
    have HL1 := Lib.hid (lies_own ho1)
    have HL2 := Lib.hid (lies_own ho2)
    have hLL := risL_len bs1 bs2 8
    have HD1 := Lib.hid d1
    have HD2 := Lib.hid d2
    clear d1 d2 e1 e2 ho1 ho2
    generalize risL bs1 bs2 8 = L at *
    have HSI := Lib.hid (fun a b c d w hz hy => sameInts_same L a b c d (by omega) w hz hy)
    have hik : ((k : Int) + 1) < 12 := by omega
    go_upto_region 7 with (fail)
    have hi0 : (0 : Int) ≤ (k : Int) := by omega
    go_cut [7, 8] (fun sA sB wx => ∃ ra rc, sA = .slice ra L.length rc ∧ sB = .int .i64 0 ∧ Hid (Below wr.heap.size wr wx ∧ Lies wx ra (kC L)))
    case first =>
      refine wp_region_phj 15 [some 30, some 31, some 32, some 33, some 34, some 35, some 36, some 37, some 38, some 39, some 29, some 40, some 41, some 7, some 8] (fun X => Below wr.heap.size wr X) (herQ [atK 0 (isV (.slice (some ⟨g, 0, none⟩) 12 cl)), atK 1 (isV (.int .i64 ((k : Int) + 1))), atK 2 (isV (.int .i64 (k : Int))), atK 3 (isV (.pointer (some ⟨g, k, none⟩))), atK 4 (isV (.slice a1' 8 c1)), atK 5 (isV (.slice (some ⟨g, 0, none⟩) 12 cl)), atK 6 (isV (.int .i64 ((k : Int) + 1))), atK 7 (isV (.pointer (some ⟨g, k + 1, none⟩))), atK 8 (isV (.slice a2 8 c2)), atK 9 (isRis L), atK 10 (isRis L), atK 11 (isSl L), atK 12 (isV (.int .i64 0)), atK 13 (isSl L), atK 14 (isV (.int .i64 0))]) (herD [atK 0 (isV (.slice (some ⟨g, 0, none⟩) 12 cl)), atK 1 (isV (.int .i64 ((k : Int) + 1))), atK 2 (isV (.int .i64 (k : Int))), atK 3 (isV (.pointer (some ⟨g, k, none⟩))), atK 4 (isV (.slice a1' 8 c1)), atK 5 (isV (.slice (some ⟨g, 0, none⟩) 12 cl)), atK 6 (isV (.int .i64 ((k : Int) + 1))), atK 7 (isV (.pointer (some ⟨g, k + 1, none⟩))), atK 8 (isV (.slice a2 8 c2)), atK 9 (isRis L), atK 10 (isRis L), atK 11 (isSl L), atK 12 (isV (.int .i64 0)), atK 13 (isSl L), atK 14 (isV (.int .i64 0))]) (by kernel_rfl) (by kernel_rfl) (by kernel_rfl) (Below.refl _ _).drew ?steps ?fin
      case steps =>
        refine PjSteps.cons ?s0 (PjSteps.cons ?s1 (PjSteps.cons ?s2 (PjSteps.cons ?s3 (PjSteps.cons ?s4 (PjSteps.cons ?s5 (PjSteps.cons ?s6 (PjSteps.cons ?s7 (PjSteps.cons ?s8 (PjSteps.cons ?s9 (PjSteps.cons ?s10 (PjSteps.cons ?s11 (PjSteps.cons ?s12 (PjSteps.cons ?s13 (PjSteps.cons ?s14 (PjSteps.nil)))))))))))))))
        case s0 =>
          intro v f a X hat hS hv hnk hcl haf K hK
          have ev0 := hat.old 5 (fun k hk => absurd (List.mem_of_getElem? hk) (by decide))
          obtain ⟨tm, df⟩ := a
          go_simp
          exact hK.out _ _ (herQ_at rfl (show _ = _ from rfl)) (herQ_same hv hnk hcl _) hS
        case s1 =>
          intro v f a X hat hS hv hnk hcl haf K hK
          have ev0 := hat.old 6 (fun k hk => absurd (List.mem_of_getElem? hk) (by decide))
          obtain ⟨tm, df⟩ := a
          go_simp
          exact hK.out _ _ (herQ_at rfl (show _ = _ from rfl)) (herQ_same hv hnk hcl _) hS
        case s2 =>
          intro v f a X hat hS hv hnk hcl haf K hK
          have f0 := ph_haf haf 1 (by kernel_rfl)
          have ev0 := hat.done 1 31 f0 rfl
          have h0 := hv 1 f0
          rw [show v 1 = _ from h0] at ev0
          obtain ⟨tm, df⟩ := a
          have wk : IntKind.i64.wrap (k : Int) = (k : Int) := IntWalk.i64_in _ (by omega)
          go_simp
          try rw [wk]
          exact hK.out _ _ (herQ_at rfl (show _ = _ from rfl)) (herQ_same hv hnk hcl _) hS
        case s3 =>
          intro v f a X hat hS hv hnk hcl haf K hK
          have f0 := ph_haf haf 0 (by kernel_rfl)
          have ev0 := hat.done 0 30 f0 rfl
          have h0 := hv 0 f0
          rw [show v 0 = _ from h0] at ev0
          have f1 := ph_haf haf 2 (by kernel_rfl)
          have ev1 := hat.done 2 32 f1 rfl
          have h1 := hv 2 f1
          rw [show v 2 = _ from h1] at ev1
          obtain ⟨tm, df⟩ := a
          go_simp
          rw [if_pos (by omega)]
          go_simp
          exact hK.out _ _ (herQ_at rfl (show _ = _ from rfl)) (herQ_same hv hnk hcl _) hS
        case s4 =>
          intro v f a X hat hS hv hnk hcl haf K hK
          have f0 := ph_haf haf 3 (by kernel_rfl)
          have ev0 := hat.done 3 33 f0 rfl
          have h0 := hv 3 f0
          rw [show v 3 = _ from h0] at ev0
          obtain ⟨tm, df⟩ := a
          have c0 := (hS.cell (p := ⟨g, k, none⟩) hg).trans (HD1.out)
          go_simp
          exact hK.out _ _ (herQ_at rfl (show _ = _ from rfl)) (herQ_same hv hnk hcl _) hS
        case s5 =>
          intro v f a X hat hS hv hnk hcl haf K hK
          have ev0 := hat.old 5 (fun k hk => absurd (List.mem_of_getElem? hk) (by decide))
          obtain ⟨tm, df⟩ := a
          go_simp
          exact hK.out _ _ (herQ_at rfl (show _ = _ from rfl)) (herQ_same hv hnk hcl _) hS
        case s6 =>
          intro v f a X hat hS hv hnk hcl haf K hK
          have ev0 := hat.old 6 (fun k hk => absurd (List.mem_of_getElem? hk) (by decide))
          obtain ⟨tm, df⟩ := a
          go_simp
          exact hK.out _ _ (herQ_at rfl (show _ = _ from rfl)) (herQ_same hv hnk hcl _) hS
        case s7 =>
          intro v f a X hat hS hv hnk hcl haf K hK
          have f0 := ph_haf haf 5 (by kernel_rfl)
          have ev0 := hat.done 5 35 f0 rfl
          have h0 := hv 5 f0
          rw [show v 5 = _ from h0] at ev0
          have f1 := ph_haf haf 6 (by kernel_rfl)
          have ev1 := hat.done 6 36 f1 rfl
          have h1 := hv 6 f1
          rw [show v 6 = _ from h1] at ev1
          obtain ⟨tm, df⟩ := a
          go_simp
          rw [if_pos (by omega)]
          go_simp
          exact hK.out _ _ (herQ_at rfl (show _ = _ from rfl)) (herQ_same hv hnk hcl _) hS
        case s8 =>
          intro v f a X hat hS hv hnk hcl haf K hK
          have f0 := ph_haf haf 7 (by kernel_rfl)
          have ev0 := hat.done 7 37 f0 rfl
          have h0 := hv 7 f0
          rw [show v 7 = _ from h0] at ev0
          obtain ⟨tm, df⟩ := a
          have c0 := (hS.cell (p := ⟨g, k + 1, none⟩) hg).trans (HD2.out)
          go_simp
          exact hK.out _ _ (herQ_at rfl (show _ = _ from rfl)) (herQ_same hv hnk hcl _) hS
        case s9 =>
          intro v f a X hat hS hv hnk hcl haf K hK
          have f0 := ph_haf haf 4 (by kernel_rfl)
          have ev0 := hat.done 4 34 f0 rfl
          have h0 := hv 4 f0
          rw [show v 4 = _ from h0] at ev0
          have f1 := ph_haf haf 8 (by kernel_rfl)
          have ev1 := hat.done 8 38 f1 rfl
          have h1 := hv 8 f1
          rw [show v 8 = _ from h1] at ev1
          obtain ⟨tm, df⟩ := a
          go_simp
          refine Calls.mono (HI.out _ _ _ _ _ (HL1.out.below hS (Nat.le_refl _)) (HL2.out.below hS (Nat.le_refl _))) ?_
          rintro e Y ⟨a, c, rfl, ho, hb⟩
          exact hK.out _ _ (herQ_at rfl (⟨_, _, rfl, lies_own ho⟩)) (herQ_keep hv hnk hcl hb _) (hS.trans (hb.mono hS.size))
        case s10 =>
          intro v f a X hat hS hv hnk hcl haf K hK
          have f0 := ph_haf haf 9 (by kernel_rfl)
          have ev0 := hat.done 9 39 f0 rfl
          obtain ⟨a0, c0, h0, l0⟩ := hv 9 f0
          rw [h0] at ev0
          obtain ⟨tm, df⟩ := a
          go_simp
          exact hK.out _ _ (herQ_at rfl (⟨_, _, rfl, l0⟩)) (herQ_same hv hnk hcl _) hS
        case s11 =>
          intro v f a X hat hS hv hnk hcl haf K hK
          have f0 := ph_haf haf 10 (by kernel_rfl)
          have ev0 := hat.done 10 29 f0 rfl
          obtain ⟨a0, c0, h0, l0⟩ := hv 10 f0
          rw [h0] at ev0
          obtain ⟨tm, df⟩ := a
          go_simp
          exact hK.out _ _ (herQ_at rfl (⟨_, _, rfl, l0⟩)) (herQ_same hv hnk hcl _) hS
        case s12 =>
          intro v f a X hat hS hv hnk hcl haf K hK
          have f0 := ph_haf haf 10 (by kernel_rfl)
          have ev0 := hat.done 10 29 f0 rfl
          obtain ⟨a0, c0, h0, l0⟩ := hv 10 f0
          rw [h0] at ev0
          obtain ⟨tm, df⟩ := a
          go_simp
          exact hK.out _ _ (herQ_at rfl (show _ = _ from rfl)) (herQ_same hv hnk hcl _) hS
        case s13 =>
          intro v f a X hat hS hv hnk hcl haf K hK
          have f0 := ph_haf haf 11 (by kernel_rfl)
          have ev0 := hat.done 11 40 f0 rfl
          obtain ⟨a0, c0, h0, l0⟩ := hv 11 f0
          rw [h0] at ev0
          obtain ⟨tm, df⟩ := a
          go_simp
          exact hK.out _ _ (herQ_at rfl (⟨_, _, rfl, l0⟩)) (herQ_same hv hnk hcl _) hS
        case s14 =>
          intro v f a X hat hS hv hnk hcl haf K hK
          have f0 := ph_haf haf 12 (by kernel_rfl)
          have ev0 := hat.done 12 41 f0 rfl
          have h0 := hv 12 f0
          rw [show v 12 = _ from h0] at ev0
          obtain ⟨tm, df⟩ := a
          go_simp
          exact hK.out _ _ (herQ_at rfl (show _ = _ from rfl)) (herQ_same hv hnk hcl _) hS
      case fin =>
        intro v X hX hv
        obtain ⟨ra, rc, r0, rl⟩ := hv 13 (by decide)
        have r1 := hv 14 (by decide)
        simp only [pjAll, Act.put, List.setIfInBounds_toArray, List.set_cons_zero, List.set_cons_succ]
        rw [show v 13 = _ from r0, show v 14 = _ from r1]
        simp only [phTail, List.drop_succ_cons, List.drop_zero]
        go_wp2_with fail
        go_meet
        exact ⟨ra, rc, rfl, rfl, Lib.hid ⟨hX, rl⟩⟩
    case rest =>
    obtain ⟨ra, rc, rfl, rfl, hc⟩ := hcut
    have HB2 := Lib.hid hc.out.1
    have HLA := Lib.hid hc.out.2
    have HKc := Lib.hid (HK.out.step HB2.out)
    clear hc
    go_upto_region 8 with (fail)
    have hs1 := HB2.out.size
    have hgc : g < wc.heap.size := by omega
    go_cut [9, 10] (fun sA sB wx => ∃ ra rc, sA = .slice ra L.length rc ∧ sB = .int .i64 0 ∧ Hid (Below wc.heap.size wc wx ∧ Lies wx ra (kC L)))
    case first =>
      refine wp_region_phj 15 [some 43, some 44, some 45, some 46, some 47, some 48, some 49, some 50, some 51, some 52, some 42, some 53, some 54, some 9, some 10] (fun X => Below wc.heap.size wc X) (herQ [atK 0 (isV (.slice (some ⟨g, 0, none⟩) 12 cl)), atK 1 (isV (.int .i64 ((k : Int) + 1))), atK 2 (isV (.int .i64 (k : Int))), atK 3 (isV (.pointer (some ⟨g, k, none⟩))), atK 4 (isV (.slice a1' 8 c1)), atK 5 (isV (.slice (some ⟨g, 0, none⟩) 12 cl)), atK 6 (isV (.int .i64 ((k : Int) + 1))), atK 7 (isV (.pointer (some ⟨g, k + 1, none⟩))), atK 8 (isV (.slice a2 8 c2)), atK 9 (isRis L), atK 10 (isRis L), atK 11 (isSl L), atK 12 (isV (.int .i64 0)), atK 13 (isSl L), atK 14 (isV (.int .i64 0))]) (herD [atK 0 (isV (.slice (some ⟨g, 0, none⟩) 12 cl)), atK 1 (isV (.int .i64 ((k : Int) + 1))), atK 2 (isV (.int .i64 (k : Int))), atK 3 (isV (.pointer (some ⟨g, k, none⟩))), atK 4 (isV (.slice a1' 8 c1)), atK 5 (isV (.slice (some ⟨g, 0, none⟩) 12 cl)), atK 6 (isV (.int .i64 ((k : Int) + 1))), atK 7 (isV (.pointer (some ⟨g, k + 1, none⟩))), atK 8 (isV (.slice a2 8 c2)), atK 9 (isRis L), atK 10 (isRis L), atK 11 (isSl L), atK 12 (isV (.int .i64 0)), atK 13 (isSl L), atK 14 (isV (.int .i64 0))]) (by kernel_rfl) (by kernel_rfl) (by kernel_rfl) (Below.refl _ _).drew ?steps ?fin
      case steps =>
        refine PjSteps.cons ?s0 (PjSteps.cons ?s1 (PjSteps.cons ?s2 (PjSteps.cons ?s3 (PjSteps.cons ?s4 (PjSteps.cons ?s5 (PjSteps.cons ?s6 (PjSteps.cons ?s7 (PjSteps.cons ?s8 (PjSteps.cons ?s9 (PjSteps.cons ?s10 (PjSteps.cons ?s11 (PjSteps.cons ?s12 (PjSteps.cons ?s13 (PjSteps.cons ?s14 (PjSteps.nil)))))))))))))))
        case s0 =>
          intro v f a X hat hS hv hnk hcl haf K hK
          have ev0 := hat.old 5 (fun k hk => absurd (List.mem_of_getElem? hk) (by decide))
          obtain ⟨tm, df⟩ := a
          go_simp
          exact hK.out _ _ (herQ_at rfl (show _ = _ from rfl)) (herQ_same hv hnk hcl _) hS
        case s1 =>
          intro v f a X hat hS hv hnk hcl haf K hK
          have ev0 := hat.old 6 (fun k hk => absurd (List.mem_of_getElem? hk) (by decide))
          obtain ⟨tm, df⟩ := a
          go_simp
          exact hK.out _ _ (herQ_at rfl (show _ = _ from rfl)) (herQ_same hv hnk hcl _) hS
        case s2 =>
          intro v f a X hat hS hv hnk hcl haf K hK
          have f0 := ph_haf haf 1 (by kernel_rfl)
          have ev0 := hat.done 1 44 f0 rfl
          have h0 := hv 1 f0
          rw [show v 1 = _ from h0] at ev0
          obtain ⟨tm, df⟩ := a
          have wk : IntKind.i64.wrap (k : Int) = (k : Int) := IntWalk.i64_in _ (by omega)
          go_simp
          try rw [wk]
          exact hK.out _ _ (herQ_at rfl (show _ = _ from rfl)) (herQ_same hv hnk hcl _) hS
        case s3 =>
          intro v f a X hat hS hv hnk hcl haf K hK
          have f0 := ph_haf haf 0 (by kernel_rfl)
          have ev0 := hat.done 0 43 f0 rfl
          have h0 := hv 0 f0
          rw [show v 0 = _ from h0] at ev0
          have f1 := ph_haf haf 2 (by kernel_rfl)
          have ev1 := hat.done 2 45 f1 rfl
          have h1 := hv 2 f1
          rw [show v 2 = _ from h1] at ev1
          obtain ⟨tm, df⟩ := a
          go_simp
          rw [if_pos (by omega)]
          go_simp
          exact hK.out _ _ (herQ_at rfl (show _ = _ from rfl)) (herQ_same hv hnk hcl _) hS
        case s4 =>
          intro v f a X hat hS hv hnk hcl haf K hK
          have f0 := ph_haf haf 3 (by kernel_rfl)
          have ev0 := hat.done 3 46 f0 rfl
          have h0 := hv 3 f0
          rw [show v 3 = _ from h0] at ev0
          obtain ⟨tm, df⟩ := a
          have c0 := (hS.cell (p := ⟨g, k, none⟩) hgc).trans ((HB2.out.cell (p := ⟨g, k, none⟩) hg).trans HD1.out)
          go_simp
          exact hK.out _ _ (herQ_at rfl (show _ = _ from rfl)) (herQ_same hv hnk hcl _) hS
        case s5 =>
          intro v f a X hat hS hv hnk hcl haf K hK
          have ev0 := hat.old 5 (fun k hk => absurd (List.mem_of_getElem? hk) (by decide))
          obtain ⟨tm, df⟩ := a
          go_simp
          exact hK.out _ _ (herQ_at rfl (show _ = _ from rfl)) (herQ_same hv hnk hcl _) hS
        case s6 =>
          intro v f a X hat hS hv hnk hcl haf K hK
          have ev0 := hat.old 6 (fun k hk => absurd (List.mem_of_getElem? hk) (by decide))
          obtain ⟨tm, df⟩ := a
          go_simp
          exact hK.out _ _ (herQ_at rfl (show _ = _ from rfl)) (herQ_same hv hnk hcl _) hS
        case s7 =>
          intro v f a X hat hS hv hnk hcl haf K hK
          have f0 := ph_haf haf 5 (by kernel_rfl)
          have ev0 := hat.done 5 48 f0 rfl
          have h0 := hv 5 f0
          rw [show v 5 = _ from h0] at ev0
          have f1 := ph_haf haf 6 (by kernel_rfl)
          have ev1 := hat.done 6 49 f1 rfl
          have h1 := hv 6 f1
          rw [show v 6 = _ from h1] at ev1
          obtain ⟨tm, df⟩ := a
          go_simp
          rw [if_pos (by omega)]
          go_simp
          exact hK.out _ _ (herQ_at rfl (show _ = _ from rfl)) (herQ_same hv hnk hcl _) hS
        case s8 =>
          intro v f a X hat hS hv hnk hcl haf K hK
          have f0 := ph_haf haf 7 (by kernel_rfl)
          have ev0 := hat.done 7 50 f0 rfl
          have h0 := hv 7 f0
          rw [show v 7 = _ from h0] at ev0
          obtain ⟨tm, df⟩ := a
          have c0 := (hS.cell (p := ⟨g, k + 1, none⟩) hgc).trans ((HB2.out.cell (p := ⟨g, k + 1, none⟩) hg).trans HD2.out)
          go_simp
          exact hK.out _ _ (herQ_at rfl (show _ = _ from rfl)) (herQ_same hv hnk hcl _) hS
        case s9 =>
          intro v f a X hat hS hv hnk hcl haf K hK
          have f0 := ph_haf haf 4 (by kernel_rfl)
          have ev0 := hat.done 4 47 f0 rfl
          have h0 := hv 4 f0
          rw [show v 4 = _ from h0] at ev0
          have f1 := ph_haf haf 8 (by kernel_rfl)
          have ev1 := hat.done 8 51 f1 rfl
          have h1 := hv 8 f1
          rw [show v 8 = _ from h1] at ev1
          obtain ⟨tm, df⟩ := a
          go_simp
          refine Calls.mono (HS.out _ _ _ _ _ (HL1.out.below (HB2.out.trans (hS.mono HB2.out.size)) (Nat.le_refl _)) (HL2.out.below (HB2.out.trans (hS.mono HB2.out.size)) (Nat.le_refl _))) ?_
          rintro e Y ⟨a, c, rfl, ho, hb⟩
          exact hK.out _ _ (herQ_at rfl (⟨_, _, rfl, lies_own ho⟩)) (herQ_keep hv hnk hcl hb _) (hS.trans (hb.mono hS.size))
        case s10 =>
          intro v f a X hat hS hv hnk hcl haf K hK
          have f0 := ph_haf haf 9 (by kernel_rfl)
          have ev0 := hat.done 9 52 f0 rfl
          obtain ⟨a0, c0, h0, l0⟩ := hv 9 f0
          rw [h0] at ev0
          obtain ⟨tm, df⟩ := a
          go_simp
          exact hK.out _ _ (herQ_at rfl (⟨_, _, rfl, l0⟩)) (herQ_same hv hnk hcl _) hS
        case s11 =>
          intro v f a X hat hS hv hnk hcl haf K hK
          have f0 := ph_haf haf 10 (by kernel_rfl)
          have ev0 := hat.done 10 42 f0 rfl
          obtain ⟨a0, c0, h0, l0⟩ := hv 10 f0
          rw [h0] at ev0
          obtain ⟨tm, df⟩ := a
          go_simp
          exact hK.out _ _ (herQ_at rfl (⟨_, _, rfl, l0⟩)) (herQ_same hv hnk hcl _) hS
        case s12 =>
          intro v f a X hat hS hv hnk hcl haf K hK
          have f0 := ph_haf haf 10 (by kernel_rfl)
          have ev0 := hat.done 10 42 f0 rfl
          obtain ⟨a0, c0, h0, l0⟩ := hv 10 f0
          rw [h0] at ev0
          obtain ⟨tm, df⟩ := a
          go_simp
          exact hK.out _ _ (herQ_at rfl (show _ = _ from rfl)) (herQ_same hv hnk hcl _) hS
        case s13 =>
          intro v f a X hat hS hv hnk hcl haf K hK
          have f0 := ph_haf haf 11 (by kernel_rfl)
          have ev0 := hat.done 11 53 f0 rfl
          obtain ⟨a0, c0, h0, l0⟩ := hv 11 f0
          rw [h0] at ev0
          obtain ⟨tm, df⟩ := a
          go_simp
          exact hK.out _ _ (herQ_at rfl (⟨_, _, rfl, l0⟩)) (herQ_same hv hnk hcl _) hS
        case s14 =>
          intro v f a X hat hS hv hnk hcl haf K hK
          have f0 := ph_haf haf 12 (by kernel_rfl)
          have ev0 := hat.done 12 54 f0 rfl
          have h0 := hv 12 f0
          rw [show v 12 = _ from h0] at ev0
          obtain ⟨tm, df⟩ := a
          go_simp
          exact hK.out _ _ (herQ_at rfl (show _ = _ from rfl)) (herQ_same hv hnk hcl _) hS
      case fin =>
        intro v X hX hv
        obtain ⟨ra, rc, r0, rl⟩ := hv 13 (by decide)
        have r1 := hv 14 (by decide)
        simp only [pjAll, Act.put, List.setIfInBounds_toArray, List.set_cons_zero, List.set_cons_succ]
        rw [show v 13 = _ from r0, show v 14 = _ from r1]
        simp only [phTail, List.drop_succ_cons, List.drop_zero]
        go_wp2_with fail
        go_meet
        exact ⟨ra, rc, rfl, rfl, Lib.hid ⟨hX, rl⟩⟩
    case rest =>
    obtain ⟨sa, sc, rfl, rfl, hc⟩ := hcut
    have HB3 := Lib.hid hc.out.1
    have HLB := Lib.hid hc.out.2
    have HLA := Lib.hid (HLA.out.below HB3.out (Nat.le_refl _))
    have HKd := Lib.hid (HKc.out.step HB3.out)
    clear hc HB2 HB3 HL1 HL2 HD1 HD2 HI HS
    go_wp2_with fail
    refine Calls.mono (HSI.out _ _ _ _ _ HLA.out HLB.out) ?_
    rintro e w5 ⟨rfl, hb⟩
    have HK5 := Lib.hid (HKd.out.step hb)
    clear hb
    go_wp2
    go_roundw
    case rel => exact ⟨k + 1, by omega, by go_num, HK5⟩
    case measure => simp [intOf]; omega
end Go.Proofs.Ytgbnoaclklbjbaa
