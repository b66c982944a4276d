/- The kinds of a state's function blocks: kindsIn, KindsOf of impl, l06Kinds, KindsOf of spec. -/
import Derived.Test.YtgiegppakoiaiaaDoorDatLaw
namespace Go.Proofs.YtgiegppakoiaiaaDoor
open Go.ChangeShapes Go.WideShapes Go.ChangeAt Go.RowKit
set_option linter.unusedVariables false
def kindsF (D : Dat) : List Int := D.bl.map (·.1)
theorem kindsF_len (D : Dat) : (kindsF D).length = D.n1 := by simp [kindsF, Dat.n1]
theorem kindsF_at {D : Dat} {k : Nat} (h : k < D.n1) : (kindsF D)[k]? = some (D.bl.getD k f0).1 := by
  unfold Dat.n1 at h
  simp [kindsF, List.getD, h]
theorem Bx.grow {w X Y Z : World} {O : Obj} {row : Option Nat} (h : Bx w O X) (hb : Below X.heap.size X Y) (hg : Y.grownBy Z row) (hr : ∀ g, row = some g → w.heap.size + 1 ≤ g) : Bx w O Z :=
  ⟨(h.to hb).bel.grown hg (h.to hb).bel.size (fun g e => by have := hr g e; omega), (hg.block w.heap.size (Array.getElem?_eq_some_iff.1 (h.to hb).box).1 (fun e => by have := hr _ e.symm; omega)).trans (h.to hb).box⟩
theorem Bx.lt {w X : World} {O : Obj} (h : Bx w O X) : w.heap.size + 1 ≤ X.heap.size := (Array.getElem?_eq_some_iff.1 h.box).1
/-- A slice of integers, the call's own. -/
def IntsPost (l : List Int) (n : Nat) (w : World) (e : Ending) (w' : World) : Prop := ∃ a c, e = .returned (.slice a n c) ∧ w'.ownsRow w.heap.size 3 1 (.slice a n c) n (kC l) ∧ Below w.heap.size w w'
theorem new_cells (w : World) (us : List Value) (t : TypeId) : ∀ (j : Nat) u, us[j]? = some u → (w.alloc (.cells us.toArray t)).cell? ((⟨w.heap.size, 0, none⟩ : Addr).add j) = some u := by
  intro j u hj
  have h := cell_of_row _ w.heap.size j _ _ _ (heap_alloc_new w (.cells us.toArray t))
  have e : (⟨w.heap.size, 0, none⟩ : Addr).add j = ⟨w.heap.size, j, none⟩ := by
    unfold Addr.add
    split
    · rename_i h0; rw [h0]
    · simp
  rw [e, h]
  simpa using hj
set_option maxHeartbeats 1000000 in
theorem kindsIn_any (h : DH) (D : Dat) (hn : D.n1 ≤ 1048576) (w : World) (hz : Lies w h.a1 (flat fC D.bl)) :
    Calls Tryd.prog 80 #[dV h D] w (IntsPost (kindsF D) D.n1 w) := by
  obtain ⟨i0, hi, hz0, hz1, hz2⟩ := info_parts (show (Tryd.prog.info? 3).map (fun i => (i.zero, i.size, i.bytes)) = some (some (.int .i64 0), 1, 8) by kernel_rfl)
  have HI := Lib.hid (And.intro hi (And.intro hz0 (And.intro hz1 hz2)))
  clear hi hz0 hz1 hz2
  obtain ⟨a0, a1, a2, a3, a4, a5, e0', e1, e2, e3, e4, e5⟩ := h
  have HB := Lib.hid (Bx.start w (dO ⟨a0, a1, a2, a3, a4, a5, e0', e1, e2, e3, e4, e5⟩ D 27))
  have HZ := Lib.hid hz
  have HL1 : Hid (D.bl.length = D.n1) := Lib.hid rfl
  have HKF := Lib.hid (kC_flat (kindsF D))
  have HKA := Lib.hid (fun k => @kindsF_at D k)
  have HKL := Lib.hid (kindsF_len D)
  have HP : Hid (∀ a c w', w'.ownsRow w.heap.size 3 1 (.slice a D.n1 c) D.n1 (kC (kindsF D)) → Below w.heap.size w w' → IntsPost (kindsF D) D.n1 w (.returned (.slice a D.n1 c)) w') := Lib.hid (fun a c w' h1 h2 => ⟨a, c, rfl, h1, h2⟩)
  generalize IntsPost (kindsF D) D.n1 w = POST at *
  clear hz
  go_enter Tryd.func80, Tryd.ntmps80
  go_wp2_with (at_make; go_must (refine wpList_make_full _ rfl _ _ _ rfl w.heap.size 3 i0 _ 1 Tryd.underlying23 HI.out.1 HI.out.2.1 HI.out.2.2.1 .i64 .i64 _ _ D.n1 rfl rfl rfl rfl (by rw [HI.out.2.2.2]; omega) (by unfold maxLen; omega) (by simp) ?_); intro w1 hown1 hgrow1; have HB1 := Lib.hid (HB.out.to ((Below.refl _ _).grown hgrow1 (Nat.le_refl _) (by intro k hk; cases hk))); have Ho1 : Hid (Filled kI 1 w1 w.heap.size 3 (w.heap.size + 1) D.n1 D.n1 (kindsF D) 0) := Lib.hid (by simpa using Filled.zero (enc := kI) (zs := kindsF D) hown1); have q1 := cell_of_row w1 w.heap.size 1 _ _ _ HB1.out.box; clear hown1 hgrow1)
  go_loopw [13, 4, 5] (fun i j p wr => ∃ k : Nat, k ≤ D.n1 ∧ i = .int .i64 k ∧ Hid (Filled kI 1 wr w.heap.size 3 (w.heap.size + 1) D.n1 D.n1 (kindsF D) k) ∧ Hid (Bx w (dO ⟨a0, a1, a2, a3, a4, a5, e0', e1, e2, e3, e4, e5⟩ D 27) wr)) (fun i _ _ _ => D.n1 - (intOf i).toNat)
  case atStart => exact ⟨0, Nat.zero_le _, rfl, Ho1, HB1⟩
  case round =>
    obtain ⟨k, hk, rfl, ho, hb⟩ := hrel
    by_cases hlt : k < D.n1
    · obtain ⟨b, o, rfl, hbl, hcs⟩ := HZ.out.open (by rw [flat_len fC_len, HL1.out]; omega)
      have c4 : C4 b (o + k * 4) (D.bl.getD k f0) w := ft_at hcs (by rw [HL1.out]; exact hlt)
      obtain ⟨d0, d1, d2, d3⟩ := c4.bel hb.out.bel hbl
      have HX := Lib.hid (HKA.out k hlt)
      clear hcs c4
      generalize D.bl.getD k f0 = x at *
      obtain ⟨v0, e0⟩ := ho.out.there hlt 0 (by omega)
      have g0 := ho.out.free (k * 1)
      have hzz := cells_lt e0
      simp only at hzz
      obtain ⟨hs, hg⟩ := ho.out.store kI_len HKL.out HX.out
      rw [Nat.mul_one] at hs hg g0
      simp only [Nat.mul_one, Nat.add_zero] at e0
      have Hs : Hid (Filled kI 1 ((wr.setCell ⟨w.heap.size + 1, k, none⟩ (.int .i64 x.1)).alloc (.cells #[.int .i64 x.1, .bool x.2.1, .int .i64 x.2.2.1, .int .i64 x.2.2.2] 86)) w.heap.size 3 (w.heap.size + 1) D.n1 D.n1 (kindsF D) (k + 1)) := Lib.hid (hs.below (dbox _ _))
      have Hg : Hid (Bx w (dO ⟨a0, _, a2, a3, a4, a5, e0', e1, e2, e3, e4, e5⟩ D 27) ((wr.setCell ⟨w.heap.size + 1, k, none⟩ (.int .i64 x.1)).alloc (.cells #[.int .i64 x.1, .bool x.2.1, .int .i64 x.2.2.1, .int .i64 x.2.2.2] 86))) := Lib.hid ((⟨hb.out.bel.setCell (p := ⟨w.heap.size + 1, k, none⟩) (Nat.le_succ _) _, blk_far hb.out.box (by omega) _⟩ : Bx _ _ _).to (dbox _ _))
      clear hs hg
      go_wp2
      go_roundw
      case rel => exact ⟨k + 1, by omega, by go_num, Hs, Hg⟩
      case measure => simp [intOf]; omega
    · obtain rfl : k = D.n1 := by omega
      go_wp2
      exact HP.out _ _ _ (HKF.out ▸ ho.out.full HKL.out) hb.out.bel
set_option maxHeartbeats 1000000 in
theorem l06Kinds_any (h : DH) (D : Dat) (hn : D.n1 ≤ 1048576) (w : World) (hz : Lies w h.a1 (flat fC D.bl)) :
    Calls Tryd.prog 51 #[dV h D] w (IntsPost (kindsF D) D.n1 w) := by
  obtain ⟨i0, hi, hz0, hz1, hz2⟩ := info_parts (show (Tryd.prog.info? 3).map (fun i => (i.zero, i.size, i.bytes)) = some (some (.int .i64 0), 1, 8) by kernel_rfl)
  have HI := Lib.hid (And.intro hi (And.intro hz0 (And.intro hz1 hz2)))
  clear hi hz0 hz1 hz2
  obtain ⟨a0, a1, a2, a3, a4, a5, e0', e1, e2, e3, e4, e5⟩ := h
  have HB := Lib.hid (Bx.start w (dO ⟨a0, a1, a2, a3, a4, a5, e0', e1, e2, e3, e4, e5⟩ D 27))
  have HB0 := Lib.hid (HB.out.to (dbox (w.alloc (dO ⟨a0, a1, a2, a3, a4, a5, e0', e1, e2, e3, e4, e5⟩ D 27)) (.cells #[] 3)))
  have HZ := Lib.hid hz
  have HL1 : Hid (D.bl.length = D.n1) := Lib.hid rfl
  have HKA := Lib.hid (fun k => @kindsF_at D k)
  have HKL := Lib.hid (kindsF_len D)
  have HTK : Hid (∀ k (h : k < D.n1), kC ((kindsF D).take k) ++ [.int .i64 (D.bl.getD k f0).1] = kC ((kindsF D).take (k + 1))) := Lib.hid (fun k h => by
    have := kindsF_at h
    rw [List.take_add_one, this]
    simp [kC])
  have HP : Hid (∀ a c w', w'.ownsRow (w.heap.size + 1) 3 1 (.slice a D.n1 c) D.n1 (kC ((kindsF D).take D.n1)) → Below w.heap.size w w' → IntsPost (kindsF D) D.n1 w (.returned (.slice a D.n1 c)) w') := Lib.hid (fun a c w' h1 h2 => ⟨a, c, rfl, by rw [List.take_of_length_le (by rw [kindsF_len]; exact Nat.le_refl _)] at h1; exact own_base h1 (Nat.le_succ _), h2⟩)
  have HR0 : Hid (((w.alloc (dO ⟨a0, a1, a2, a3, a4, a5, e0', e1, e2, e3, e4, e5⟩ D 27)).alloc (.cells #[] 3)).ownsRow (w.heap.size + 1) 3 1 (.slice (some ⟨w.heap.size + 1, 0, none⟩) 0 0) 0 (kC ((kindsF D).take 0))) := Lib.hid (by
    have := World.ownsRow_lit (base := w.heap.size + 1) (e := 3) (size := 1) (w.alloc (dO ⟨a0, a1, a2, a3, a4, a5, e0', e1, e2, e3, e4, e5⟩ D 27)) #[] 0 (by simp) (Nat.zero_le _) rfl
    simpa [kC] using this)
  generalize IntsPost (kindsF D) D.n1 w = POST at *
  clear hz
  go_enter Tryd.func51, Tryd.ntmps51
  go_wp2
  go_loopw [3, 4] (fun s i wr => ∃ (k : Nat) (a : Option Addr) (c : Nat), k ≤ D.n1 ∧ i = .int .i64 k ∧ s = .slice a k c ∧ Hid (wr.ownsRow (w.heap.size + 1) 3 1 (.slice a k c) k (kC ((kindsF D).take k))) ∧ Hid (Bx w (dO ⟨a0, a1, a2, a3, a4, a5, e0', e1, e2, e3, e4, e5⟩ D 27) wr)) (fun _ i _ => D.n1 - (intOf i).toNat)
  case atStart => exact ⟨0, _, _, Nat.zero_le _, rfl, rfl, HR0, HB0⟩
  case round =>
    obtain ⟨k, a, c, hk, rfl, rfl, ho, hb⟩ := hrel
    have q1 := cell_of_row wr w.heap.size 1 _ _ _ hb.out.box
    by_cases hlt : k < D.n1
    · obtain ⟨b, o, rfl, hbl, hcs⟩ := HZ.out.open (by rw [flat_len fC_len, HL1.out]; omega)
      have c4 : C4 b (o + k * 4) (D.bl.getD k f0) w := ft_at hcs (by rw [HL1.out]; exact hlt)
      obtain ⟨d0, d1, d2, d3⟩ := c4.bel hb.out.bel hbl
      have HX := Lib.hid (HTK.out k hlt)
      have hBr := hb.out.lt
      clear hcs c4 d1 d2 d3
      generalize D.bl.getD k f0 = x at *
      go_wp2_with (at_builtin; go_must (refine wpList_append_own _ rfl (.tmp 13) (.tmp 20) _ rfl (w.heap.size + 1) 3 i0 _ 1 8 Tryd.underlying23 HI.out.1 HI.out.2.1 HI.out.2.2.1 HI.out.2.2.2 rfl (by decide) (.slice a k c) k (kC ((kindsF D).take k)) rfl (ho.out.alloc _) ⟨wr.heap.size, 0, none⟩ 1 1 [.int .i64 x.1] rfl rfl (new_cells wr [.int .i64 x.1] 3) (by simp [Value.oneCell']) (by unfold maxLen; omega) (by omega) (by simp; omega) ?_); intro v' w' g1 g2 _; obtain ⟨a', c', rfl⟩ := wk_slice g1; have G1 := Lib.hid g1; have G2 := Lib.hid (hb.out.grow (dbox wr (.cells #[.int .i64 x.1] 3)) g2 (fun g hg => (ho.out.lt g hg).1)); clear g1 g2)
      go_roundw
      case rel => exact ⟨k + 1, a', c', by omega, by go_num, rfl, HX.out ▸ G1, G2⟩
      case measure => simp [intOf]; omega
    · obtain rfl : k = D.n1 := by omega
      go_wp2
      exact HP.out _ _ _ ho.out hb.out.bel
def kdR (D : Dat) : List Int := if datB D = true then kindsF D else []
def kdC (D : Dat) : Int := if datB D = true then 0 else 1
def KdPost (D : Dat) (w : World) (e : Ending) (w' : World) : Prop := ∃ a c, e = .returned (.tuple #[.slice a (kdR D).length c, .int .i64 (kdC D)]) ∧ w'.ownsRow w.heap.size 3 1 (.slice a (kdR D).length c) (kdR D).length (kC (kdR D)) ∧ Below w.heap.size w w'
set_option maxHeartbeats 1000000 in
theorem kindsOf_any (h : DH) (D : Dat) (hm : D.le maxLen) (hn : D.n1 ≤ 1048576) (w : World) (ht : FbTab w) (hz : DLies w h D) : Calls Tryd.prog 35 #[dV h D] w (KdPost D w) := by
  have HB := Lib.hid (Bx.start w (dO h D 27))
  have HZ := Lib.hid hz
  have HC := Lib.hid (dataOK_any h D hm _ (ht.below HB.out.bel (Nat.le_refl _)) (hz.below HB.out.bel (Nat.le_refl _)))
  clear ht hz
  cases hd : datB D
  · have HP : Hid (∀ w', Below w.heap.size w w' → KdPost D w (.returned (.tuple #[.slice none 0 0, .int .i64 1])) w') := Lib.hid (fun w' hb => by
      have e1 : kdR D = [] := by unfold kdR; rw [hd]; rfl
      have e2 : kdC D = 1 := by unfold kdC; rw [hd]; rfl
      unfold KdPost
      rw [e1, e2]
      exact ⟨none, 0, rfl, World.ownsRow_nil _ _ _ _, hb⟩)
    rw [hd] at HC
    generalize KdPost D w = POST at *
    clear hd
    go_enter Tryd.func35, Tryd.ntmps35
    go_wp2_with fail
    refine Calls.mono HC.out ?_
    rintro e w1 ⟨rfl, hb1⟩
    have HB1 := Lib.hid (HB.out.to hb1)
    clear hb1
    go_wp2
    exact HP.out _ HB1.out.bel
  · have HP : Hid (∀ a c w', w'.ownsRow w.heap.size 3 1 (.slice a D.n1 c) D.n1 (kC (kindsF D)) → Below w.heap.size w w' → KdPost D w (.returned (.tuple #[.slice a D.n1 c, .int .i64 0])) w') := Lib.hid (fun a c w' ho hb => by
      have e1 : kdR D = kindsF D := by unfold kdR; rw [hd]; rfl
      have e2 : kdC D = 0 := by unfold kdC; rw [hd]; rfl
      unfold KdPost
      rw [e1, e2, kindsF_len]
      exact ⟨a, c, rfl, ho, hb⟩)
    rw [hd] at HC
    generalize KdPost D w = POST at *
    clear hd
    go_enter Tryd.func35, Tryd.ntmps35
    go_wp2_with fail
    refine Calls.mono HC.out ?_
    rintro e w1 ⟨rfl, hb1⟩
    have HB1 := Lib.hid (HB.out.to hb1)
    clear hb1
    have q0 := cell_of_row w1 w.heap.size 0 _ _ _ HB1.out.box
    have q1 := cell_of_row w1 w.heap.size 1 _ _ _ HB1.out.box
    have q2 := cell_of_row w1 w.heap.size 2 _ _ _ HB1.out.box
    have q3 := cell_of_row w1 w.heap.size 3 _ _ _ HB1.out.box
    have q4 := cell_of_row w1 w.heap.size 4 _ _ _ HB1.out.box
    have q5 := cell_of_row w1 w.heap.size 5 _ _ _ HB1.out.box
    have q6 := cell_of_row w1 w.heap.size 6 _ _ _ HB1.out.box
    go_wp2_with fail
    refine Calls.mono (kindsIn_any h D hn _ (HZ.out.bl.below HB1.out.bel (Nat.le_refl _))) ?_
    rintro e w2 ⟨a, c, rfl, ho, hb2⟩
    have HO := Lib.hid (own_base ho HB1.out.bel.size)
    have HB2 := Lib.hid (HB1.out.bel.trans (hb2.mono HB1.out.bel.size))
    clear ho hb2 q0 q1 q2 q3 q4 q5 q6
    go_wp2
    exact HP.out _ _ _ HO.out HB2.out
set_option maxHeartbeats 1000000 in
theorem specKindsOf_any (h : DH) (D : Dat) (hm : D.le maxLen) (hn : D.n1 ≤ 1048576) (w : World) (hz : DLies w h D) : Calls Tryd.prog 34 #[dV h D] w (KdPost D w) := by
  have HB := Lib.hid (Bx.start w (dO h D 27))
  have HZ := Lib.hid hz
  have HC := Lib.hid (specDataOK_any h D hm _ (hz.below HB.out.bel (Nat.le_refl _)))
  clear hz
  cases hd : datB D
  · have HP : Hid (∀ w1, Below w.heap.size w w1 → KdPost D w (.returned (.tuple #[.slice (some ⟨w1.heap.size, 0, none⟩) 0 0, .int .i64 1])) (w1.alloc (.cells #[] 3))) := Lib.hid (fun w' hb => by
      have e1 : kdR D = [] := by unfold kdR; rw [hd]; rfl
      have e2 : kdC D = 1 := by unfold kdC; rw [hd]; rfl
      unfold KdPost
      rw [e1, e2]
      exact ⟨_, 0, rfl, World.ownsRow_lit (base := w.heap.size) (e := 3) (size := 1) w' #[] 0 hb.size (Nat.zero_le _) rfl, hb.alloc hb.size _⟩)
    rw [hd] at HC
    generalize KdPost D w = POST at *
    clear hd
    go_enter Tryd.func34, Tryd.ntmps34
    go_wp2_with fail
    refine Calls.mono HC.out ?_
    rintro e w1 ⟨rfl, hb1⟩
    have HB1 := Lib.hid (HB.out.to hb1)
    clear hb1
    go_wp2
    exact HP.out _ HB1.out.bel
  · have HP : Hid (∀ a c w', w'.ownsRow w.heap.size 3 1 (.slice a D.n1 c) D.n1 (kC (kindsF D)) → Below w.heap.size w w' → KdPost D w (.returned (.tuple #[.slice a D.n1 c, .int .i64 0])) w') := Lib.hid (fun a c w' ho hb => by
      have e1 : kdR D = kindsF D := by unfold kdR; rw [hd]; rfl
      have e2 : kdC D = 0 := by unfold kdC; rw [hd]; rfl
      unfold KdPost
      rw [e1, e2, kindsF_len]
      exact ⟨a, c, rfl, ho, hb⟩)
    rw [hd] at HC
    generalize KdPost D w = POST at *
    clear hd
    go_enter Tryd.func34, Tryd.ntmps34
    go_wp2_with fail
    refine Calls.mono HC.out ?_
    rintro e w1 ⟨rfl, hb1⟩
    have HB1 := Lib.hid (HB.out.to hb1)
    clear hb1
    have q0 := cell_of_row w1 w.heap.size 0 _ _ _ HB1.out.box
    have q1 := cell_of_row w1 w.heap.size 1 _ _ _ HB1.out.box
    have q2 := cell_of_row w1 w.heap.size 2 _ _ _ HB1.out.box
    have q3 := cell_of_row w1 w.heap.size 3 _ _ _ HB1.out.box
    have q4 := cell_of_row w1 w.heap.size 4 _ _ _ HB1.out.box
    have q5 := cell_of_row w1 w.heap.size 5 _ _ _ HB1.out.box
    have q6 := cell_of_row w1 w.heap.size 6 _ _ _ HB1.out.box
    go_wp2_with fail
    refine Calls.mono (l06Kinds_any h D hn _ (HZ.out.bl.below HB1.out.bel (Nat.le_refl _))) ?_
    rintro e w2 ⟨a, c, rfl, ho, hb2⟩
    have HO := Lib.hid (own_base ho HB1.out.bel.size)
    have HB2 := Lib.hid (HB1.out.bel.trans (hb2.mono HB1.out.bel.size))
    clear ho hb2 q0 q1 q2 q3 q4 q5 q6
    go_wp2
    exact HP.out _ _ _ HO.out HB2.out
end Go.Proofs.YtgiegppakoiaiaaDoor
