/- The law: an edge tells each rise once, a latch keeps what was set, texts and operands are those of the document. -/
import Derived.Test.YtknfimadhnlpjaaDoorFbTimer
import Derived.Test.YtknfimadhnlpjaaDoorFbTextS
import Derived.Test.YtknfimadhnlpjaaDoorFbDraw
namespace Go.Proofs.YtknfimadhnlpjaaDoor
open Go.ChangeShapes Go.WideShapes Go.ChangeAt Go.RowKit
/-- The two blocks ahead of a round. -/
def BkAt (W wr : World) (b d : Nat) (o kp : Bool) : Prop := wr.heap[b]? = some (fbO 3 o 0 0) ∧ wr.heap[d]? = some (fbO 4 kp 0 0) ∧ Below W.heap.size W wr ∧ W.heap.size ≤ b ∧ b < d
theorem eg_round (o a q : Bool) (i : Int) (hi : 0 ≤ i ∧ i ≤ 1000) (h : (a && !o) = q) (w : World) (ht : FbTab w) :
    Calls Tryd.prog 13 #[fbE 3 o 0 0, .bool a, .bool false, .int .i64 0, .int .i64 i] w fun e w' => e = .returned (.tuple #[fbE 3 a 0 0, .bool q, .int .i64 0]) ∧ Below w.heap.size w w' := by
  have H := stepBlock_edge o a false 0 i rfl (decide_eq_true (by omega)) w ht
  rw [h] at H
  exact H
theorem la_round (o a bk q : Bool) (i : Int) (hi : 0 ≤ i ∧ i ≤ 1000) (h : laF o a bk = q) (w : World) (ht : FbTab w) :
    Calls Tryd.prog 13 #[fbE 4 o 0 0, .bool a, .bool bk, .int .i64 0, .int .i64 i] w fun e w' => e = .returned (.tuple #[fbE 4 q 0 0, .bool q, .int .i64 0]) ∧ Below w.heap.size w w' := by
  have H := stepBlock_latch o a bk 0 i rfl (decide_eq_true (by omega)) w ht
  rw [h] at H
  exact H
theorem fb_lt {w : World} {b : Nat} {o : Obj} (h : w.heap[b]? = some o) : b < w.heap.size := by
  rcases Nat.lt_or_ge b w.heap.size with h' | h'
  · exact h'
  · rw [Array.getElem?_eq_none h'] at h; cases h
theorem fb_set4o {w : World} {b d : Nat} {y0 y1 y2 y3 : Value} {O : Obj} (hb : ¬ b = d) (h : w.heap[d]? = some O) :
    ((((w.setCell ⟨b, 0, none⟩ y0).setCell ⟨b, 1, none⟩ y1).setCell ⟨b, 2, none⟩ y2).setCell ⟨b, 3, none⟩ y3).heap[d]? = some O := by
  rw [heap_setCell_other _ _ _ _ (fun e => hb e.symm), heap_setCell_other _ _ _ _ (fun e => hb e.symm), heap_setCell_other _ _ _ _ (fun e => hb e.symm), heap_setCell_other _ _ _ _ (fun e => hb e.symm)]
  exact h
set_option maxRecDepth 100000 in
set_option maxHeartbeats 8000000 in
theorem FnBlocks_came (a : Option Addr) (n c : Nat) (a1 : Option Addr) (n1 c1 : Nat) (W : World) (h0 : Came Tryd.prog W 22 [.slice a n c]) (h1 : Came Tryd.prog W 22 [.slice a1 n1 c1]) (ht : FbTab W ∧ Pow10 W) :
    Calls Tryd.prog 5 #[.slice a n c, .slice a1 n1 c1] W fun e w' => e = .returned (.bool true) ∧ Below W.heap.size W w' := by
  have B0 := Lib.hid (fb_bytes h0)
  have B1 := Lib.hid (fb_bytes h1)
  have hn := B0.out.1
  have hn1 := B1.out.1
  unfold maxLen at hn hn1
  have HT := Lib.hid ht.1
  have HP := Lib.hid ht.2
  clear ht h0 h1
  by_cases l0 : 1048576 < n
  · go_enter Tryd.func5, Tryd.ntmps5
    go_wp2
    go_ret
    exact ⟨rfl, Below.refl _ _⟩
  by_cases l1 : 1048576 < n1
  · go_enter Tryd.func5, Tryd.ntmps5
    go_wp2
    go_ret
    exact ⟨rfl, Below.refl _ _⟩
  have p0 : decide (1048576 < (n : Int)) = false := decide_eq_false (by omega)
  have p1 : decide (1048576 < (n1 : Int)) = false := decide_eq_false (by omega)
  go_enter Tryd.func5, Tryd.ntmps5
  go_wp2_with fail
  refine (newFb_is 3 rfl _).mono ?_
  rintro e w1 ⟨rfl, hb1⟩
  have Hb1 := Lib.hid (hb1.alloc hb1.size (fbO 3 false 0 0))
  have K1 := Lib.hid (heap_alloc_new w1 (fbO 3 false 0 0))
  have hz1 := hb1.size
  clear hb1
  go_wp2_with fail
  refine (newFb_is 4 rfl _).mono ?_
  rintro e w2 ⟨rfl, hb2⟩
  have Hb2' := Hb1.out.trans (hb2.mono Hb1.out.size)
  have Hb2 := Lib.hid (Hb2'.alloc Hb2'.size (fbO 4 false 0 0))
  have K2 := Lib.hid (heap_keep' (o' := fbO 4 false 0 0) ((hb2.block w1.heap.size (by simp)).trans K1.out))
  have L2 := Lib.hid (heap_alloc_new w2 (fbO 4 false 0 0))
  have hz2 : w1.heap.size < w2.heap.size := by have := hb2.size; simp at this; omega
  have Hi : Hid (BkAt W (w2.alloc (fbO 4 false 0 0)) w1.heap.size w2.heap.size false false) := Lib.hid ⟨K2.out, L2.out, Hb2.out, hz1, hz2⟩
  clear hb2 Hb2' Hb1 K1 Hb2 K2 L2
  go_wp2
  generalize w1.heap.size = b at *
  generalize hdd : w2.heap.size = d at *
  generalize w2.alloc (fbO 4 false 0 0) = w3 at *
  clear hdd
  go_loopw [9, 10, 11, 12, 13] (fun rs td old kp i wr => ∃ (k : Nat) (o kk : Bool) (z : Int), k ≤ 16 ∧ i = .int .i64 k ∧ old = .bool o ∧ kp = .bool kk ∧ rs = .int .i64 z ∧ td = .int .i64 z ∧ 0 ≤ z ∧ z ≤ k ∧ Hid (BkAt W wr b d o kk)) (fun _ _ _ _ i _ => 16 - (intOf i).toNat)
  case atStart => exact ⟨0, false, false, 0, by omega, rfl, rfl, rfl, rfl, rfl, by omega, by omega, Hi⟩
  case round =>
    obtain ⟨k, o, kk, z, hk, rfl, rfl, rfl, rfl, rfl, z0, z1, ht⟩ := hrel
    by_cases hlt : k < 16
    · obtain ⟨hK, hL, hB, hbb, hbd⟩ := ht.out
      have KB := Lib.hid hK
      have LB := Lib.hid hL
      have HB := Lib.hid hB
      have hzb : b < wr.heap.size := fb_lt hK
      have hzd : d < wr.heap.size := fb_lt hL
      clear hK hL hB ht
      go_wp2_with fail
      refine (at_any a n _ wr (fb_bel B0.out HB.out HB.out.size) (by omega) k 2 (by omega) (by omega)).mono ?_
      rintro e w4 ⟨v, rfl, v0, v1, q1, rfl⟩
      go_wp2_with fail
      refine (at_any a1 n1 c1 (wr.drewN q1) (fb_bel B1.out (fb_dn HB.out q1) (fb_dn HB.out q1).size) (by omega) k 3 (by omega) (by omega)).mono ?_
      rintro e w5 ⟨u, rfl, u0, u1, q2, rfl⟩
      have HE := Lib.hid (fun o' a' q h w ht => eg_round o' a' q k (by omega) h w ht)
      have HL := Lib.hid (fun o' a' bk q h w ht => la_round o' a' bk q k (by omega) h w ht)
      have HB2 : Hid (Below W.heap.size W ((wr.drewN q1).drewN q2)) := Lib.hid (fb_dn (fb_dn HB.out q1) q2)
      have K2 : Hid (((wr.drewN q1).drewN q2).heap[b]? = some (fbO 3 o 0 0)) := KB
      have L2 : Hid (((wr.drewN q1).drewN q2).heap[d]? = some (fbO 4 kk 0 0)) := LB
      have hzb2 : b < ((wr.drewN q1).drewN q2).heap.size := hzb
      have hzd2 : d < ((wr.drewN q1).drewN q2).heap.size := hzd
      clear HB KB LB hzb hzd
      generalize (wr.drewN q1).drewN q2 = w5 at *
      obtain ⟨c0, c1', c2, c3⟩ := fb_cells K2.out
      have hne1 : ¬ b = d := by omega
      have hne2 : ¬ d = b := by omega
      cases hv : (v == 1) <;> cases hu : (u == 2) <;> cases o <;> cases kk
      · go_wp2_with fail
        refine (HE.out false false false rfl _ (HT.out.below HB2.out (Nat.le_refl _))).mono ?_
        rintro e w6 ⟨rfl, hb6⟩
        have HB6' := HB2.out.trans (hb6.mono HB2.out.size)
        have HB6 := Lib.hid (HB6'.alloc HB6'.size (fbO 3 false 0 0))
        have K6 := Lib.hid (heap_keep' (o' := (fbO 3 false 0 0)) ((hb6.block b hzb2).trans K2.out))
        have l6 := heap_keep' (o' := (fbO 3 false 0 0)) ((hb6.block d hzd2).trans L2.out)
        have L6 := Lib.hid l6
        have M6 := Lib.hid (heap_alloc_new w6 (fbO 3 false 0 0))
        have hz6 : d < w6.heap.size := by have := hb6.size; omega
        have hz6b : b < w6.heap.size := by omega
        obtain ⟨d0, d1, d2, d3⟩ := fb_cells ((hb6.block d hzd2).trans L2.out)
        clear hb6 c0 c1' c2 c3 l6 HB6'
        go_wp2_with fail
        refine (HL.out false false false false rfl _ (HT.out.below HB6.out (Nat.le_refl _))).mono ?_
        rintro e w7 ⟨rfl, hb7⟩
        have k7 := (hb7.block b (by simp; omega)).trans K6.out
        have l7 := (hb7.block d (by simp; omega)).trans L6.out
        have m7 := (hb7.block w6.heap.size (by simp)).trans M6.out
        have HB7 := Lib.hid (HB6.out.trans (hb7.mono HB6.out.size))
        have hz7 : w6.heap.size < w7.heap.size := by have := hb7.size; simp at this; omega
        have hz7b : b < w7.heap.size := by omega
        have hz7d : d < w7.heap.size := by omega
        clear hb7 d0 d1 d2 d3
        obtain ⟨c0, c1', c2, c3⟩ := fb_cells m7
        obtain ⟨d0, d1, d2, d3⟩ := fb_cells k7
        obtain ⟨g0, g1, g2, g3⟩ := fb_blk k7
        obtain ⟨e0, e1, e2, e3⟩ := fb_cells l7
        obtain ⟨f0, f1, f2, f3⟩ := fb_blk l7
        have K7 := Lib.hid k7
        have L7 := Lib.hid l7
        clear k7 l7 m7
        go_wp2
        go_roundw
        case rel =>
          refine ⟨k + 1, false, false, z, by omega, by go_num, rfl, rfl, rfl, rfl, by omega, by omega, Lib.hid ?_⟩
          have h8 := fb_b4' (x0 := .int .i64 4) (x1 := .bool false) (x2 := .int .i64 0) (x3 := .int .i64 0) (fb_b4' (x0 := .int .i64 3) (x1 := .bool false) (x2 := .int .i64 0) (x3 := .int .i64 0) HB7.out hbb) (show W.heap.size ≤ d by omega)
          exact ⟨heap_keep' (fb_set4o hne2 (fb_set4 K7.out)), heap_keep' (fb_set4 (fb_set4o hne1 L7.out)), h8.alloc h8.size _, hbb, hbd⟩
        case measure => simp [intOf]; omega
      · go_wp2_with fail
        refine (HE.out false false false rfl _ (HT.out.below HB2.out (Nat.le_refl _))).mono ?_
        rintro e w6 ⟨rfl, hb6⟩
        have HB6' := HB2.out.trans (hb6.mono HB2.out.size)
        have HB6 := Lib.hid (HB6'.alloc HB6'.size (fbO 3 false 0 0))
        have K6 := Lib.hid (heap_keep' (o' := (fbO 3 false 0 0)) ((hb6.block b hzb2).trans K2.out))
        have l6 := heap_keep' (o' := (fbO 3 false 0 0)) ((hb6.block d hzd2).trans L2.out)
        have L6 := Lib.hid l6
        have M6 := Lib.hid (heap_alloc_new w6 (fbO 3 false 0 0))
        have hz6 : d < w6.heap.size := by have := hb6.size; omega
        have hz6b : b < w6.heap.size := by omega
        obtain ⟨d0, d1, d2, d3⟩ := fb_cells ((hb6.block d hzd2).trans L2.out)
        clear hb6 c0 c1' c2 c3 l6 HB6'
        go_wp2_with fail
        refine (HL.out true false false true rfl _ (HT.out.below HB6.out (Nat.le_refl _))).mono ?_
        rintro e w7 ⟨rfl, hb7⟩
        have k7 := (hb7.block b (by simp; omega)).trans K6.out
        have l7 := (hb7.block d (by simp; omega)).trans L6.out
        have m7 := (hb7.block w6.heap.size (by simp)).trans M6.out
        have HB7 := Lib.hid (HB6.out.trans (hb7.mono HB6.out.size))
        have hz7 : w6.heap.size < w7.heap.size := by have := hb7.size; simp at this; omega
        have hz7b : b < w7.heap.size := by omega
        have hz7d : d < w7.heap.size := by omega
        clear hb7 d0 d1 d2 d3
        obtain ⟨c0, c1', c2, c3⟩ := fb_cells m7
        obtain ⟨d0, d1, d2, d3⟩ := fb_cells k7
        obtain ⟨g0, g1, g2, g3⟩ := fb_blk k7
        obtain ⟨e0, e1, e2, e3⟩ := fb_cells l7
        obtain ⟨f0, f1, f2, f3⟩ := fb_blk l7
        have K7 := Lib.hid k7
        have L7 := Lib.hid l7
        clear k7 l7 m7
        go_wp2
        go_roundw
        case rel =>
          refine ⟨k + 1, false, true, z, by omega, by go_num, rfl, rfl, rfl, rfl, by omega, by omega, Lib.hid ?_⟩
          have h8 := fb_b4' (x0 := .int .i64 4) (x1 := .bool true) (x2 := .int .i64 0) (x3 := .int .i64 0) (fb_b4' (x0 := .int .i64 3) (x1 := .bool false) (x2 := .int .i64 0) (x3 := .int .i64 0) HB7.out hbb) (show W.heap.size ≤ d by omega)
          exact ⟨heap_keep' (fb_set4o hne2 (fb_set4 K7.out)), heap_keep' (fb_set4 (fb_set4o hne1 L7.out)), h8.alloc h8.size _, hbb, hbd⟩
        case measure => simp [intOf]; omega
      · go_wp2_with fail
        refine (HE.out true false false rfl _ (HT.out.below HB2.out (Nat.le_refl _))).mono ?_
        rintro e w6 ⟨rfl, hb6⟩
        have HB6' := HB2.out.trans (hb6.mono HB2.out.size)
        have HB6 := Lib.hid (HB6'.alloc HB6'.size (fbO 3 false 0 0))
        have K6 := Lib.hid (heap_keep' (o' := (fbO 3 false 0 0)) ((hb6.block b hzb2).trans K2.out))
        have l6 := heap_keep' (o' := (fbO 3 false 0 0)) ((hb6.block d hzd2).trans L2.out)
        have L6 := Lib.hid l6
        have M6 := Lib.hid (heap_alloc_new w6 (fbO 3 false 0 0))
        have hz6 : d < w6.heap.size := by have := hb6.size; omega
        have hz6b : b < w6.heap.size := by omega
        obtain ⟨d0, d1, d2, d3⟩ := fb_cells ((hb6.block d hzd2).trans L2.out)
        clear hb6 c0 c1' c2 c3 l6 HB6'
        go_wp2_with fail
        refine (HL.out false false false false rfl _ (HT.out.below HB6.out (Nat.le_refl _))).mono ?_
        rintro e w7 ⟨rfl, hb7⟩
        have k7 := (hb7.block b (by simp; omega)).trans K6.out
        have l7 := (hb7.block d (by simp; omega)).trans L6.out
        have m7 := (hb7.block w6.heap.size (by simp)).trans M6.out
        have HB7 := Lib.hid (HB6.out.trans (hb7.mono HB6.out.size))
        have hz7 : w6.heap.size < w7.heap.size := by have := hb7.size; simp at this; omega
        have hz7b : b < w7.heap.size := by omega
        have hz7d : d < w7.heap.size := by omega
        clear hb7 d0 d1 d2 d3
        obtain ⟨c0, c1', c2, c3⟩ := fb_cells m7
        obtain ⟨d0, d1, d2, d3⟩ := fb_cells k7
        obtain ⟨g0, g1, g2, g3⟩ := fb_blk k7
        obtain ⟨e0, e1, e2, e3⟩ := fb_cells l7
        obtain ⟨f0, f1, f2, f3⟩ := fb_blk l7
        have K7 := Lib.hid k7
        have L7 := Lib.hid l7
        clear k7 l7 m7
        go_wp2
        go_roundw
        case rel =>
          refine ⟨k + 1, false, false, z, by omega, by go_num, rfl, rfl, rfl, rfl, by omega, by omega, Lib.hid ?_⟩
          have h8 := fb_b4' (x0 := .int .i64 4) (x1 := .bool false) (x2 := .int .i64 0) (x3 := .int .i64 0) (fb_b4' (x0 := .int .i64 3) (x1 := .bool false) (x2 := .int .i64 0) (x3 := .int .i64 0) HB7.out hbb) (show W.heap.size ≤ d by omega)
          exact ⟨heap_keep' (fb_set4o hne2 (fb_set4 K7.out)), heap_keep' (fb_set4 (fb_set4o hne1 L7.out)), h8.alloc h8.size _, hbb, hbd⟩
        case measure => simp [intOf]; omega
      · go_wp2_with fail
        refine (HE.out true false false rfl _ (HT.out.below HB2.out (Nat.le_refl _))).mono ?_
        rintro e w6 ⟨rfl, hb6⟩
        have HB6' := HB2.out.trans (hb6.mono HB2.out.size)
        have HB6 := Lib.hid (HB6'.alloc HB6'.size (fbO 3 false 0 0))
        have K6 := Lib.hid (heap_keep' (o' := (fbO 3 false 0 0)) ((hb6.block b hzb2).trans K2.out))
        have l6 := heap_keep' (o' := (fbO 3 false 0 0)) ((hb6.block d hzd2).trans L2.out)
        have L6 := Lib.hid l6
        have M6 := Lib.hid (heap_alloc_new w6 (fbO 3 false 0 0))
        have hz6 : d < w6.heap.size := by have := hb6.size; omega
        have hz6b : b < w6.heap.size := by omega
        obtain ⟨d0, d1, d2, d3⟩ := fb_cells ((hb6.block d hzd2).trans L2.out)
        clear hb6 c0 c1' c2 c3 l6 HB6'
        go_wp2_with fail
        refine (HL.out true false false true rfl _ (HT.out.below HB6.out (Nat.le_refl _))).mono ?_
        rintro e w7 ⟨rfl, hb7⟩
        have k7 := (hb7.block b (by simp; omega)).trans K6.out
        have l7 := (hb7.block d (by simp; omega)).trans L6.out
        have m7 := (hb7.block w6.heap.size (by simp)).trans M6.out
        have HB7 := Lib.hid (HB6.out.trans (hb7.mono HB6.out.size))
        have hz7 : w6.heap.size < w7.heap.size := by have := hb7.size; simp at this; omega
        have hz7b : b < w7.heap.size := by omega
        have hz7d : d < w7.heap.size := by omega
        clear hb7 d0 d1 d2 d3
        obtain ⟨c0, c1', c2, c3⟩ := fb_cells m7
        obtain ⟨d0, d1, d2, d3⟩ := fb_cells k7
        obtain ⟨g0, g1, g2, g3⟩ := fb_blk k7
        obtain ⟨e0, e1, e2, e3⟩ := fb_cells l7
        obtain ⟨f0, f1, f2, f3⟩ := fb_blk l7
        have K7 := Lib.hid k7
        have L7 := Lib.hid l7
        clear k7 l7 m7
        go_wp2
        go_roundw
        case rel =>
          refine ⟨k + 1, false, true, z, by omega, by go_num, rfl, rfl, rfl, rfl, by omega, by omega, Lib.hid ?_⟩
          have h8 := fb_b4' (x0 := .int .i64 4) (x1 := .bool true) (x2 := .int .i64 0) (x3 := .int .i64 0) (fb_b4' (x0 := .int .i64 3) (x1 := .bool false) (x2 := .int .i64 0) (x3 := .int .i64 0) HB7.out hbb) (show W.heap.size ≤ d by omega)
          exact ⟨heap_keep' (fb_set4o hne2 (fb_set4 K7.out)), heap_keep' (fb_set4 (fb_set4o hne1 L7.out)), h8.alloc h8.size _, hbb, hbd⟩
        case measure => simp [intOf]; omega
      · go_wp2_with fail
        refine (HE.out false false false rfl _ (HT.out.below HB2.out (Nat.le_refl _))).mono ?_
        rintro e w6 ⟨rfl, hb6⟩
        have HB6' := HB2.out.trans (hb6.mono HB2.out.size)
        have HB6 := Lib.hid (HB6'.alloc HB6'.size (fbO 3 false 0 0))
        have K6 := Lib.hid (heap_keep' (o' := (fbO 3 false 0 0)) ((hb6.block b hzb2).trans K2.out))
        have l6 := heap_keep' (o' := (fbO 3 false 0 0)) ((hb6.block d hzd2).trans L2.out)
        have L6 := Lib.hid l6
        have M6 := Lib.hid (heap_alloc_new w6 (fbO 3 false 0 0))
        have hz6 : d < w6.heap.size := by have := hb6.size; omega
        have hz6b : b < w6.heap.size := by omega
        obtain ⟨d0, d1, d2, d3⟩ := fb_cells ((hb6.block d hzd2).trans L2.out)
        clear hb6 c0 c1' c2 c3 l6 HB6'
        go_wp2_with fail
        refine (HL.out false false true false rfl _ (HT.out.below HB6.out (Nat.le_refl _))).mono ?_
        rintro e w7 ⟨rfl, hb7⟩
        have k7 := (hb7.block b (by simp; omega)).trans K6.out
        have l7 := (hb7.block d (by simp; omega)).trans L6.out
        have m7 := (hb7.block w6.heap.size (by simp)).trans M6.out
        have HB7 := Lib.hid (HB6.out.trans (hb7.mono HB6.out.size))
        have hz7 : w6.heap.size < w7.heap.size := by have := hb7.size; simp at this; omega
        have hz7b : b < w7.heap.size := by omega
        have hz7d : d < w7.heap.size := by omega
        clear hb7 d0 d1 d2 d3
        obtain ⟨c0, c1', c2, c3⟩ := fb_cells m7
        obtain ⟨d0, d1, d2, d3⟩ := fb_cells k7
        obtain ⟨g0, g1, g2, g3⟩ := fb_blk k7
        obtain ⟨e0, e1, e2, e3⟩ := fb_cells l7
        obtain ⟨f0, f1, f2, f3⟩ := fb_blk l7
        have K7 := Lib.hid k7
        have L7 := Lib.hid l7
        clear k7 l7 m7
        go_wp2
        go_roundw
        case rel =>
          refine ⟨k + 1, false, false, z, by omega, by go_num, rfl, rfl, rfl, rfl, by omega, by omega, Lib.hid ?_⟩
          have h8 := fb_b4' (x0 := .int .i64 4) (x1 := .bool false) (x2 := .int .i64 0) (x3 := .int .i64 0) (fb_b4' (x0 := .int .i64 3) (x1 := .bool false) (x2 := .int .i64 0) (x3 := .int .i64 0) HB7.out hbb) (show W.heap.size ≤ d by omega)
          exact ⟨heap_keep' (fb_set4o hne2 (fb_set4 K7.out)), heap_keep' (fb_set4 (fb_set4o hne1 L7.out)), h8.alloc h8.size _, hbb, hbd⟩
        case measure => simp [intOf]; omega
      · go_wp2_with fail
        refine (HE.out false false false rfl _ (HT.out.below HB2.out (Nat.le_refl _))).mono ?_
        rintro e w6 ⟨rfl, hb6⟩
        have HB6' := HB2.out.trans (hb6.mono HB2.out.size)
        have HB6 := Lib.hid (HB6'.alloc HB6'.size (fbO 3 false 0 0))
        have K6 := Lib.hid (heap_keep' (o' := (fbO 3 false 0 0)) ((hb6.block b hzb2).trans K2.out))
        have l6 := heap_keep' (o' := (fbO 3 false 0 0)) ((hb6.block d hzd2).trans L2.out)
        have L6 := Lib.hid l6
        have M6 := Lib.hid (heap_alloc_new w6 (fbO 3 false 0 0))
        have hz6 : d < w6.heap.size := by have := hb6.size; omega
        have hz6b : b < w6.heap.size := by omega
        obtain ⟨d0, d1, d2, d3⟩ := fb_cells ((hb6.block d hzd2).trans L2.out)
        clear hb6 c0 c1' c2 c3 l6 HB6'
        go_wp2_with fail
        refine (HL.out true false true false rfl _ (HT.out.below HB6.out (Nat.le_refl _))).mono ?_
        rintro e w7 ⟨rfl, hb7⟩
        have k7 := (hb7.block b (by simp; omega)).trans K6.out
        have l7 := (hb7.block d (by simp; omega)).trans L6.out
        have m7 := (hb7.block w6.heap.size (by simp)).trans M6.out
        have HB7 := Lib.hid (HB6.out.trans (hb7.mono HB6.out.size))
        have hz7 : w6.heap.size < w7.heap.size := by have := hb7.size; simp at this; omega
        have hz7b : b < w7.heap.size := by omega
        have hz7d : d < w7.heap.size := by omega
        clear hb7 d0 d1 d2 d3
        obtain ⟨c0, c1', c2, c3⟩ := fb_cells m7
        obtain ⟨d0, d1, d2, d3⟩ := fb_cells k7
        obtain ⟨g0, g1, g2, g3⟩ := fb_blk k7
        obtain ⟨e0, e1, e2, e3⟩ := fb_cells l7
        obtain ⟨f0, f1, f2, f3⟩ := fb_blk l7
        have K7 := Lib.hid k7
        have L7 := Lib.hid l7
        clear k7 l7 m7
        go_wp2
        go_roundw
        case rel =>
          refine ⟨k + 1, false, false, z, by omega, by go_num, rfl, rfl, rfl, rfl, by omega, by omega, Lib.hid ?_⟩
          have h8 := fb_b4' (x0 := .int .i64 4) (x1 := .bool false) (x2 := .int .i64 0) (x3 := .int .i64 0) (fb_b4' (x0 := .int .i64 3) (x1 := .bool false) (x2 := .int .i64 0) (x3 := .int .i64 0) HB7.out hbb) (show W.heap.size ≤ d by omega)
          exact ⟨heap_keep' (fb_set4o hne2 (fb_set4 K7.out)), heap_keep' (fb_set4 (fb_set4o hne1 L7.out)), h8.alloc h8.size _, hbb, hbd⟩
        case measure => simp [intOf]; omega
      · go_wp2_with fail
        refine (HE.out true false false rfl _ (HT.out.below HB2.out (Nat.le_refl _))).mono ?_
        rintro e w6 ⟨rfl, hb6⟩
        have HB6' := HB2.out.trans (hb6.mono HB2.out.size)
        have HB6 := Lib.hid (HB6'.alloc HB6'.size (fbO 3 false 0 0))
        have K6 := Lib.hid (heap_keep' (o' := (fbO 3 false 0 0)) ((hb6.block b hzb2).trans K2.out))
        have l6 := heap_keep' (o' := (fbO 3 false 0 0)) ((hb6.block d hzd2).trans L2.out)
        have L6 := Lib.hid l6
        have M6 := Lib.hid (heap_alloc_new w6 (fbO 3 false 0 0))
        have hz6 : d < w6.heap.size := by have := hb6.size; omega
        have hz6b : b < w6.heap.size := by omega
        obtain ⟨d0, d1, d2, d3⟩ := fb_cells ((hb6.block d hzd2).trans L2.out)
        clear hb6 c0 c1' c2 c3 l6 HB6'
        go_wp2_with fail
        refine (HL.out false false true false rfl _ (HT.out.below HB6.out (Nat.le_refl _))).mono ?_
        rintro e w7 ⟨rfl, hb7⟩
        have k7 := (hb7.block b (by simp; omega)).trans K6.out
        have l7 := (hb7.block d (by simp; omega)).trans L6.out
        have m7 := (hb7.block w6.heap.size (by simp)).trans M6.out
        have HB7 := Lib.hid (HB6.out.trans (hb7.mono HB6.out.size))
        have hz7 : w6.heap.size < w7.heap.size := by have := hb7.size; simp at this; omega
        have hz7b : b < w7.heap.size := by omega
        have hz7d : d < w7.heap.size := by omega
        clear hb7 d0 d1 d2 d3
        obtain ⟨c0, c1', c2, c3⟩ := fb_cells m7
        obtain ⟨d0, d1, d2, d3⟩ := fb_cells k7
        obtain ⟨g0, g1, g2, g3⟩ := fb_blk k7
        obtain ⟨e0, e1, e2, e3⟩ := fb_cells l7
        obtain ⟨f0, f1, f2, f3⟩ := fb_blk l7
        have K7 := Lib.hid k7
        have L7 := Lib.hid l7
        clear k7 l7 m7
        go_wp2
        go_roundw
        case rel =>
          refine ⟨k + 1, false, false, z, by omega, by go_num, rfl, rfl, rfl, rfl, by omega, by omega, Lib.hid ?_⟩
          have h8 := fb_b4' (x0 := .int .i64 4) (x1 := .bool false) (x2 := .int .i64 0) (x3 := .int .i64 0) (fb_b4' (x0 := .int .i64 3) (x1 := .bool false) (x2 := .int .i64 0) (x3 := .int .i64 0) HB7.out hbb) (show W.heap.size ≤ d by omega)
          exact ⟨heap_keep' (fb_set4o hne2 (fb_set4 K7.out)), heap_keep' (fb_set4 (fb_set4o hne1 L7.out)), h8.alloc h8.size _, hbb, hbd⟩
        case measure => simp [intOf]; omega
      · go_wp2_with fail
        refine (HE.out true false false rfl _ (HT.out.below HB2.out (Nat.le_refl _))).mono ?_
        rintro e w6 ⟨rfl, hb6⟩
        have HB6' := HB2.out.trans (hb6.mono HB2.out.size)
        have HB6 := Lib.hid (HB6'.alloc HB6'.size (fbO 3 false 0 0))
        have K6 := Lib.hid (heap_keep' (o' := (fbO 3 false 0 0)) ((hb6.block b hzb2).trans K2.out))
        have l6 := heap_keep' (o' := (fbO 3 false 0 0)) ((hb6.block d hzd2).trans L2.out)
        have L6 := Lib.hid l6
        have M6 := Lib.hid (heap_alloc_new w6 (fbO 3 false 0 0))
        have hz6 : d < w6.heap.size := by have := hb6.size; omega
        have hz6b : b < w6.heap.size := by omega
        obtain ⟨d0, d1, d2, d3⟩ := fb_cells ((hb6.block d hzd2).trans L2.out)
        clear hb6 c0 c1' c2 c3 l6 HB6'
        go_wp2_with fail
        refine (HL.out true false true false rfl _ (HT.out.below HB6.out (Nat.le_refl _))).mono ?_
        rintro e w7 ⟨rfl, hb7⟩
        have k7 := (hb7.block b (by simp; omega)).trans K6.out
        have l7 := (hb7.block d (by simp; omega)).trans L6.out
        have m7 := (hb7.block w6.heap.size (by simp)).trans M6.out
        have HB7 := Lib.hid (HB6.out.trans (hb7.mono HB6.out.size))
        have hz7 : w6.heap.size < w7.heap.size := by have := hb7.size; simp at this; omega
        have hz7b : b < w7.heap.size := by omega
        have hz7d : d < w7.heap.size := by omega
        clear hb7 d0 d1 d2 d3
        obtain ⟨c0, c1', c2, c3⟩ := fb_cells m7
        obtain ⟨d0, d1, d2, d3⟩ := fb_cells k7
        obtain ⟨g0, g1, g2, g3⟩ := fb_blk k7
        obtain ⟨e0, e1, e2, e3⟩ := fb_cells l7
        obtain ⟨f0, f1, f2, f3⟩ := fb_blk l7
        have K7 := Lib.hid k7
        have L7 := Lib.hid l7
        clear k7 l7 m7
        go_wp2
        go_roundw
        case rel =>
          refine ⟨k + 1, false, false, z, by omega, by go_num, rfl, rfl, rfl, rfl, by omega, by omega, Lib.hid ?_⟩
          have h8 := fb_b4' (x0 := .int .i64 4) (x1 := .bool false) (x2 := .int .i64 0) (x3 := .int .i64 0) (fb_b4' (x0 := .int .i64 3) (x1 := .bool false) (x2 := .int .i64 0) (x3 := .int .i64 0) HB7.out hbb) (show W.heap.size ≤ d by omega)
          exact ⟨heap_keep' (fb_set4o hne2 (fb_set4 K7.out)), heap_keep' (fb_set4 (fb_set4o hne1 L7.out)), h8.alloc h8.size _, hbb, hbd⟩
        case measure => simp [intOf]; omega
      · go_wp2_with fail
        refine (HE.out false true true rfl _ (HT.out.below HB2.out (Nat.le_refl _))).mono ?_
        rintro e w6 ⟨rfl, hb6⟩
        have HB6' := HB2.out.trans (hb6.mono HB2.out.size)
        have HB6 := Lib.hid (HB6'.alloc HB6'.size (fbO 3 true 0 0))
        have K6 := Lib.hid (heap_keep' (o' := (fbO 3 true 0 0)) ((hb6.block b hzb2).trans K2.out))
        have l6 := heap_keep' (o' := (fbO 3 true 0 0)) ((hb6.block d hzd2).trans L2.out)
        have L6 := Lib.hid l6
        have M6 := Lib.hid (heap_alloc_new w6 (fbO 3 true 0 0))
        have hz6 : d < w6.heap.size := by have := hb6.size; omega
        have hz6b : b < w6.heap.size := by omega
        obtain ⟨d0, d1, d2, d3⟩ := fb_cells ((hb6.block d hzd2).trans L2.out)
        clear hb6 c0 c1' c2 c3 l6 HB6'
        go_wp2_with fail
        refine (HL.out false true false true rfl _ (HT.out.below HB6.out (Nat.le_refl _))).mono ?_
        rintro e w7 ⟨rfl, hb7⟩
        have k7 := (hb7.block b (by simp; omega)).trans K6.out
        have l7 := (hb7.block d (by simp; omega)).trans L6.out
        have m7 := (hb7.block w6.heap.size (by simp)).trans M6.out
        have HB7 := Lib.hid (HB6.out.trans (hb7.mono HB6.out.size))
        have hz7 : w6.heap.size < w7.heap.size := by have := hb7.size; simp at this; omega
        have hz7b : b < w7.heap.size := by omega
        have hz7d : d < w7.heap.size := by omega
        clear hb7 d0 d1 d2 d3
        obtain ⟨c0, c1', c2, c3⟩ := fb_cells m7
        obtain ⟨d0, d1, d2, d3⟩ := fb_cells k7
        obtain ⟨g0, g1, g2, g3⟩ := fb_blk k7
        obtain ⟨e0, e1, e2, e3⟩ := fb_cells l7
        obtain ⟨f0, f1, f2, f3⟩ := fb_blk l7
        have K7 := Lib.hid k7
        have L7 := Lib.hid l7
        clear k7 l7 m7
        go_wp2
        go_roundw
        case rel =>
          refine ⟨k + 1, true, true, (z + 1), by omega, by go_num, rfl, rfl, rfl, rfl, by omega, by omega, Lib.hid ?_⟩
          have h8 := fb_b4' (x0 := .int .i64 4) (x1 := .bool true) (x2 := .int .i64 0) (x3 := .int .i64 0) (fb_b4' (x0 := .int .i64 3) (x1 := .bool true) (x2 := .int .i64 0) (x3 := .int .i64 0) HB7.out hbb) (show W.heap.size ≤ d by omega)
          exact ⟨heap_keep' (fb_set4o hne2 (fb_set4 K7.out)), heap_keep' (fb_set4 (fb_set4o hne1 L7.out)), h8.alloc h8.size _, hbb, hbd⟩
        case measure => simp [intOf]; omega
      · go_wp2_with fail
        refine (HE.out false true true rfl _ (HT.out.below HB2.out (Nat.le_refl _))).mono ?_
        rintro e w6 ⟨rfl, hb6⟩
        have HB6' := HB2.out.trans (hb6.mono HB2.out.size)
        have HB6 := Lib.hid (HB6'.alloc HB6'.size (fbO 3 true 0 0))
        have K6 := Lib.hid (heap_keep' (o' := (fbO 3 true 0 0)) ((hb6.block b hzb2).trans K2.out))
        have l6 := heap_keep' (o' := (fbO 3 true 0 0)) ((hb6.block d hzd2).trans L2.out)
        have L6 := Lib.hid l6
        have M6 := Lib.hid (heap_alloc_new w6 (fbO 3 true 0 0))
        have hz6 : d < w6.heap.size := by have := hb6.size; omega
        have hz6b : b < w6.heap.size := by omega
        obtain ⟨d0, d1, d2, d3⟩ := fb_cells ((hb6.block d hzd2).trans L2.out)
        clear hb6 c0 c1' c2 c3 l6 HB6'
        go_wp2_with fail
        refine (HL.out true true false true rfl _ (HT.out.below HB6.out (Nat.le_refl _))).mono ?_
        rintro e w7 ⟨rfl, hb7⟩
        have k7 := (hb7.block b (by simp; omega)).trans K6.out
        have l7 := (hb7.block d (by simp; omega)).trans L6.out
        have m7 := (hb7.block w6.heap.size (by simp)).trans M6.out
        have HB7 := Lib.hid (HB6.out.trans (hb7.mono HB6.out.size))
        have hz7 : w6.heap.size < w7.heap.size := by have := hb7.size; simp at this; omega
        have hz7b : b < w7.heap.size := by omega
        have hz7d : d < w7.heap.size := by omega
        clear hb7 d0 d1 d2 d3
        obtain ⟨c0, c1', c2, c3⟩ := fb_cells m7
        obtain ⟨d0, d1, d2, d3⟩ := fb_cells k7
        obtain ⟨g0, g1, g2, g3⟩ := fb_blk k7
        obtain ⟨e0, e1, e2, e3⟩ := fb_cells l7
        obtain ⟨f0, f1, f2, f3⟩ := fb_blk l7
        have K7 := Lib.hid k7
        have L7 := Lib.hid l7
        clear k7 l7 m7
        go_wp2
        go_roundw
        case rel =>
          refine ⟨k + 1, true, true, (z + 1), by omega, by go_num, rfl, rfl, rfl, rfl, by omega, by omega, Lib.hid ?_⟩
          have h8 := fb_b4' (x0 := .int .i64 4) (x1 := .bool true) (x2 := .int .i64 0) (x3 := .int .i64 0) (fb_b4' (x0 := .int .i64 3) (x1 := .bool true) (x2 := .int .i64 0) (x3 := .int .i64 0) HB7.out hbb) (show W.heap.size ≤ d by omega)
          exact ⟨heap_keep' (fb_set4o hne2 (fb_set4 K7.out)), heap_keep' (fb_set4 (fb_set4o hne1 L7.out)), h8.alloc h8.size _, hbb, hbd⟩
        case measure => simp [intOf]; omega
      · go_wp2_with fail
        refine (HE.out true true false rfl _ (HT.out.below HB2.out (Nat.le_refl _))).mono ?_
        rintro e w6 ⟨rfl, hb6⟩
        have HB6' := HB2.out.trans (hb6.mono HB2.out.size)
        have HB6 := Lib.hid (HB6'.alloc HB6'.size (fbO 3 true 0 0))
        have K6 := Lib.hid (heap_keep' (o' := (fbO 3 true 0 0)) ((hb6.block b hzb2).trans K2.out))
        have l6 := heap_keep' (o' := (fbO 3 true 0 0)) ((hb6.block d hzd2).trans L2.out)
        have L6 := Lib.hid l6
        have M6 := Lib.hid (heap_alloc_new w6 (fbO 3 true 0 0))
        have hz6 : d < w6.heap.size := by have := hb6.size; omega
        have hz6b : b < w6.heap.size := by omega
        obtain ⟨d0, d1, d2, d3⟩ := fb_cells ((hb6.block d hzd2).trans L2.out)
        clear hb6 c0 c1' c2 c3 l6 HB6'
        go_wp2_with fail
        refine (HL.out false true false true rfl _ (HT.out.below HB6.out (Nat.le_refl _))).mono ?_
        rintro e w7 ⟨rfl, hb7⟩
        have k7 := (hb7.block b (by simp; omega)).trans K6.out
        have l7 := (hb7.block d (by simp; omega)).trans L6.out
        have m7 := (hb7.block w6.heap.size (by simp)).trans M6.out
        have HB7 := Lib.hid (HB6.out.trans (hb7.mono HB6.out.size))
        have hz7 : w6.heap.size < w7.heap.size := by have := hb7.size; simp at this; omega
        have hz7b : b < w7.heap.size := by omega
        have hz7d : d < w7.heap.size := by omega
        clear hb7 d0 d1 d2 d3
        obtain ⟨c0, c1', c2, c3⟩ := fb_cells m7
        obtain ⟨d0, d1, d2, d3⟩ := fb_cells k7
        obtain ⟨g0, g1, g2, g3⟩ := fb_blk k7
        obtain ⟨e0, e1, e2, e3⟩ := fb_cells l7
        obtain ⟨f0, f1, f2, f3⟩ := fb_blk l7
        have K7 := Lib.hid k7
        have L7 := Lib.hid l7
        clear k7 l7 m7
        go_wp2
        go_roundw
        case rel =>
          refine ⟨k + 1, true, true, z, by omega, by go_num, rfl, rfl, rfl, rfl, by omega, by omega, Lib.hid ?_⟩
          have h8 := fb_b4' (x0 := .int .i64 4) (x1 := .bool true) (x2 := .int .i64 0) (x3 := .int .i64 0) (fb_b4' (x0 := .int .i64 3) (x1 := .bool true) (x2 := .int .i64 0) (x3 := .int .i64 0) HB7.out hbb) (show W.heap.size ≤ d by omega)
          exact ⟨heap_keep' (fb_set4o hne2 (fb_set4 K7.out)), heap_keep' (fb_set4 (fb_set4o hne1 L7.out)), h8.alloc h8.size _, hbb, hbd⟩
        case measure => simp [intOf]; omega
      · go_wp2_with fail
        refine (HE.out true true false rfl _ (HT.out.below HB2.out (Nat.le_refl _))).mono ?_
        rintro e w6 ⟨rfl, hb6⟩
        have HB6' := HB2.out.trans (hb6.mono HB2.out.size)
        have HB6 := Lib.hid (HB6'.alloc HB6'.size (fbO 3 true 0 0))
        have K6 := Lib.hid (heap_keep' (o' := (fbO 3 true 0 0)) ((hb6.block b hzb2).trans K2.out))
        have l6 := heap_keep' (o' := (fbO 3 true 0 0)) ((hb6.block d hzd2).trans L2.out)
        have L6 := Lib.hid l6
        have M6 := Lib.hid (heap_alloc_new w6 (fbO 3 true 0 0))
        have hz6 : d < w6.heap.size := by have := hb6.size; omega
        have hz6b : b < w6.heap.size := by omega
        obtain ⟨d0, d1, d2, d3⟩ := fb_cells ((hb6.block d hzd2).trans L2.out)
        clear hb6 c0 c1' c2 c3 l6 HB6'
        go_wp2_with fail
        refine (HL.out true true false true rfl _ (HT.out.below HB6.out (Nat.le_refl _))).mono ?_
        rintro e w7 ⟨rfl, hb7⟩
        have k7 := (hb7.block b (by simp; omega)).trans K6.out
        have l7 := (hb7.block d (by simp; omega)).trans L6.out
        have m7 := (hb7.block w6.heap.size (by simp)).trans M6.out
        have HB7 := Lib.hid (HB6.out.trans (hb7.mono HB6.out.size))
        have hz7 : w6.heap.size < w7.heap.size := by have := hb7.size; simp at this; omega
        have hz7b : b < w7.heap.size := by omega
        have hz7d : d < w7.heap.size := by omega
        clear hb7 d0 d1 d2 d3
        obtain ⟨c0, c1', c2, c3⟩ := fb_cells m7
        obtain ⟨d0, d1, d2, d3⟩ := fb_cells k7
        obtain ⟨g0, g1, g2, g3⟩ := fb_blk k7
        obtain ⟨e0, e1, e2, e3⟩ := fb_cells l7
        obtain ⟨f0, f1, f2, f3⟩ := fb_blk l7
        have K7 := Lib.hid k7
        have L7 := Lib.hid l7
        clear k7 l7 m7
        go_wp2
        go_roundw
        case rel =>
          refine ⟨k + 1, true, true, z, by omega, by go_num, rfl, rfl, rfl, rfl, by omega, by omega, Lib.hid ?_⟩
          have h8 := fb_b4' (x0 := .int .i64 4) (x1 := .bool true) (x2 := .int .i64 0) (x3 := .int .i64 0) (fb_b4' (x0 := .int .i64 3) (x1 := .bool true) (x2 := .int .i64 0) (x3 := .int .i64 0) HB7.out hbb) (show W.heap.size ≤ d by omega)
          exact ⟨heap_keep' (fb_set4o hne2 (fb_set4 K7.out)), heap_keep' (fb_set4 (fb_set4o hne1 L7.out)), h8.alloc h8.size _, hbb, hbd⟩
        case measure => simp [intOf]; omega
      · go_wp2_with fail
        refine (HE.out false true true rfl _ (HT.out.below HB2.out (Nat.le_refl _))).mono ?_
        rintro e w6 ⟨rfl, hb6⟩
        have HB6' := HB2.out.trans (hb6.mono HB2.out.size)
        have HB6 := Lib.hid (HB6'.alloc HB6'.size (fbO 3 true 0 0))
        have K6 := Lib.hid (heap_keep' (o' := (fbO 3 true 0 0)) ((hb6.block b hzb2).trans K2.out))
        have l6 := heap_keep' (o' := (fbO 3 true 0 0)) ((hb6.block d hzd2).trans L2.out)
        have L6 := Lib.hid l6
        have M6 := Lib.hid (heap_alloc_new w6 (fbO 3 true 0 0))
        have hz6 : d < w6.heap.size := by have := hb6.size; omega
        have hz6b : b < w6.heap.size := by omega
        obtain ⟨d0, d1, d2, d3⟩ := fb_cells ((hb6.block d hzd2).trans L2.out)
        clear hb6 c0 c1' c2 c3 l6 HB6'
        go_wp2_with fail
        refine (HL.out false true true true rfl _ (HT.out.below HB6.out (Nat.le_refl _))).mono ?_
        rintro e w7 ⟨rfl, hb7⟩
        have k7 := (hb7.block b (by simp; omega)).trans K6.out
        have l7 := (hb7.block d (by simp; omega)).trans L6.out
        have m7 := (hb7.block w6.heap.size (by simp)).trans M6.out
        have HB7 := Lib.hid (HB6.out.trans (hb7.mono HB6.out.size))
        have hz7 : w6.heap.size < w7.heap.size := by have := hb7.size; simp at this; omega
        have hz7b : b < w7.heap.size := by omega
        have hz7d : d < w7.heap.size := by omega
        clear hb7 d0 d1 d2 d3
        obtain ⟨c0, c1', c2, c3⟩ := fb_cells m7
        obtain ⟨d0, d1, d2, d3⟩ := fb_cells k7
        obtain ⟨g0, g1, g2, g3⟩ := fb_blk k7
        obtain ⟨e0, e1, e2, e3⟩ := fb_cells l7
        obtain ⟨f0, f1, f2, f3⟩ := fb_blk l7
        have K7 := Lib.hid k7
        have L7 := Lib.hid l7
        clear k7 l7 m7
        go_wp2
        go_roundw
        case rel =>
          refine ⟨k + 1, true, true, (z + 1), by omega, by go_num, rfl, rfl, rfl, rfl, by omega, by omega, Lib.hid ?_⟩
          have h8 := fb_b4' (x0 := .int .i64 4) (x1 := .bool true) (x2 := .int .i64 0) (x3 := .int .i64 0) (fb_b4' (x0 := .int .i64 3) (x1 := .bool true) (x2 := .int .i64 0) (x3 := .int .i64 0) HB7.out hbb) (show W.heap.size ≤ d by omega)
          exact ⟨heap_keep' (fb_set4o hne2 (fb_set4 K7.out)), heap_keep' (fb_set4 (fb_set4o hne1 L7.out)), h8.alloc h8.size _, hbb, hbd⟩
        case measure => simp [intOf]; omega
      · go_wp2_with fail
        refine (HE.out false true true rfl _ (HT.out.below HB2.out (Nat.le_refl _))).mono ?_
        rintro e w6 ⟨rfl, hb6⟩
        have HB6' := HB2.out.trans (hb6.mono HB2.out.size)
        have HB6 := Lib.hid (HB6'.alloc HB6'.size (fbO 3 true 0 0))
        have K6 := Lib.hid (heap_keep' (o' := (fbO 3 true 0 0)) ((hb6.block b hzb2).trans K2.out))
        have l6 := heap_keep' (o' := (fbO 3 true 0 0)) ((hb6.block d hzd2).trans L2.out)
        have L6 := Lib.hid l6
        have M6 := Lib.hid (heap_alloc_new w6 (fbO 3 true 0 0))
        have hz6 : d < w6.heap.size := by have := hb6.size; omega
        have hz6b : b < w6.heap.size := by omega
        obtain ⟨d0, d1, d2, d3⟩ := fb_cells ((hb6.block d hzd2).trans L2.out)
        clear hb6 c0 c1' c2 c3 l6 HB6'
        go_wp2_with fail
        refine (HL.out true true true true rfl _ (HT.out.below HB6.out (Nat.le_refl _))).mono ?_
        rintro e w7 ⟨rfl, hb7⟩
        have k7 := (hb7.block b (by simp; omega)).trans K6.out
        have l7 := (hb7.block d (by simp; omega)).trans L6.out
        have m7 := (hb7.block w6.heap.size (by simp)).trans M6.out
        have HB7 := Lib.hid (HB6.out.trans (hb7.mono HB6.out.size))
        have hz7 : w6.heap.size < w7.heap.size := by have := hb7.size; simp at this; omega
        have hz7b : b < w7.heap.size := by omega
        have hz7d : d < w7.heap.size := by omega
        clear hb7 d0 d1 d2 d3
        obtain ⟨c0, c1', c2, c3⟩ := fb_cells m7
        obtain ⟨d0, d1, d2, d3⟩ := fb_cells k7
        obtain ⟨g0, g1, g2, g3⟩ := fb_blk k7
        obtain ⟨e0, e1, e2, e3⟩ := fb_cells l7
        obtain ⟨f0, f1, f2, f3⟩ := fb_blk l7
        have K7 := Lib.hid k7
        have L7 := Lib.hid l7
        clear k7 l7 m7
        go_wp2
        go_roundw
        case rel =>
          refine ⟨k + 1, true, true, (z + 1), by omega, by go_num, rfl, rfl, rfl, rfl, by omega, by omega, Lib.hid ?_⟩
          have h8 := fb_b4' (x0 := .int .i64 4) (x1 := .bool true) (x2 := .int .i64 0) (x3 := .int .i64 0) (fb_b4' (x0 := .int .i64 3) (x1 := .bool true) (x2 := .int .i64 0) (x3 := .int .i64 0) HB7.out hbb) (show W.heap.size ≤ d by omega)
          exact ⟨heap_keep' (fb_set4o hne2 (fb_set4 K7.out)), heap_keep' (fb_set4 (fb_set4o hne1 L7.out)), h8.alloc h8.size _, hbb, hbd⟩
        case measure => simp [intOf]; omega
      · go_wp2_with fail
        refine (HE.out true true false rfl _ (HT.out.below HB2.out (Nat.le_refl _))).mono ?_
        rintro e w6 ⟨rfl, hb6⟩
        have HB6' := HB2.out.trans (hb6.mono HB2.out.size)
        have HB6 := Lib.hid (HB6'.alloc HB6'.size (fbO 3 true 0 0))
        have K6 := Lib.hid (heap_keep' (o' := (fbO 3 true 0 0)) ((hb6.block b hzb2).trans K2.out))
        have l6 := heap_keep' (o' := (fbO 3 true 0 0)) ((hb6.block d hzd2).trans L2.out)
        have L6 := Lib.hid l6
        have M6 := Lib.hid (heap_alloc_new w6 (fbO 3 true 0 0))
        have hz6 : d < w6.heap.size := by have := hb6.size; omega
        have hz6b : b < w6.heap.size := by omega
        obtain ⟨d0, d1, d2, d3⟩ := fb_cells ((hb6.block d hzd2).trans L2.out)
        clear hb6 c0 c1' c2 c3 l6 HB6'
        go_wp2_with fail
        refine (HL.out false true true true rfl _ (HT.out.below HB6.out (Nat.le_refl _))).mono ?_
        rintro e w7 ⟨rfl, hb7⟩
        have k7 := (hb7.block b (by simp; omega)).trans K6.out
        have l7 := (hb7.block d (by simp; omega)).trans L6.out
        have m7 := (hb7.block w6.heap.size (by simp)).trans M6.out
        have HB7 := Lib.hid (HB6.out.trans (hb7.mono HB6.out.size))
        have hz7 : w6.heap.size < w7.heap.size := by have := hb7.size; simp at this; omega
        have hz7b : b < w7.heap.size := by omega
        have hz7d : d < w7.heap.size := by omega
        clear hb7 d0 d1 d2 d3
        obtain ⟨c0, c1', c2, c3⟩ := fb_cells m7
        obtain ⟨d0, d1, d2, d3⟩ := fb_cells k7
        obtain ⟨g0, g1, g2, g3⟩ := fb_blk k7
        obtain ⟨e0, e1, e2, e3⟩ := fb_cells l7
        obtain ⟨f0, f1, f2, f3⟩ := fb_blk l7
        have K7 := Lib.hid k7
        have L7 := Lib.hid l7
        clear k7 l7 m7
        go_wp2
        go_roundw
        case rel =>
          refine ⟨k + 1, true, true, z, by omega, by go_num, rfl, rfl, rfl, rfl, by omega, by omega, Lib.hid ?_⟩
          have h8 := fb_b4' (x0 := .int .i64 4) (x1 := .bool true) (x2 := .int .i64 0) (x3 := .int .i64 0) (fb_b4' (x0 := .int .i64 3) (x1 := .bool true) (x2 := .int .i64 0) (x3 := .int .i64 0) HB7.out hbb) (show W.heap.size ≤ d by omega)
          exact ⟨heap_keep' (fb_set4o hne2 (fb_set4 K7.out)), heap_keep' (fb_set4 (fb_set4o hne1 L7.out)), h8.alloc h8.size _, hbb, hbd⟩
        case measure => simp [intOf]; omega
      · go_wp2_with fail
        refine (HE.out true true false rfl _ (HT.out.below HB2.out (Nat.le_refl _))).mono ?_
        rintro e w6 ⟨rfl, hb6⟩
        have HB6' := HB2.out.trans (hb6.mono HB2.out.size)
        have HB6 := Lib.hid (HB6'.alloc HB6'.size (fbO 3 true 0 0))
        have K6 := Lib.hid (heap_keep' (o' := (fbO 3 true 0 0)) ((hb6.block b hzb2).trans K2.out))
        have l6 := heap_keep' (o' := (fbO 3 true 0 0)) ((hb6.block d hzd2).trans L2.out)
        have L6 := Lib.hid l6
        have M6 := Lib.hid (heap_alloc_new w6 (fbO 3 true 0 0))
        have hz6 : d < w6.heap.size := by have := hb6.size; omega
        have hz6b : b < w6.heap.size := by omega
        obtain ⟨d0, d1, d2, d3⟩ := fb_cells ((hb6.block d hzd2).trans L2.out)
        clear hb6 c0 c1' c2 c3 l6 HB6'
        go_wp2_with fail
        refine (HL.out true true true true rfl _ (HT.out.below HB6.out (Nat.le_refl _))).mono ?_
        rintro e w7 ⟨rfl, hb7⟩
        have k7 := (hb7.block b (by simp; omega)).trans K6.out
        have l7 := (hb7.block d (by simp; omega)).trans L6.out
        have m7 := (hb7.block w6.heap.size (by simp)).trans M6.out
        have HB7 := Lib.hid (HB6.out.trans (hb7.mono HB6.out.size))
        have hz7 : w6.heap.size < w7.heap.size := by have := hb7.size; simp at this; omega
        have hz7b : b < w7.heap.size := by omega
        have hz7d : d < w7.heap.size := by omega
        clear hb7 d0 d1 d2 d3
        obtain ⟨c0, c1', c2, c3⟩ := fb_cells m7
        obtain ⟨d0, d1, d2, d3⟩ := fb_cells k7
        obtain ⟨g0, g1, g2, g3⟩ := fb_blk k7
        obtain ⟨e0, e1, e2, e3⟩ := fb_cells l7
        obtain ⟨f0, f1, f2, f3⟩ := fb_blk l7
        have K7 := Lib.hid k7
        have L7 := Lib.hid l7
        clear k7 l7 m7
        go_wp2
        go_roundw
        case rel =>
          refine ⟨k + 1, true, true, z, by omega, by go_num, rfl, rfl, rfl, rfl, by omega, by omega, Lib.hid ?_⟩
          have h8 := fb_b4' (x0 := .int .i64 4) (x1 := .bool true) (x2 := .int .i64 0) (x3 := .int .i64 0) (fb_b4' (x0 := .int .i64 3) (x1 := .bool true) (x2 := .int .i64 0) (x3 := .int .i64 0) HB7.out hbb) (show W.heap.size ≤ d by omega)
          exact ⟨heap_keep' (fb_set4o hne2 (fb_set4 K7.out)), heap_keep' (fb_set4 (fb_set4o hne1 L7.out)), h8.alloc h8.size _, hbb, hbd⟩
        case measure => simp [intOf]; omega
    · obtain rfl : k = 16 := by omega
      obtain ⟨_, _, hB, _, _⟩ := ht.out
      have HB := Lib.hid hB
      have hzz : (z == z) = true := by simp
      clear hB
      go_wp2_with fail
      refine (fbDrawn_any a n _ wr (fb_bel B0.out HB.out HB.out.size)).mono ?_
      rintro e w4 ⟨x, xo, xs, xc, rfl, hok, hb4⟩
      have HB4' := HB.out.trans (hb4.mono HB.out.size)
      have HB4 := Lib.hid (HB4'.alloc HB4'.size (fbO x xo xs xc))
      have M4 := Lib.hid (heap_alloc_new w4 (fbO x xo xs xc))
      have HX := Lib.hid (fun w ht hp => fbText_any x xo xs xc w ht hp)
      have HY := Lib.hid (fun w => specFbText_any x xo xs xc w)
      have HC : Hid (fbTC x xo xs xc = 0 ∧ takesC x = 0) := Lib.hid (by
        refine ⟨(fbText_in hok).2, ?_⟩
        unfold takesC
        rw [if_pos]
        rcases fb_kinds hok with ⟨rfl, _⟩ | ⟨rfl, _⟩ | ⟨rfl, _⟩ | ⟨rfl, _⟩ <;> rfl)
      have HT1 := Lib.hid (fun w ht => takesOf_any x w ht)
      have HT2 := Lib.hid (fun w => specTakesOf_any x w)
      rw [HC.out.1] at HX HY
      rw [HC.out.2] at HT1 HT2
      generalize fbTF x xo xs xc = X at *
      generalize takesF x = Y at *
      clear hb4 HB4' hok HC
      go_wp2_with fail
      refine (HX.out _ (HT.out.below HB4.out (Nat.le_refl _)) (HP.out.below HB4.out (Nat.le_refl _))).mono ?_
      rintro e w5 ⟨rfl, hb5⟩
      have HB5 := Lib.hid (HB4.out.trans (hb5.mono HB4.out.size))
      have M5 := Lib.hid ((hb5.block w4.heap.size (by simp)).trans M4.out)
      have hz5 : w4.heap.size < w5.heap.size := by have := hb5.size; simp at this; omega
      obtain ⟨c0, c1', c2, c3⟩ := fb_cells M5.out
      clear hb5
      go_wp2_with fail
      refine (HY.out _).mono ?_
      rintro e w6 ⟨rfl, hb6⟩
      have HB6 := Lib.hid (HB5.out.trans (hb6.mono HB5.out.size))
      have m6 := (hb6.block w4.heap.size hz5).trans M5.out
      clear hb6 c0 c1' c2 c3
      obtain ⟨c0, c1', c2, c3⟩ := fb_cells m6
      clear m6
      go_wp2_with fail
      refine (HT1.out _ (HT.out.below HB6.out (Nat.le_refl _))).mono ?_
      rintro e w' ⟨rfl, rfl⟩
      go_wp2_with fail
      refine (HT2.out _).mono ?_
      rintro e w7 ⟨rfl, hb7⟩
      have HB7 := Lib.hid (HB6.out.trans (hb7.mono HB6.out.size))
      have q1 : (X == X) = true := by simp
      have q2 : (Y.toList == Y.toList) = true := by simp
      clear hb7 c0 c1' c2 c3
      go_wp2
      go_ret
      exact ⟨rfl, HB7.out⟩
end Go.Proofs.YtknfimadhnlpjaaDoor
