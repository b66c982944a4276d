/- The law: a timer is true just if its input has been true for as long as it is set to. -/
import Derived.Test.YtknfimadhnlpjaaDoorFbLaw
import Derived.Test.YtknfimadhnlpjaaDoorAt
import Derived.Test.YtknfimadhnlpjaaDoorFbText
import Derived.LoopTactic
namespace Go.Proofs.YtknfimadhnlpjaaDoor
open Go.ChangeShapes Go.WideShapes Go.ChangeAt Go.RowKit
theorem fb_bytes {W : World} {a : Option Addr} {n c : Nat} (h : Came Tryd.prog W 22 [.slice a n c]) : Bytes0 W W.heap.size a n := by
  obtain ⟨hm, hx⟩ := came_ints Tryd.underlying22 Tryd.underlying5 (by kernel_rfl) h
  refine ⟨hm, fun hn => ?_⟩
  obtain ⟨x, e, hb, hc⟩ := hx hn
  refine ⟨x, e, hb, fun i hi => ?_⟩
  obtain ⟨z, wz, hz⟩ := hc i hi
  have := bounds_u8 wz
  exact ⟨z, by omega, by omega, hz⟩
theorem fb_bel {w w' : World} {B n : Nat} {a : Option Addr} (h : Bytes0 w B a n) (g : Below B w w') {B' : Nat} (hB : B ≤ B') : Bytes0 w' B' a n :=
  ⟨h.1, fun hn => by
    obtain ⟨x, e, hx, hc⟩ := h.2 hn
    refine ⟨x, e, by omega, fun i hi => ?_⟩
    obtain ⟨z, z0, z1, hz⟩ := hc i hi
    exact ⟨z, z0, z1, (g.cell (by rw [add_block]; exact hx)).trans hz⟩⟩
theorem newFb_is (k : Int) (h : kindB k = true) (w : World) : Calls Tryd.prog 11 #[.int .i64 k] w fun e w' => e = .returned (.tuple #[fbE k false 0 0, .int .i64 0]) ∧ Below w.heap.size w w' := by
  have H := Lib.hid h
  clear h
  go_enter Tryd.func11, Tryd.ntmps11
  go_wp2_with (go_at_call 26; refine (isKind_is H.out _).mono ?_; rintro e w' ⟨rfl, rfl⟩)
  refine bodyPost_ret (v := .tuple #[fbE k false 0 0, .int .i64 0]) (by simp [results, Tryd.results11, go_sem]) rfl ⟨rfl, ?_⟩
  exact (Below.refl w.heap.size w).alloc (Nat.le_refl _) _
theorem fb_val {k : Int} {o : Bool} {s c : Int} (h : fbOKB k o s c = true) (w : World) (ht : FbTab w) : Calls Tryd.prog 14 #[fbE k o s c] w fun e w' => e = .returned (.tuple #[.int .i64 c, .int .i64 0]) ∧ Below w.heap.size w w' := by
  have := valueOf_any k o s c w ht
  unfold valF valC at this
  rw [if_pos h, if_pos h] at this
  exact this
/-- What holds of a timer ahead of a round: its block, since when its input has been true. -/
def TmAt (W wr : World) (b : Nat) (sn nw : Int) : Prop :=
  ∃ (o : Bool) (s c : Int), wr.heap[b]? = some (fbO 1 o s c) ∧ fbOKB 1 o s c = true ∧ ((o = false ∧ sn = -1) ∨ (o = true ∧ s = sn ∧ 0 ≤ sn ∧ sn ≤ nw)) ∧ Below W.heap.size W wr ∧ W.heap.size ≤ b
theorem tm_ok {o : Bool} {s c : Int} (hs : 0 ≤ s ∧ s ≤ 2147483647) (hc : 0 ≤ c ∧ c ≤ 2147483647) (h : o = true ∨ (s = 0 ∧ c = 0)) : fbOKB 1 o s c = true := by
  rw [fbOK_1]
  unfold fbIn
  rw [decide_eq_true hs, decide_eq_true hc]
  rcases h with rfl | ⟨rfl, rfl⟩ <;> simp
theorem tm_rng {o : Bool} {s c : Int} (h : fbOKB 1 o s c = true) : 0 ≤ s ∧ s ≤ 2147483647 := by
  rcases fb_kinds h with ⟨_, hs, _⟩ | ⟨h, _⟩ | ⟨h, _⟩ | ⟨h, _⟩ <;> first | exact hs | (exact absurd h (by decide))
theorem fb_set4 {w : World} {b : Nat} {x0 x1 x2 x3 y0 y1 y2 y3 : Value} {t : TypeId} (h : w.heap[b]? = some (.cells #[x0, x1, x2, x3] t (0, 0))) :
    ((((w.setCell ⟨b, 0, none⟩ y0).setCell ⟨b, 1, none⟩ y1).setCell ⟨b, 2, none⟩ y2).setCell ⟨b, 3, none⟩ y3).heap[b]? = some (.cells #[y0, y1, y2, y3] t (0, 0)) :=
  fb_set (fb_set (fb_set (fb_set h 0 y0) 1 y1) 2 y2) 3 y3
theorem fb_b4' {W w4 : World} {b : Nat} {x0 x1 x2 x3 : Value} (h : Below W.heap.size W w4) (g : W.heap.size ≤ b) : Below W.heap.size W ((((w4.setCell ⟨b, 0, none⟩ x0).setCell ⟨b, 1, none⟩ x1).setCell ⟨b, 2, none⟩ x2).setCell ⟨b, 3, none⟩ x3) := fb_b4 h g
/-- A round: what the input, the elapsed time and the state make. -/
theorem tm_round (o : Bool) (s c set sn nw u : Int) (hok : fbOKB 1 o s c = true) (hst : (o = false ∧ sn = -1) ∨ (o = true ∧ s = sn ∧ 0 ≤ sn ∧ sn ≤ nw)) (h0 : 0 ≤ set ∧ set ≤ 11) (hn : 0 ≤ nw ∧ nw ≤ 1000) (hu : 0 ≤ u) :
    ∃ (a : Bool) (s' c' : Int) (q : Bool), (∀ w, FbTab w → Calls Tryd.prog 13 #[fbE 1 o s c, .bool a, .bool false, .int .i64 set, .int .i64 nw] w fun e w' => e = .returned (.tuple #[fbE 1 a s' c', .bool q, .int .i64 0]) ∧ Below w.heap.size w w') ∧ fbOKB 1 a s' c' = true ∧
      ((a = false ∧ u ≤ 0 ∧ s' = 0 ∧ c' = 0 ∧ q = false) ∨ (a = true ∧ 0 < u ∧ sn < 0 ∧ s' = nw ∧ c' = 0 ∧ ((set ≤ 0 ∧ q = true) ∨ (0 < set ∧ q = false))) ∨
       (a = true ∧ 0 < u ∧ 0 ≤ sn ∧ sn ≤ nw ∧ s' = sn ∧ ((set ≤ nw - sn ∧ c' = set ∧ q = true) ∨ (nw - sn < set ∧ c' = nw - sn ∧ q = false)))) := by
  have hr := tm_rng hok
  have hi : inI32 set = true := inI32_of (by omega) (by omega)
  have hw : fbIn nw 0 2147483647 = true := decide_eq_true (by omega)
  have H := fun a w ht => stepBlock_timer o a false s c set nw hok hi hw w ht
  by_cases hu0 : 0 < u
  · rcases hst with ⟨rfl, rfl⟩ | ⟨rfl, rfl, h1, h2⟩
    · have hC : tmC false true s set nw = 0 := by simp [tmC]; omega
      have hS : tmS false true s nw = nw := rfl
      have hH := H true
      simp only [hC, hS, tmQ] at hH
      refine ⟨true, nw, 0, _, hH, tm_ok (by omega) (by omega) (.inl rfl), .inr (.inl ⟨rfl, hu0, by omega, rfl, rfl, ?_⟩)⟩
      by_cases hz : set ≤ 0
      · exact .inl ⟨hz, by simpa using hz⟩
      · exact .inr ⟨by omega, by simpa using hz⟩
    · have hH := H true
      by_cases hz : set ≤ nw - s
      · have hC : tmC true true s set nw = set := by simp [tmC]; omega
        have hS : tmS true true s nw = s := rfl
        simp only [hC, hS, tmQ] at hH
        exact ⟨true, s, set, _, hH, tm_ok hr (by omega) (.inl rfl), .inr (.inr ⟨rfl, hu0, h1, h2, rfl, .inl ⟨hz, rfl, by simp⟩⟩)⟩
      · have hC : tmC true true s set nw = nw - s := by simp [tmC]; omega
        have hS : tmS true true s nw = s := rfl
        simp only [hC, hS, tmQ] at hH
        exact ⟨true, s, nw - s, _, hH, tm_ok hr (by omega) (.inl rfl), .inr (.inr ⟨rfl, hu0, h1, h2, rfl, .inr ⟨by omega, rfl, by simp; omega⟩⟩)⟩
  · exact ⟨false, 0, 0, false, fun w ht => H false w ht, tm_ok (by omega) (by omega) (.inr ⟨rfl, rfl⟩), .inl ⟨rfl, by omega, rfl, rfl, rfl⟩⟩
set_option maxRecDepth 100000 in
set_option maxHeartbeats 4000000 in
theorem FnTimer_came (a : Option Addr) (n c : Nat) (a1 : Option Addr) (n1 c1 : Nat) (W : World) (h0 : Came Tryd.prog W 22 [.slice a n c]) (h1 : Came Tryd.prog W 22 [.slice a1 n1 c1]) (ht : FbTab W) :
    Calls Tryd.prog 3 #[.slice a n c, .slice a1 n1 c1] W fun e w' => e = .returned (.bool true) ∧ Below W.heap.size W w' := by
  have B0 := Lib.hid (fb_bytes h0)
  have B1 := Lib.hid (fb_bytes h1)
  have hn := B0.out.1
  have hn1 := B1.out.1
  unfold maxLen at hn hn1
  have HT := Lib.hid ht
  clear ht h0 h1
  by_cases l0 : 1048576 < n
  · go_enter Tryd.func3, Tryd.ntmps3
    go_wp2
    go_ret
    exact ⟨rfl, Below.refl _ _⟩
  by_cases l1 : 1048576 < n1
  · go_enter Tryd.func3, Tryd.ntmps3
    go_wp2
    go_ret
    exact ⟨rfl, Below.refl _ _⟩
  have p0 : decide (1048576 < (n : Int)) = false := decide_eq_false (by omega)
  have p1 : decide (1048576 < (n1 : Int)) = false := decide_eq_false (by omega)
  go_enter Tryd.func3, Tryd.ntmps3
  go_wp2_with fail
  refine (newFb_is 1 rfl _).mono ?_
  rintro e w1 ⟨rfl, hb1⟩
  have Hb1 := Lib.hid (hb1.alloc hb1.size (fbO 1 false 0 0))
  have K1 := Lib.hid (heap_alloc_new w1 (fbO 1 false 0 0))
  have hz1 := hb1.size
  clear hb1
  go_wp2_with fail
  refine (at_any a1 n1 c1 _ (fb_bel B1.out Hb1.out Hb1.out.size) (by omega) 0 12 (by omega) (by omega)).mono ?_
  rintro e w2 ⟨set, rfl, s0, s1, q, rfl⟩
  have Hb2 := Lib.hid (fb_dn Hb1.out q)
  have K2 : Hid (((w1.alloc (fbO 1 false 0 0)).drewN q).heap[w1.heap.size]? = some (fbO 1 false 0 0)) := K1
  have Hi : Hid (TmAt W ((w1.alloc (fbO 1 false 0 0)).drewN q) w1.heap.size (-1) 0) := Lib.hid ⟨false, 0, 0, K2.out, by decide, .inl ⟨rfl, rfl⟩, Hb2.out, hz1⟩
  clear Hb1 K1 Hb2 K2
  generalize w1.heap.size = b at *
  generalize (w1.alloc (fbO 1 false 0 0)).drewN q = w3 at *
  go_wp2
  go_loopw [8, 9, 10] (fun sn nw i wr => ∃ (k : Nat) (z y : Int), k ≤ 20 ∧ i = .int .i64 k ∧ sn = .int .i64 z ∧ nw = .int .i64 y ∧ 0 ≤ y ∧ y ≤ 3 * k ∧ Hid (TmAt W wr b z y)) (fun _ _ i _ => 20 - (intOf i).toNat)
  case atStart => exact ⟨0, -1, 0, by omega, rfl, rfl, rfl, by omega, by omega, Hi⟩
  case round =>
    obtain ⟨k, z, y, hk, rfl, rfl, rfl, y0, y1, ht⟩ := hrel
    by_cases hlt : k < 20
    · obtain ⟨o, s, c, hK, hok, hst, hB, hbb⟩ := ht.out
      have KB := Lib.hid hK
      have HB := Lib.hid hB
      have hzb : b < wr.heap.size := by
        rcases Nat.lt_or_ge b wr.heap.size with h | h
        · exact h
        · rw [Array.getElem?_eq_none h] at hK; cases hK
      clear hK hB ht
      go_wp2_with fail
      refine (at_any a n _ wr (fb_bel B0.out HB.out HB.out.size) (by omega) k 4 (by omega) (by omega)).mono ?_
      rintro e w4 ⟨v, rfl, v0, v1, q1, rfl⟩
      go_wp2_with fail
      refine (at_any a1 n1 c1 (wr.drewN q1) (fb_bel B1.out (fb_dn HB.out q1) (fb_dn HB.out q1).size) (by omega) (k + 1) 4 (by omega) (by omega)).mono ?_
      rintro e w5 ⟨u, rfl, u0, u1, q2, rfl⟩
      generalize hnw : y + v = nw at *
      have w0 : 0 ≤ nw := by omega
      have w1' : nw ≤ 3 * ((k + 1 : Nat) : Int) := by omega
      obtain ⟨a', s', c', qq, hST, hok', hcs⟩ := tm_round o s c set z nw u hok (by rcases hst with h | ⟨h1, h2, h3, h4⟩; exact .inl h; exact .inr ⟨h1, h2, h3, by omega⟩) (by omega) (by omega) u0
      clear hnw v0 v1
      have HST := Lib.hid hST
      have HOK := Lib.hid hok'
      clear hST hok hok' hst
      have HB2 : Hid (Below W.heap.size W ((wr.drewN q1).drewN q2)) := Lib.hid (fb_dn (fb_dn HB.out q1) q2)
      have K2 : Hid (((wr.drewN q1).drewN q2).heap[b]? = some (fbO 1 o s c)) := KB
      have hz2 : b < ((wr.drewN q1).drewN q2).heap.size := hzb
      clear HB KB hzb
      generalize (wr.drewN q1).drewN q2 = w5 at *
      obtain ⟨c0, c1', c2, c3⟩ := fb_cells K2.out
      rcases hcs with ⟨rfl, hu, rfl, rfl, rfl⟩ | ⟨rfl, hu, hz, rfl, rfl, ⟨hq, rfl⟩ | ⟨hq, rfl⟩⟩ | ⟨rfl, hu, hz, hz', rfl, ⟨hq, rfl, rfl⟩ | ⟨hq, rfl, rfl⟩⟩
      · have hd : decide (0 < u) = false := decide_eq_false (by omega)
        go_wp2_with fail
        refine (HST.out _ (HT.out.below HB2.out (Nat.le_refl _))).mono ?_
        rintro e w6 ⟨rfl, hb6⟩
        have K6 := Lib.hid (heap_keep' (o' := (fbO 1 false (0) (0))) ((hb6.block b hz2).trans K2.out))
        have HB6 := Lib.hid ((HB2.out.trans (hb6.mono HB2.out.size)).alloc (HB2.out.trans (hb6.mono HB2.out.size)).size (fbO 1 false (0) (0)))
        have L6 := Lib.hid (heap_alloc_new w6 (fbO 1 false (0) (0)))
        have hz6 : b < w6.heap.size := by have := hb6.size; omega
        clear hb6 c0 c1' c2 c3
        go_wp2_with fail
        refine (fb_val HOK.out _ (HT.out.below HB6.out (Nat.le_refl _))).mono ?_
        rintro e w7 ⟨rfl, hb7⟩
        have K7 := Lib.hid ((hb7.block b (by simp; omega)).trans K6.out)
        have L7 := Lib.hid ((hb7.block w6.heap.size (by simp)).trans L6.out)
        have HB7 := Lib.hid (HB6.out.trans (hb7.mono HB6.out.size))
        have hz7 : w6.heap.size < w7.heap.size := by have := hb7.size; simp at this; omega
        obtain ⟨c0, c1', c2, c3⟩ := fb_cells L7.out
        clear hb7
        go_wp2_with fail
        refine (fbOK_is HOK.out _ (HT.out.below HB7.out (Nat.le_refl _))).mono ?_
        rintro e w8 ⟨rfl, hb8⟩
        have k8 := (hb8.block b (by omega)).trans K7.out
        have l8 := (hb8.block w6.heap.size hz7).trans L7.out
        have HB8 := Lib.hid (HB7.out.trans (hb8.mono HB7.out.size))
        clear hb8 c0 c1' c2 c3
        obtain ⟨c0, c1', c2, c3⟩ := fb_cells l8
        obtain ⟨d0, d1, d2, d3⟩ := fb_cells k8
        obtain ⟨g0, g1, g2, g3⟩ := fb_blk k8
        have K8 := Lib.hid k8
        clear k8 l8
        go_wp2
        go_roundw
        case rel => exact ⟨k + 1, (-1), nw, by omega, by go_num, rfl, rfl, by omega, by omega, Lib.hid ⟨false, 0, 0, fb_set4 K8.out, HOK.out, .inl ⟨rfl, rfl⟩, fb_b4' HB8.out hbb, hbb⟩⟩
        case measure => simp [intOf]; omega
      · have hd : decide (0 < u) = true := decide_eq_true (by omega)
        have hz0 : decide (z < 0) = true := decide_eq_true (by omega)
        have hs0 : decide (set ≤ 0) = true := decide_eq_true (by omega)
        have hm0 : min 0 set = 0 := by omega
        go_wp2_with fail
        refine (HST.out _ (HT.out.below HB2.out (Nat.le_refl _))).mono ?_
        rintro e w6 ⟨rfl, hb6⟩
        have K6 := Lib.hid (heap_keep' (o' := (fbO 1 true (s') (0))) ((hb6.block b hz2).trans K2.out))
        have HB6 := Lib.hid ((HB2.out.trans (hb6.mono HB2.out.size)).alloc (HB2.out.trans (hb6.mono HB2.out.size)).size (fbO 1 true (s') (0)))
        have L6 := Lib.hid (heap_alloc_new w6 (fbO 1 true (s') (0)))
        have hz6 : b < w6.heap.size := by have := hb6.size; omega
        clear hb6 c0 c1' c2 c3
        go_wp2_with fail
        refine (fb_val HOK.out _ (HT.out.below HB6.out (Nat.le_refl _))).mono ?_
        rintro e w7 ⟨rfl, hb7⟩
        have K7 := Lib.hid ((hb7.block b (by simp; omega)).trans K6.out)
        have L7 := Lib.hid ((hb7.block w6.heap.size (by simp)).trans L6.out)
        have HB7 := Lib.hid (HB6.out.trans (hb7.mono HB6.out.size))
        have hz7 : w6.heap.size < w7.heap.size := by have := hb7.size; simp at this; omega
        obtain ⟨c0, c1', c2, c3⟩ := fb_cells L7.out
        clear hb7
        go_wp2_with fail
        refine (fbOK_is HOK.out _ (HT.out.below HB7.out (Nat.le_refl _))).mono ?_
        rintro e w8 ⟨rfl, hb8⟩
        have k8 := (hb8.block b (by omega)).trans K7.out
        have l8 := (hb8.block w6.heap.size hz7).trans L7.out
        have HB8 := Lib.hid (HB7.out.trans (hb8.mono HB7.out.size))
        clear hb8 c0 c1' c2 c3
        obtain ⟨c0, c1', c2, c3⟩ := fb_cells l8
        obtain ⟨d0, d1, d2, d3⟩ := fb_cells k8
        obtain ⟨g0, g1, g2, g3⟩ := fb_blk k8
        have K8 := Lib.hid k8
        clear k8 l8
        go_wp2
        go_roundw
        case rel => exact ⟨k + 1, s', s', by omega, by go_num, rfl, rfl, by omega, by omega, Lib.hid ⟨true, s', 0, fb_set4 K8.out, HOK.out, .inr ⟨rfl, rfl, by omega, by omega⟩, fb_b4' HB8.out hbb, hbb⟩⟩
        case measure => simp [intOf]; omega
      · have hd : decide (0 < u) = true := decide_eq_true (by omega)
        have hz0 : decide (z < 0) = true := decide_eq_true (by omega)
        have hs0 : decide (set ≤ 0) = false := decide_eq_false (by omega)
        have hm0 : min 0 set = 0 := by omega
        go_wp2_with fail
        refine (HST.out _ (HT.out.below HB2.out (Nat.le_refl _))).mono ?_
        rintro e w6 ⟨rfl, hb6⟩
        have K6 := Lib.hid (heap_keep' (o' := (fbO 1 true (s') (0))) ((hb6.block b hz2).trans K2.out))
        have HB6 := Lib.hid ((HB2.out.trans (hb6.mono HB2.out.size)).alloc (HB2.out.trans (hb6.mono HB2.out.size)).size (fbO 1 true (s') (0)))
        have L6 := Lib.hid (heap_alloc_new w6 (fbO 1 true (s') (0)))
        have hz6 : b < w6.heap.size := by have := hb6.size; omega
        clear hb6 c0 c1' c2 c3
        go_wp2_with fail
        refine (fb_val HOK.out _ (HT.out.below HB6.out (Nat.le_refl _))).mono ?_
        rintro e w7 ⟨rfl, hb7⟩
        have K7 := Lib.hid ((hb7.block b (by simp; omega)).trans K6.out)
        have L7 := Lib.hid ((hb7.block w6.heap.size (by simp)).trans L6.out)
        have HB7 := Lib.hid (HB6.out.trans (hb7.mono HB6.out.size))
        have hz7 : w6.heap.size < w7.heap.size := by have := hb7.size; simp at this; omega
        obtain ⟨c0, c1', c2, c3⟩ := fb_cells L7.out
        clear hb7
        go_wp2_with fail
        refine (fbOK_is HOK.out _ (HT.out.below HB7.out (Nat.le_refl _))).mono ?_
        rintro e w8 ⟨rfl, hb8⟩
        have k8 := (hb8.block b (by omega)).trans K7.out
        have l8 := (hb8.block w6.heap.size hz7).trans L7.out
        have HB8 := Lib.hid (HB7.out.trans (hb8.mono HB7.out.size))
        clear hb8 c0 c1' c2 c3
        obtain ⟨c0, c1', c2, c3⟩ := fb_cells l8
        obtain ⟨d0, d1, d2, d3⟩ := fb_cells k8
        obtain ⟨g0, g1, g2, g3⟩ := fb_blk k8
        have K8 := Lib.hid k8
        clear k8 l8
        go_wp2
        go_roundw
        case rel => exact ⟨k + 1, s', s', by omega, by go_num, rfl, rfl, by omega, by omega, Lib.hid ⟨true, s', 0, fb_set4 K8.out, HOK.out, .inr ⟨rfl, rfl, by omega, by omega⟩, fb_b4' HB8.out hbb, hbb⟩⟩
        case measure => simp [intOf]; omega
      · have hd : decide (0 < u) = true := decide_eq_true (by omega)
        have hz0 : decide (s' < 0) = false := decide_eq_false (by omega)
        have hs0 : decide (c' ≤ nw - s') = true := decide_eq_true (by omega)
        have hm0 : min (nw - s') c' = c' := by omega
        go_wp2_with fail
        refine (HST.out _ (HT.out.below HB2.out (Nat.le_refl _))).mono ?_
        rintro e w6 ⟨rfl, hb6⟩
        have K6 := Lib.hid (heap_keep' (o' := (fbO 1 true (s') (c'))) ((hb6.block b hz2).trans K2.out))
        have HB6 := Lib.hid ((HB2.out.trans (hb6.mono HB2.out.size)).alloc (HB2.out.trans (hb6.mono HB2.out.size)).size (fbO 1 true (s') (c')))
        have L6 := Lib.hid (heap_alloc_new w6 (fbO 1 true (s') (c')))
        have hz6 : b < w6.heap.size := by have := hb6.size; omega
        clear hb6 c0 c1' c2 c3
        go_wp2_with fail
        refine (fb_val HOK.out _ (HT.out.below HB6.out (Nat.le_refl _))).mono ?_
        rintro e w7 ⟨rfl, hb7⟩
        have K7 := Lib.hid ((hb7.block b (by simp; omega)).trans K6.out)
        have L7 := Lib.hid ((hb7.block w6.heap.size (by simp)).trans L6.out)
        have HB7 := Lib.hid (HB6.out.trans (hb7.mono HB6.out.size))
        have hz7 : w6.heap.size < w7.heap.size := by have := hb7.size; simp at this; omega
        obtain ⟨c0, c1', c2, c3⟩ := fb_cells L7.out
        clear hb7
        go_wp2_with fail
        refine (fbOK_is HOK.out _ (HT.out.below HB7.out (Nat.le_refl _))).mono ?_
        rintro e w8 ⟨rfl, hb8⟩
        have k8 := (hb8.block b (by omega)).trans K7.out
        have l8 := (hb8.block w6.heap.size hz7).trans L7.out
        have HB8 := Lib.hid (HB7.out.trans (hb8.mono HB7.out.size))
        clear hb8 c0 c1' c2 c3
        obtain ⟨c0, c1', c2, c3⟩ := fb_cells l8
        obtain ⟨d0, d1, d2, d3⟩ := fb_cells k8
        obtain ⟨g0, g1, g2, g3⟩ := fb_blk k8
        have K8 := Lib.hid k8
        clear k8 l8
        go_wp2
        go_roundw
        case rel => exact ⟨k + 1, s', nw, by omega, by go_num, rfl, rfl, by omega, by omega, Lib.hid ⟨true, s', c', fb_set4 K8.out, HOK.out, .inr ⟨rfl, rfl, by omega, by omega⟩, fb_b4' HB8.out hbb, hbb⟩⟩
        case measure => simp [intOf]; omega
      · have hd : decide (0 < u) = true := decide_eq_true (by omega)
        have hz0 : decide (s' < 0) = false := decide_eq_false (by omega)
        have hs0 : decide (set ≤ nw - s') = false := decide_eq_false (by omega)
        have hm0 : min (nw - s') set = nw - s' := by omega
        go_wp2_with fail
        refine (HST.out _ (HT.out.below HB2.out (Nat.le_refl _))).mono ?_
        rintro e w6 ⟨rfl, hb6⟩
        have K6 := Lib.hid (heap_keep' (o' := (fbO 1 true (s') (nw - s'))) ((hb6.block b hz2).trans K2.out))
        have HB6 := Lib.hid ((HB2.out.trans (hb6.mono HB2.out.size)).alloc (HB2.out.trans (hb6.mono HB2.out.size)).size (fbO 1 true (s') (nw - s')))
        have L6 := Lib.hid (heap_alloc_new w6 (fbO 1 true (s') (nw - s')))
        have hz6 : b < w6.heap.size := by have := hb6.size; omega
        clear hb6 c0 c1' c2 c3
        go_wp2_with fail
        refine (fb_val HOK.out _ (HT.out.below HB6.out (Nat.le_refl _))).mono ?_
        rintro e w7 ⟨rfl, hb7⟩
        have K7 := Lib.hid ((hb7.block b (by simp; omega)).trans K6.out)
        have L7 := Lib.hid ((hb7.block w6.heap.size (by simp)).trans L6.out)
        have HB7 := Lib.hid (HB6.out.trans (hb7.mono HB6.out.size))
        have hz7 : w6.heap.size < w7.heap.size := by have := hb7.size; simp at this; omega
        obtain ⟨c0, c1', c2, c3⟩ := fb_cells L7.out
        clear hb7
        go_wp2_with fail
        refine (fbOK_is HOK.out _ (HT.out.below HB7.out (Nat.le_refl _))).mono ?_
        rintro e w8 ⟨rfl, hb8⟩
        have k8 := (hb8.block b (by omega)).trans K7.out
        have l8 := (hb8.block w6.heap.size hz7).trans L7.out
        have HB8 := Lib.hid (HB7.out.trans (hb8.mono HB7.out.size))
        clear hb8 c0 c1' c2 c3
        obtain ⟨c0, c1', c2, c3⟩ := fb_cells l8
        obtain ⟨d0, d1, d2, d3⟩ := fb_cells k8
        obtain ⟨g0, g1, g2, g3⟩ := fb_blk k8
        have K8 := Lib.hid k8
        clear k8 l8
        go_wp2
        go_roundw
        case rel => exact ⟨k + 1, s', nw, by omega, by go_num, rfl, rfl, by omega, by omega, Lib.hid ⟨true, s', nw - s', fb_set4 K8.out, HOK.out, .inr ⟨rfl, rfl, by omega, by omega⟩, fb_b4' HB8.out hbb, hbb⟩⟩
        case measure => simp [intOf]; omega
    · obtain rfl : k = 20 := by omega
      obtain ⟨_, _, _, _, _, _, hB, _⟩ := ht.out
      have HB := Lib.hid hB
      clear hB
      go_wp2
      go_ret
      exact ⟨rfl, HB.out⟩
end Go.Proofs.YtknfimadhnlpjaaDoor
