/- The law: a counter counts what rises since it was last set back. -/
import Derived.Test.YtknfimadhnlpjaaDoorFbTimer
namespace Go.Proofs.YtknfimadhnlpjaaDoor
open Go.ChangeShapes Go.WideShapes Go.ChangeAt Go.RowKit
/-- What holds of a counter ahead of a round. -/
def CtAt (W wr : World) (b : Nat) (o : Bool) (c : Int) : Prop := wr.heap[b]? = some (fbO 2 o 0 c) ∧ Below W.heap.size W wr ∧ W.heap.size ≤ b
theorem ct_ok {o : Bool} {c : Int} (hc : 0 ≤ c ∧ c ≤ 2147483647) : fbOKB 2 o 0 c = true := by
  rw [fbOK_2]
  unfold fbIn
  rw [decide_eq_true hc]
  rfl
theorem ct_round (o a bk : Bool) (c c' set i : Int) (hc : 0 ≤ c ∧ c ≤ 1000) (h0 : 0 ≤ set ∧ set ≤ 11) (hi : 0 ≤ i ∧ i ≤ 1000) (hC : ctC o a bk c = c') (w : World) (ht : FbTab w) :
    Calls Tryd.prog 13 #[fbE 2 o 0 c, .bool a, .bool bk, .int .i64 set, .int .i64 i] w fun e w' => e = .returned (.tuple #[fbE 2 a 0 c', .bool (decide (set ≤ c')), .int .i64 0]) ∧ Below w.heap.size w w' := by
  have H := stepBlock_counter o a bk c set i (ct_ok (by omega)) (inI32_of (by omega) (by omega)) (decide_eq_true (by omega)) w ht
  unfold ctQ at H
  rw [hC] at H
  exact H
set_option maxRecDepth 100000 in
set_option maxHeartbeats 4000000 in
theorem FnCounter_came (a : Option Addr) (n c : Nat) (a1 : Option Addr) (n1 c1 : Nat) (W : World) (h0 : Came Tryd.prog W 22 [.slice a n c]) (h1 : Came Tryd.prog W 22 [.slice a1 n1 c1]) (ht : FbTab W) :
    Calls Tryd.prog 4 #[.slice a n c, .slice a1 n1 c1] W fun e w' => e = .returned (.bool true) ∧ Below W.heap.size W w' := by
  have B0 := Lib.hid (fb_bytes h0)
  have B1 := Lib.hid (fb_bytes h1)
  have hn := B0.out.1
  have hn1 := B1.out.1
  unfold maxLen at hn hn1
  have HT := Lib.hid ht
  clear ht h0 h1
  by_cases l0 : 1048576 < n
  · go_enter Tryd.func4, Tryd.ntmps4
    go_wp2
    go_ret
    exact ⟨rfl, Below.refl _ _⟩
  by_cases l1 : 1048576 < n1
  · go_enter Tryd.func4, Tryd.ntmps4
    go_wp2
    go_ret
    exact ⟨rfl, Below.refl _ _⟩
  have p0 : decide (1048576 < (n : Int)) = false := decide_eq_false (by omega)
  have p1 : decide (1048576 < (n1 : Int)) = false := decide_eq_false (by omega)
  go_enter Tryd.func4, Tryd.ntmps4
  go_wp2_with fail
  refine (newFb_is 2 rfl _).mono ?_
  rintro e w1 ⟨rfl, hb1⟩
  have Hb1 := Lib.hid (hb1.alloc hb1.size (fbO 2 false 0 0))
  have K1 := Lib.hid (heap_alloc_new w1 (fbO 2 false 0 0))
  have hz1 := hb1.size
  clear hb1
  go_wp2_with fail
  refine (at_any a1 n1 c1 _ (fb_bel B1.out Hb1.out Hb1.out.size) (by omega) 0 5 (by omega) (by omega)).mono ?_
  rintro e w2 ⟨set, rfl, s0, s1, q, rfl⟩
  have Hb2 := Lib.hid (fb_dn Hb1.out q)
  have K2 : Hid (((w1.alloc (fbO 2 false 0 0)).drewN q).heap[w1.heap.size]? = some (fbO 2 false 0 0)) := K1
  have Hi : Hid (CtAt W ((w1.alloc (fbO 2 false 0 0)).drewN q) w1.heap.size false 0) := Lib.hid ⟨K2.out, Hb2.out, hz1⟩
  clear Hb1 K1 Hb2 K2
  generalize w1.heap.size = b at *
  generalize (w1.alloc (fbO 2 false 0 0)).drewN q = w3 at *
  go_wp2
  go_loopw [8, 9, 10] (fun cn old i wr => ∃ (k : Nat) (o : Bool) (z : Int), k ≤ 20 ∧ i = .int .i64 k ∧ old = .bool o ∧ cn = .int .i64 z ∧ 0 ≤ z ∧ z ≤ k ∧ Hid (CtAt W wr b o z)) (fun _ _ i _ => 20 - (intOf i).toNat)
  case atStart => exact ⟨0, false, 0, by omega, rfl, rfl, rfl, by omega, by omega, Hi⟩
  case round =>
    obtain ⟨k, o, z, hk, rfl, rfl, rfl, z0, z1, ht⟩ := hrel
    by_cases hlt : k < 20
    · obtain ⟨hK, hB, hbb⟩ := ht.out
      have KB := Lib.hid hK
      have HB := Lib.hid hB
      have hzb : b < wr.heap.size := by
        rcases Nat.lt_or_ge b wr.heap.size with h | h
        · exact h
        · rw [Array.getElem?_eq_none h] at hK; cases hK
      clear hK hB ht
      go_wp2_with fail
      refine (at_any a n _ wr (fb_bel B0.out HB.out HB.out.size) (by omega) k 2 (by omega) (by omega)).mono ?_
      rintro e w4 ⟨v, rfl, v0, v1, q1, rfl⟩
      go_wp2_with fail
      refine (at_any a1 n1 c1 (wr.drewN q1) (fb_bel B1.out (fb_dn HB.out q1) (fb_dn HB.out q1).size) (by omega) (k + 1) 7 (by omega) (by omega)).mono ?_
      rintro e w5 ⟨u, rfl, u0, u1, q2, rfl⟩
      have HST := Lib.hid (fun a' bk c' hC w ht => ct_round o a' bk z c' set k (by omega) (by omega) (by omega) hC w ht)
      have HB2 : Hid (Below W.heap.size W ((wr.drewN q1).drewN q2)) := Lib.hid (fb_dn (fb_dn HB.out q1) q2)
      have K2 : Hid (((wr.drewN q1).drewN q2).heap[b]? = some (fbO 2 o 0 z)) := KB
      have hz2 : b < ((wr.drewN q1).drewN q2).heap.size := hzb
      clear HB KB hzb
      generalize (wr.drewN q1).drewN q2 = w5 at *
      obtain ⟨c0, c1', c2, c3⟩ := fb_cells K2.out
      have HOK := Lib.hid (fun (o' : Bool) (c' : Int) h => ct_ok (o := o') (c := c') h)
      cases hv : (v == 1) <;> cases hu : (u == 6) <;> cases o
      · go_wp2_with fail
        refine (HST.out false false (z) (by simp [ctC]) _ (HT.out.below HB2.out (Nat.le_refl _))).mono ?_
        rintro e w6 ⟨rfl, hb6⟩
        have K6 := Lib.hid (heap_keep' (o' := (fbO 2 false 0 (z))) ((hb6.block b hz2).trans K2.out))
        have HB6 := Lib.hid ((HB2.out.trans (hb6.mono HB2.out.size)).alloc (HB2.out.trans (hb6.mono HB2.out.size)).size (fbO 2 false 0 (z)))
        have L6 := Lib.hid (heap_alloc_new w6 (fbO 2 false 0 (z)))
        have hz6 : b < w6.heap.size := by have := hb6.size; omega
        clear hb6 c0 c1' c2 c3
        go_wp2_with fail
        refine (fb_val (HOK.out false (z) (by omega)) _ (HT.out.below HB6.out (Nat.le_refl _))).mono ?_
        rintro e w7 ⟨rfl, hb7⟩
        have k8 := (hb7.block b (by simp; omega)).trans K6.out
        have l8 := (hb7.block w6.heap.size (by simp)).trans L6.out
        have HB8 := Lib.hid (HB6.out.trans (hb7.mono HB6.out.size))
        clear hb7
        obtain ⟨c0, c1', c2, c3⟩ := fb_cells l8
        obtain ⟨d0, d1, d2, d3⟩ := fb_cells k8
        obtain ⟨g0, g1, g2, g3⟩ := fb_blk k8
        have K8 := Lib.hid k8
        clear k8 l8
        go_wp2
        go_roundw
        case rel => exact ⟨k + 1, false, z, by omega, by go_num, rfl, rfl, by omega, by omega, Lib.hid ⟨fb_set4 K8.out, fb_b4' HB8.out hbb, hbb⟩⟩
        case measure => simp [intOf]; omega
      · go_wp2_with fail
        refine (HST.out false false (z) (by simp [ctC]) _ (HT.out.below HB2.out (Nat.le_refl _))).mono ?_
        rintro e w6 ⟨rfl, hb6⟩
        have K6 := Lib.hid (heap_keep' (o' := (fbO 2 false 0 (z))) ((hb6.block b hz2).trans K2.out))
        have HB6 := Lib.hid ((HB2.out.trans (hb6.mono HB2.out.size)).alloc (HB2.out.trans (hb6.mono HB2.out.size)).size (fbO 2 false 0 (z)))
        have L6 := Lib.hid (heap_alloc_new w6 (fbO 2 false 0 (z)))
        have hz6 : b < w6.heap.size := by have := hb6.size; omega
        clear hb6 c0 c1' c2 c3
        go_wp2_with fail
        refine (fb_val (HOK.out false (z) (by omega)) _ (HT.out.below HB6.out (Nat.le_refl _))).mono ?_
        rintro e w7 ⟨rfl, hb7⟩
        have k8 := (hb7.block b (by simp; omega)).trans K6.out
        have l8 := (hb7.block w6.heap.size (by simp)).trans L6.out
        have HB8 := Lib.hid (HB6.out.trans (hb7.mono HB6.out.size))
        clear hb7
        obtain ⟨c0, c1', c2, c3⟩ := fb_cells l8
        obtain ⟨d0, d1, d2, d3⟩ := fb_cells k8
        obtain ⟨g0, g1, g2, g3⟩ := fb_blk k8
        have K8 := Lib.hid k8
        clear k8 l8
        go_wp2
        go_roundw
        case rel => exact ⟨k + 1, false, z, by omega, by go_num, rfl, rfl, by omega, by omega, Lib.hid ⟨fb_set4 K8.out, fb_b4' HB8.out hbb, hbb⟩⟩
        case measure => simp [intOf]; omega
      · go_wp2_with fail
        refine (HST.out false true (0) (by simp [ctC]) _ (HT.out.below HB2.out (Nat.le_refl _))).mono ?_
        rintro e w6 ⟨rfl, hb6⟩
        have K6 := Lib.hid (heap_keep' (o' := (fbO 2 false 0 (0))) ((hb6.block b hz2).trans K2.out))
        have HB6 := Lib.hid ((HB2.out.trans (hb6.mono HB2.out.size)).alloc (HB2.out.trans (hb6.mono HB2.out.size)).size (fbO 2 false 0 (0)))
        have L6 := Lib.hid (heap_alloc_new w6 (fbO 2 false 0 (0)))
        have hz6 : b < w6.heap.size := by have := hb6.size; omega
        clear hb6 c0 c1' c2 c3
        go_wp2_with fail
        refine (fb_val (HOK.out false (0) (by omega)) _ (HT.out.below HB6.out (Nat.le_refl _))).mono ?_
        rintro e w7 ⟨rfl, hb7⟩
        have k8 := (hb7.block b (by simp; omega)).trans K6.out
        have l8 := (hb7.block w6.heap.size (by simp)).trans L6.out
        have HB8 := Lib.hid (HB6.out.trans (hb7.mono HB6.out.size))
        clear hb7
        obtain ⟨c0, c1', c2, c3⟩ := fb_cells l8
        obtain ⟨d0, d1, d2, d3⟩ := fb_cells k8
        obtain ⟨g0, g1, g2, g3⟩ := fb_blk k8
        have K8 := Lib.hid k8
        clear k8 l8
        go_wp2
        go_roundw
        case rel => exact ⟨k + 1, false, 0, by omega, by go_num, rfl, rfl, by omega, by omega, Lib.hid ⟨fb_set4 K8.out, fb_b4' HB8.out hbb, hbb⟩⟩
        case measure => simp [intOf]; omega
      · go_wp2_with fail
        refine (HST.out false true (0) (by simp [ctC]) _ (HT.out.below HB2.out (Nat.le_refl _))).mono ?_
        rintro e w6 ⟨rfl, hb6⟩
        have K6 := Lib.hid (heap_keep' (o' := (fbO 2 false 0 (0))) ((hb6.block b hz2).trans K2.out))
        have HB6 := Lib.hid ((HB2.out.trans (hb6.mono HB2.out.size)).alloc (HB2.out.trans (hb6.mono HB2.out.size)).size (fbO 2 false 0 (0)))
        have L6 := Lib.hid (heap_alloc_new w6 (fbO 2 false 0 (0)))
        have hz6 : b < w6.heap.size := by have := hb6.size; omega
        clear hb6 c0 c1' c2 c3
        go_wp2_with fail
        refine (fb_val (HOK.out false (0) (by omega)) _ (HT.out.below HB6.out (Nat.le_refl _))).mono ?_
        rintro e w7 ⟨rfl, hb7⟩
        have k8 := (hb7.block b (by simp; omega)).trans K6.out
        have l8 := (hb7.block w6.heap.size (by simp)).trans L6.out
        have HB8 := Lib.hid (HB6.out.trans (hb7.mono HB6.out.size))
        clear hb7
        obtain ⟨c0, c1', c2, c3⟩ := fb_cells l8
        obtain ⟨d0, d1, d2, d3⟩ := fb_cells k8
        obtain ⟨g0, g1, g2, g3⟩ := fb_blk k8
        have K8 := Lib.hid k8
        clear k8 l8
        go_wp2
        go_roundw
        case rel => exact ⟨k + 1, false, 0, by omega, by go_num, rfl, rfl, by omega, by omega, Lib.hid ⟨fb_set4 K8.out, fb_b4' HB8.out hbb, hbb⟩⟩
        case measure => simp [intOf]; omega
      · go_wp2_with fail
        refine (HST.out true false (z + 1) (by simp [ctC]; omega) _ (HT.out.below HB2.out (Nat.le_refl _))).mono ?_
        rintro e w6 ⟨rfl, hb6⟩
        have K6 := Lib.hid (heap_keep' (o' := (fbO 2 true 0 (z + 1))) ((hb6.block b hz2).trans K2.out))
        have HB6 := Lib.hid ((HB2.out.trans (hb6.mono HB2.out.size)).alloc (HB2.out.trans (hb6.mono HB2.out.size)).size (fbO 2 true 0 (z + 1)))
        have L6 := Lib.hid (heap_alloc_new w6 (fbO 2 true 0 (z + 1)))
        have hz6 : b < w6.heap.size := by have := hb6.size; omega
        clear hb6 c0 c1' c2 c3
        go_wp2_with fail
        refine (fb_val (HOK.out true (z + 1) (by omega)) _ (HT.out.below HB6.out (Nat.le_refl _))).mono ?_
        rintro e w7 ⟨rfl, hb7⟩
        have k8 := (hb7.block b (by simp; omega)).trans K6.out
        have l8 := (hb7.block w6.heap.size (by simp)).trans L6.out
        have HB8 := Lib.hid (HB6.out.trans (hb7.mono HB6.out.size))
        clear hb7
        obtain ⟨c0, c1', c2, c3⟩ := fb_cells l8
        obtain ⟨d0, d1, d2, d3⟩ := fb_cells k8
        obtain ⟨g0, g1, g2, g3⟩ := fb_blk k8
        have K8 := Lib.hid k8
        clear k8 l8
        go_wp2
        go_roundw
        case rel => exact ⟨k + 1, true, z + 1, by omega, by go_num, rfl, rfl, by omega, by omega, Lib.hid ⟨fb_set4 K8.out, fb_b4' HB8.out hbb, hbb⟩⟩
        case measure => simp [intOf]; omega
      · go_wp2_with fail
        refine (HST.out true false (z) (by simp [ctC]) _ (HT.out.below HB2.out (Nat.le_refl _))).mono ?_
        rintro e w6 ⟨rfl, hb6⟩
        have K6 := Lib.hid (heap_keep' (o' := (fbO 2 true 0 (z))) ((hb6.block b hz2).trans K2.out))
        have HB6 := Lib.hid ((HB2.out.trans (hb6.mono HB2.out.size)).alloc (HB2.out.trans (hb6.mono HB2.out.size)).size (fbO 2 true 0 (z)))
        have L6 := Lib.hid (heap_alloc_new w6 (fbO 2 true 0 (z)))
        have hz6 : b < w6.heap.size := by have := hb6.size; omega
        clear hb6 c0 c1' c2 c3
        go_wp2_with fail
        refine (fb_val (HOK.out true (z) (by omega)) _ (HT.out.below HB6.out (Nat.le_refl _))).mono ?_
        rintro e w7 ⟨rfl, hb7⟩
        have k8 := (hb7.block b (by simp; omega)).trans K6.out
        have l8 := (hb7.block w6.heap.size (by simp)).trans L6.out
        have HB8 := Lib.hid (HB6.out.trans (hb7.mono HB6.out.size))
        clear hb7
        obtain ⟨c0, c1', c2, c3⟩ := fb_cells l8
        obtain ⟨d0, d1, d2, d3⟩ := fb_cells k8
        obtain ⟨g0, g1, g2, g3⟩ := fb_blk k8
        have K8 := Lib.hid k8
        clear k8 l8
        go_wp2
        go_roundw
        case rel => exact ⟨k + 1, true, z, by omega, by go_num, rfl, rfl, by omega, by omega, Lib.hid ⟨fb_set4 K8.out, fb_b4' HB8.out hbb, hbb⟩⟩
        case measure => simp [intOf]; omega
      · go_wp2_with fail
        refine (HST.out true true (0) (by simp [ctC]) _ (HT.out.below HB2.out (Nat.le_refl _))).mono ?_
        rintro e w6 ⟨rfl, hb6⟩
        have K6 := Lib.hid (heap_keep' (o' := (fbO 2 true 0 (0))) ((hb6.block b hz2).trans K2.out))
        have HB6 := Lib.hid ((HB2.out.trans (hb6.mono HB2.out.size)).alloc (HB2.out.trans (hb6.mono HB2.out.size)).size (fbO 2 true 0 (0)))
        have L6 := Lib.hid (heap_alloc_new w6 (fbO 2 true 0 (0)))
        have hz6 : b < w6.heap.size := by have := hb6.size; omega
        clear hb6 c0 c1' c2 c3
        go_wp2_with fail
        refine (fb_val (HOK.out true (0) (by omega)) _ (HT.out.below HB6.out (Nat.le_refl _))).mono ?_
        rintro e w7 ⟨rfl, hb7⟩
        have k8 := (hb7.block b (by simp; omega)).trans K6.out
        have l8 := (hb7.block w6.heap.size (by simp)).trans L6.out
        have HB8 := Lib.hid (HB6.out.trans (hb7.mono HB6.out.size))
        clear hb7
        obtain ⟨c0, c1', c2, c3⟩ := fb_cells l8
        obtain ⟨d0, d1, d2, d3⟩ := fb_cells k8
        obtain ⟨g0, g1, g2, g3⟩ := fb_blk k8
        have K8 := Lib.hid k8
        clear k8 l8
        go_wp2
        go_roundw
        case rel => exact ⟨k + 1, true, 0, by omega, by go_num, rfl, rfl, by omega, by omega, Lib.hid ⟨fb_set4 K8.out, fb_b4' HB8.out hbb, hbb⟩⟩
        case measure => simp [intOf]; omega
      · go_wp2_with fail
        refine (HST.out true true (0) (by simp [ctC]) _ (HT.out.below HB2.out (Nat.le_refl _))).mono ?_
        rintro e w6 ⟨rfl, hb6⟩
        have K6 := Lib.hid (heap_keep' (o' := (fbO 2 true 0 (0))) ((hb6.block b hz2).trans K2.out))
        have HB6 := Lib.hid ((HB2.out.trans (hb6.mono HB2.out.size)).alloc (HB2.out.trans (hb6.mono HB2.out.size)).size (fbO 2 true 0 (0)))
        have L6 := Lib.hid (heap_alloc_new w6 (fbO 2 true 0 (0)))
        have hz6 : b < w6.heap.size := by have := hb6.size; omega
        clear hb6 c0 c1' c2 c3
        go_wp2_with fail
        refine (fb_val (HOK.out true (0) (by omega)) _ (HT.out.below HB6.out (Nat.le_refl _))).mono ?_
        rintro e w7 ⟨rfl, hb7⟩
        have k8 := (hb7.block b (by simp; omega)).trans K6.out
        have l8 := (hb7.block w6.heap.size (by simp)).trans L6.out
        have HB8 := Lib.hid (HB6.out.trans (hb7.mono HB6.out.size))
        clear hb7
        obtain ⟨c0, c1', c2, c3⟩ := fb_cells l8
        obtain ⟨d0, d1, d2, d3⟩ := fb_cells k8
        obtain ⟨g0, g1, g2, g3⟩ := fb_blk k8
        have K8 := Lib.hid k8
        clear k8 l8
        go_wp2
        go_roundw
        case rel => exact ⟨k + 1, true, 0, by omega, by go_num, rfl, rfl, by omega, by omega, Lib.hid ⟨fb_set4 K8.out, fb_b4' HB8.out hbb, hbb⟩⟩
        case measure => simp [intOf]; omega
    · obtain rfl : k = 20 := by omega
      obtain ⟨_, hB, _⟩ := ht.out
      have HB := Lib.hid hB
      clear hB
      go_wp2
      go_ret
      exact ⟨rfl, HB.out⟩
end Go.Proofs.YtknfimadhnlpjaaDoor
