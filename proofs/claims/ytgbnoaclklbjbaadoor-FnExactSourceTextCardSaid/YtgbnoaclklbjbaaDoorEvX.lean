/- SourceText of impl and of spec. (Written by tools/gen_evx.py.) -/
import Derived.Test.YtgbnoaclklbjbaaDoorEvI
import Derived.Test.YtgbnoaclklbjbaaDoorPhj
import Derived.Test.YtgbnoaclklbjbaaDoorPow
import Derived.Test.YtgbnoaclklbjbaaDoorDig
import Derived.Deep.DeepCutAuto
namespace Go.Proofs.YtgbnoaclklbjbaaDoor
open Go.ChangeShapes Go.WideShapes Go.ChangeAt Go.RowKit
set_option linter.unusedVariables false
theorem src_rt {x y : List UInt8} {n : Int} (h : y = x) : Ending.returned (.tuple #[.string ⟨x.toArray⟩, .int .i64 n]) = .returned (.tuple #[.string ⟨y.toArray⟩, .int .i64 n]) := by rw [h]
theorem str_app (x y : List UInt8) : Value.string (⟨x.toArray⟩ ++ ⟨y.toArray⟩) = .string ⟨(x ++ y).toArray⟩ := by
  congr 1
def srcT (a d t s p : Int) (n : Nat) : List UInt8 := ((((((((((([97, 114, 114, 105, 118, 101, 100, 32] ++ Lib.itoa a) ++ [32, 100, 111, 110, 101, 32]) ++ Lib.itoa d) ++ [32, 116, 104, 114, 111, 116, 116, 108, 101, 100, 32]) ++ Lib.itoa t) ++ [32, 108, 111, 115, 116, 32]) ++ Lib.itoa s) ++ [32, 100, 114, 111, 112, 112, 101, 100, 32]) ++ Lib.itoa p) ++ [32, 119, 97, 105, 116, 105, 110, 103, 32]) ++ Lib.itoa (n : Int))
def srcF (x : ST) (z : TT) : List UInt8 × Int := if sOK x z = true then (srcT x.a x.d x.t x.s x.p x.q.length, 0) else ([], 1)
theorem srcT_len (a d t s p : Int) (n : Nat) (ha : 0 ≤ a ∧ a ≤ 2147483647) (hd : 0 ≤ d ∧ d ≤ 2147483647) (ht : 0 ≤ t ∧ t ≤ 2147483647) (hs : 0 ≤ s ∧ s ≤ 2147483647) (hp : 0 ≤ p ∧ p ≤ 2147483647) (hn : n ≤ 2147483647) : (srcT a d t s p n).length ≤ 200 := by
  have l1 := Lib.itoa_length_le a (by omega) (by omega)
  have l2 := Lib.itoa_length_le d (by omega) (by omega)
  have l3 := Lib.itoa_length_le t (by omega) (by omega)
  have l4 := Lib.itoa_length_le s (by omega) (by omega)
  have l5 := Lib.itoa_length_le p (by omega) (by omega)
  have l6 := Lib.itoa_length_le (n : Int) (by omega) (by omega)
  unfold srcT
  simp only [List.length_append, List.length_cons, List.length_nil]
  omega
set_option maxRecDepth 100000 in
set_option maxHeartbeats 2000000 in
theorem l10Text_any (l a d t s p : Int) (q : List Int) (b : Option Addr) (c : Nat) (ha : 0 ≤ a ∧ a ≤ 2147483647) (hd : 0 ≤ d ∧ d ≤ 2147483647) (ht : 0 ≤ t ∧ t ≤ 2147483647) (hs : 0 ≤ s ∧ s ≤ 2147483647) (hp : 0 ≤ p ∧ p ≤ 2147483647) (hn : q.length ≤ 2147483647) (w : World) :
    Calls Tryd.prog 19 #[.agg #[.int .i64 l, .int .i64 a, .int .i64 d, .int .i64 t, .int .i64 s, .int .i64 p, .slice b q.length c]] w fun e w' => e = .returned (.string ⟨(srcT a d t s p q.length).toArray⟩) ∧ Below w.heap.size w w' := by
  have HC : Hid (∀ (n : Int) (X : World), 0 ≤ n → n ≤ 2147483647 → Below w.heap.size w X → Calls Tryd.prog 34 #[.int .i64 n] X fun e X' => e = .returned (.string ⟨(Lib.itoa n).toArray⟩) ∧ Below X.heap.size X X') := Lib.hid (fun n X h0 h1 _ => dig_any n (by omega) (by omega) X)
  have HB := Lib.hid (dbox w (.cells #[.int .i64 l, .int .i64 a, .int .i64 d, .int .i64 t, .int .i64 s, .int .i64 p, .slice b q.length c] 30))
  have HK := Lib.hid (heap_alloc_new w (.cells #[.int .i64 l, .int .i64 a, .int .i64 d, .int .i64 t, .int .i64 s, .int .i64 p, .slice b q.length c] 30))
  have l0 := Lib.itoa_length_le a (by omega) (by omega)
  have l1 := Lib.itoa_length_le d (by omega) (by omega)
  have l2 := Lib.itoa_length_le t (by omega) (by omega)
  have l3 := Lib.itoa_length_le s (by omega) (by omega)
  have l4 := Lib.itoa_length_le p (by omega) (by omega)
  have l5 := Lib.itoa_length_le (q.length : Int) (by omega) (by omega)
  obtain ⟨P0, hP0⟩ : ∃ L, L = [97, 114, 114, 105, 118, 101, 100, 32] ++ Lib.itoa a := ⟨_, rfl⟩
  obtain ⟨P1, hP1⟩ : ∃ L, L = P0 ++ [32, 100, 111, 110, 101, 32] := ⟨_, rfl⟩
  obtain ⟨P2, hP2⟩ : ∃ L, L = P1 ++ Lib.itoa d := ⟨_, rfl⟩
  obtain ⟨P3, hP3⟩ : ∃ L, L = P2 ++ [32, 116, 104, 114, 111, 116, 116, 108, 101, 100, 32] := ⟨_, rfl⟩
  obtain ⟨P4, hP4⟩ : ∃ L, L = P3 ++ Lib.itoa t := ⟨_, rfl⟩
  obtain ⟨P5, hP5⟩ : ∃ L, L = P4 ++ [32, 108, 111, 115, 116, 32] := ⟨_, rfl⟩
  obtain ⟨P6, hP6⟩ : ∃ L, L = P5 ++ Lib.itoa s := ⟨_, rfl⟩
  obtain ⟨P7, hP7⟩ : ∃ L, L = P6 ++ [32, 100, 114, 111, 112, 112, 101, 100, 32] := ⟨_, rfl⟩
  obtain ⟨P8, hP8⟩ : ∃ L, L = P7 ++ Lib.itoa p := ⟨_, rfl⟩
  obtain ⟨P9, hP9⟩ : ∃ L, L = P8 ++ [32, 119, 97, 105, 116, 105, 110, 103, 32] := ⟨_, rfl⟩
  obtain ⟨P10, hP10⟩ : ∃ L, L = P9 ++ Lib.itoa (q.length : Int) := ⟨_, rfl⟩
  have HT : Hid (srcT a d t s p q.length = P10) := Lib.hid (by rw [hP10, hP9, hP8, hP7, hP6, hP5, hP4, hP3, hP2, hP1, hP0]; rfl)
  have k0 : P0.length ≤ 30 := by rw [hP0, List.length_append]; simp only [List.length_cons, List.length_nil]; omega
  have k1 : P1.length ≤ 60 := by rw [hP1, List.length_append]; simp only [List.length_cons, List.length_nil]; omega
  have k2 : P2.length ≤ 90 := by rw [hP2, List.length_append]; omega
  have k3 : P3.length ≤ 120 := by rw [hP3, List.length_append]; simp only [List.length_cons, List.length_nil]; omega
  have k4 : P4.length ≤ 150 := by rw [hP4, List.length_append]; omega
  have k5 : P5.length ≤ 180 := by rw [hP5, List.length_append]; simp only [List.length_cons, List.length_nil]; omega
  have k6 : P6.length ≤ 210 := by rw [hP6, List.length_append]; omega
  have k7 : P7.length ≤ 240 := by rw [hP7, List.length_append]; simp only [List.length_cons, List.length_nil]; omega
  have k8 : P8.length ≤ 270 := by rw [hP8, List.length_append]; omega
  have k9 : P9.length ≤ 300 := by rw [hP9, List.length_append]; simp only [List.length_cons, List.length_nil]; omega
  have k10 : P10.length ≤ 330 := by rw [hP10, List.length_append]; omega
  have HP0 := Lib.hid hP0
  have HP1 := Lib.hid hP1
  have HP2 := Lib.hid hP2
  have HP3 := Lib.hid hP3
  have HP4 := Lib.hid hP4
  have HP5 := Lib.hid hP5
  have HP6 := Lib.hid hP6
  have HP7 := Lib.hid hP7
  have HP8 := Lib.hid hP8
  have HP9 := Lib.hid hP9
  have HP10 := Lib.hid hP10
  clear hP0 hP1 hP2 hP3 hP4 hP5 hP6 hP7 hP8 hP9 hP10
  rw [HT.out]
  clear HT
  go_enter Tryd.func19, Tryd.ntmps19
  go_upto_region 1 with (fail)
  generalize w.alloc (.cells #[.int .i64 l, .int .i64 a, .int .i64 d, .int .i64 t, .int .i64 s, .int .i64 p, .slice b q.length c] 30) = W0 at *
  refine wp_region_phj 31 [some 3, some 4, some 5, some 6, some 7, some 8, some 9, some 10, some 11, some 12, some 13, some 14, some 15, some 16, some 17, some 18, some 19, some 20, some 21, some 22, some 23, some 24, some 25, some 26, some 27, some 28, some 29, some 30, some 31, some 32, some 2] (fun X => Below W0.heap.size W0 X) (herQ [atK 0 (isV (.pointer (some ⟨w.heap.size, 1, none⟩))), atK 1 (isV (.int .i64 a)), atK 2 (isV (.string ⟨(Lib.itoa a).toArray⟩)), atK 3 (isV (.string ⟨P0.toArray⟩)), atK 4 (isV (.string ⟨P1.toArray⟩)), atK 5 (isV (.pointer (some ⟨w.heap.size, 2, none⟩))), atK 6 (isV (.int .i64 d)), atK 7 (isV (.string ⟨(Lib.itoa d).toArray⟩)), atK 8 (isV (.string ⟨P2.toArray⟩)), atK 9 (isV (.string ⟨P3.toArray⟩)), atK 10 (isV (.pointer (some ⟨w.heap.size, 3, none⟩))), atK 11 (isV (.int .i64 t)), atK 12 (isV (.string ⟨(Lib.itoa t).toArray⟩)), atK 13 (isV (.string ⟨P4.toArray⟩)), atK 14 (isV (.string ⟨P5.toArray⟩)), atK 15 (isV (.pointer (some ⟨w.heap.size, 4, none⟩))), atK 16 (isV (.int .i64 s)), atK 17 (isV (.string ⟨(Lib.itoa s).toArray⟩)), atK 18 (isV (.string ⟨P6.toArray⟩)), atK 19 (isV (.string ⟨P7.toArray⟩)), atK 20 (isV (.pointer (some ⟨w.heap.size, 5, none⟩))), atK 21 (isV (.int .i64 p)), atK 22 (isV (.string ⟨(Lib.itoa p).toArray⟩)), atK 23 (isV (.string ⟨P8.toArray⟩)), atK 24 (isV (.string ⟨P9.toArray⟩)), atK 25 (isV (.pointer (some ⟨w.heap.size, 6, none⟩))), atK 26 (isV (.slice b q.length c)), atK 27 (isV (.int .i64 (q.length : Int))), atK 28 (isV (.string ⟨(Lib.itoa (q.length : Int)).toArray⟩)), atK 29 (isV (.string ⟨P10.toArray⟩)), atK 30 (isV (.string ⟨P10.toArray⟩))]) (herD [atK 0 (isV (.pointer (some ⟨w.heap.size, 1, none⟩))), atK 1 (isV (.int .i64 a)), atK 2 (isV (.string ⟨(Lib.itoa a).toArray⟩)), atK 3 (isV (.string ⟨P0.toArray⟩)), atK 4 (isV (.string ⟨P1.toArray⟩)), atK 5 (isV (.pointer (some ⟨w.heap.size, 2, none⟩))), atK 6 (isV (.int .i64 d)), atK 7 (isV (.string ⟨(Lib.itoa d).toArray⟩)), atK 8 (isV (.string ⟨P2.toArray⟩)), atK 9 (isV (.string ⟨P3.toArray⟩)), atK 10 (isV (.pointer (some ⟨w.heap.size, 3, none⟩))), atK 11 (isV (.int .i64 t)), atK 12 (isV (.string ⟨(Lib.itoa t).toArray⟩)), atK 13 (isV (.string ⟨P4.toArray⟩)), atK 14 (isV (.string ⟨P5.toArray⟩)), atK 15 (isV (.pointer (some ⟨w.heap.size, 4, none⟩))), atK 16 (isV (.int .i64 s)), atK 17 (isV (.string ⟨(Lib.itoa s).toArray⟩)), atK 18 (isV (.string ⟨P6.toArray⟩)), atK 19 (isV (.string ⟨P7.toArray⟩)), atK 20 (isV (.pointer (some ⟨w.heap.size, 5, none⟩))), atK 21 (isV (.int .i64 p)), atK 22 (isV (.string ⟨(Lib.itoa p).toArray⟩)), atK 23 (isV (.string ⟨P8.toArray⟩)), atK 24 (isV (.string ⟨P9.toArray⟩)), atK 25 (isV (.pointer (some ⟨w.heap.size, 6, none⟩))), atK 26 (isV (.slice b q.length c)), atK 27 (isV (.int .i64 (q.length : Int))), atK 28 (isV (.string ⟨(Lib.itoa (q.length : Int)).toArray⟩)), atK 29 (isV (.string ⟨P10.toArray⟩)), atK 30 (isV (.string ⟨P10.toArray⟩))]) (by kernel_rfl) (by kernel_rfl) (by kernel_rfl) (Below.refl _ _).drew ?steps ?fin
  case steps =>
    refine PjSteps.cons ?s0 (PjSteps.cons ?s1 (PjSteps.cons ?s2 (PjSteps.cons ?s3 (PjSteps.cons ?s4 (PjSteps.cons ?s5 (PjSteps.cons ?s6 (PjSteps.cons ?s7 (PjSteps.cons ?s8 (PjSteps.cons ?s9 (PjSteps.cons ?s10 (PjSteps.cons ?s11 (PjSteps.cons ?s12 (PjSteps.cons ?s13 (PjSteps.cons ?s14 (PjSteps.cons ?s15 (PjSteps.cons ?s16 (PjSteps.cons ?s17 (PjSteps.cons ?s18 (PjSteps.cons ?s19 (PjSteps.cons ?s20 (PjSteps.cons ?s21 (PjSteps.cons ?s22 (PjSteps.cons ?s23 (PjSteps.cons ?s24 (PjSteps.cons ?s25 (PjSteps.cons ?s26 (PjSteps.cons ?s27 (PjSteps.cons ?s28 (PjSteps.cons ?s29 (PjSteps.cons ?s30 (PjSteps.nil)))))))))))))))))))))))))))))))
    case s0 =>
      intro v f a X hat hS hv hnk hcl haf K hK
      have ev0 := hat.old 1 (fun k hk => absurd (List.mem_of_getElem? hk) (by decide))
      obtain ⟨tm, df⟩ := a
      go_simp
      exact hK.out _ _ (herQ_at rfl (show _ = _ from rfl)) (herQ_same hv hnk hcl _) hS
    case s1 =>
      intro v f a X hat hS hv hnk hcl haf K hK
      have f0 := ph_haf haf 0 (by kernel_rfl)
      have ev0 := hat.done 0 3 f0 rfl
      have h0 := hv 0 f0
      rw [show v 0 = _ from h0] at ev0
      obtain ⟨tm, df⟩ := a
      have c1 := cell_of_row X w.heap.size 1 _ _ _ (blk_bel HK.out hS)
      go_simp
      exact hK.out _ _ (herQ_at rfl (show _ = _ from rfl)) (herQ_same hv hnk hcl _) hS
    case s2 =>
      intro v f a X hat hS hv hnk hcl haf K hK
      have f0 := ph_haf haf 1 (by kernel_rfl)
      have ev0 := hat.done 1 4 f0 rfl
      have h0 := hv 1 f0
      rw [show v 1 = _ from h0] at ev0
      obtain ⟨tm, df⟩ := a
      go_simp
      refine Calls.mono (HC.out a X (by omega) (by omega) (HB.out.trans (hS.mono HB.out.size))) ?_
      rintro e Y ⟨rfl, hb⟩
      exact hK.out _ _ (herQ_at rfl (show _ = _ from rfl)) (herQ_keep hv hnk hcl hb _) (hS.trans (hb.mono hS.size))
    case s3 =>
      intro v f a X hat hS hv hnk hcl haf K hK
      have f0 := ph_haf haf 2 (by kernel_rfl)
      have ev0 := hat.done 2 5 f0 rfl
      have h0 := hv 2 f0
      rw [show v 2 = _ from h0] at ev0
      obtain ⟨tm, df⟩ := a
      go_simp
      rw [if_neg (by omega)]
      go_simp
      exact hK.out _ _ (herQ_at rfl (by show (_ : Value) = _; rw [HP0.out]; exact str_app _ _)) (herQ_same hv hnk hcl _) hS
    case s4 =>
      intro v f a X hat hS hv hnk hcl haf K hK
      have f0 := ph_haf haf 3 (by kernel_rfl)
      have ev0 := hat.done 3 6 f0 rfl
      have h0 := hv 3 f0
      rw [show v 3 = _ from h0] at ev0
      obtain ⟨tm, df⟩ := a
      go_simp
      rw [if_neg (by omega)]
      go_simp
      exact hK.out _ _ (herQ_at rfl (by show (_ : Value) = _; rw [HP1.out]; exact str_app _ _)) (herQ_same hv hnk hcl _) hS
    case s5 =>
      intro v f a X hat hS hv hnk hcl haf K hK
      have ev0 := hat.old 1 (fun k hk => absurd (List.mem_of_getElem? hk) (by decide))
      obtain ⟨tm, df⟩ := a
      go_simp
      exact hK.out _ _ (herQ_at rfl (show _ = _ from rfl)) (herQ_same hv hnk hcl _) hS
    case s6 =>
      intro v f a X hat hS hv hnk hcl haf K hK
      have f0 := ph_haf haf 5 (by kernel_rfl)
      have ev0 := hat.done 5 8 f0 rfl
      have h0 := hv 5 f0
      rw [show v 5 = _ from h0] at ev0
      obtain ⟨tm, df⟩ := a
      have c2 := cell_of_row X w.heap.size 2 _ _ _ (blk_bel HK.out hS)
      go_simp
      exact hK.out _ _ (herQ_at rfl (show _ = _ from rfl)) (herQ_same hv hnk hcl _) hS
    case s7 =>
      intro v f a X hat hS hv hnk hcl haf K hK
      have f0 := ph_haf haf 6 (by kernel_rfl)
      have ev0 := hat.done 6 9 f0 rfl
      have h0 := hv 6 f0
      rw [show v 6 = _ from h0] at ev0
      obtain ⟨tm, df⟩ := a
      go_simp
      refine Calls.mono (HC.out d X (by omega) (by omega) (HB.out.trans (hS.mono HB.out.size))) ?_
      rintro e Y ⟨rfl, hb⟩
      exact hK.out _ _ (herQ_at rfl (show _ = _ from rfl)) (herQ_keep hv hnk hcl hb _) (hS.trans (hb.mono hS.size))
    case s8 =>
      intro v f a X hat hS hv hnk hcl haf K hK
      have f0 := ph_haf haf 4 (by kernel_rfl)
      have ev0 := hat.done 4 7 f0 rfl
      have h0 := hv 4 f0
      rw [show v 4 = _ from h0] at ev0
      have f1 := ph_haf haf 7 (by kernel_rfl)
      have ev1 := hat.done 7 10 f1 rfl
      have h1 := hv 7 f1
      rw [show v 7 = _ from h1] at ev1
      obtain ⟨tm, df⟩ := a
      go_simp
      rw [if_neg (by omega)]
      go_simp
      exact hK.out _ _ (herQ_at rfl (by show (_ : Value) = _; rw [HP2.out]; exact str_app _ _)) (herQ_same hv hnk hcl _) hS
    case s9 =>
      intro v f a X hat hS hv hnk hcl haf K hK
      have f0 := ph_haf haf 8 (by kernel_rfl)
      have ev0 := hat.done 8 11 f0 rfl
      have h0 := hv 8 f0
      rw [show v 8 = _ from h0] at ev0
      obtain ⟨tm, df⟩ := a
      go_simp
      rw [if_neg (by omega)]
      go_simp
      exact hK.out _ _ (herQ_at rfl (by show (_ : Value) = _; rw [HP3.out]; exact str_app _ _)) (herQ_same hv hnk hcl _) hS
    case s10 =>
      intro v f a X hat hS hv hnk hcl haf K hK
      have ev0 := hat.old 1 (fun k hk => absurd (List.mem_of_getElem? hk) (by decide))
      obtain ⟨tm, df⟩ := a
      go_simp
      exact hK.out _ _ (herQ_at rfl (show _ = _ from rfl)) (herQ_same hv hnk hcl _) hS
    case s11 =>
      intro v f a X hat hS hv hnk hcl haf K hK
      have f0 := ph_haf haf 10 (by kernel_rfl)
      have ev0 := hat.done 10 13 f0 rfl
      have h0 := hv 10 f0
      rw [show v 10 = _ from h0] at ev0
      obtain ⟨tm, df⟩ := a
      have c3 := cell_of_row X w.heap.size 3 _ _ _ (blk_bel HK.out hS)
      go_simp
      exact hK.out _ _ (herQ_at rfl (show _ = _ from rfl)) (herQ_same hv hnk hcl _) hS
    case s12 =>
      intro v f a X hat hS hv hnk hcl haf K hK
      have f0 := ph_haf haf 11 (by kernel_rfl)
      have ev0 := hat.done 11 14 f0 rfl
      have h0 := hv 11 f0
      rw [show v 11 = _ from h0] at ev0
      obtain ⟨tm, df⟩ := a
      go_simp
      refine Calls.mono (HC.out t X (by omega) (by omega) (HB.out.trans (hS.mono HB.out.size))) ?_
      rintro e Y ⟨rfl, hb⟩
      exact hK.out _ _ (herQ_at rfl (show _ = _ from rfl)) (herQ_keep hv hnk hcl hb _) (hS.trans (hb.mono hS.size))
    case s13 =>
      intro v f a X hat hS hv hnk hcl haf K hK
      have f0 := ph_haf haf 9 (by kernel_rfl)
      have ev0 := hat.done 9 12 f0 rfl
      have h0 := hv 9 f0
      rw [show v 9 = _ from h0] at ev0
      have f1 := ph_haf haf 12 (by kernel_rfl)
      have ev1 := hat.done 12 15 f1 rfl
      have h1 := hv 12 f1
      rw [show v 12 = _ from h1] at ev1
      obtain ⟨tm, df⟩ := a
      go_simp
      rw [if_neg (by omega)]
      go_simp
      exact hK.out _ _ (herQ_at rfl (by show (_ : Value) = _; rw [HP4.out]; exact str_app _ _)) (herQ_same hv hnk hcl _) hS
    case s14 =>
      intro v f a X hat hS hv hnk hcl haf K hK
      have f0 := ph_haf haf 13 (by kernel_rfl)
      have ev0 := hat.done 13 16 f0 rfl
      have h0 := hv 13 f0
      rw [show v 13 = _ from h0] at ev0
      obtain ⟨tm, df⟩ := a
      go_simp
      rw [if_neg (by omega)]
      go_simp
      exact hK.out _ _ (herQ_at rfl (by show (_ : Value) = _; rw [HP5.out]; exact str_app _ _)) (herQ_same hv hnk hcl _) hS
    case s15 =>
      intro v f a X hat hS hv hnk hcl haf K hK
      have ev0 := hat.old 1 (fun k hk => absurd (List.mem_of_getElem? hk) (by decide))
      obtain ⟨tm, df⟩ := a
      go_simp
      exact hK.out _ _ (herQ_at rfl (show _ = _ from rfl)) (herQ_same hv hnk hcl _) hS
    case s16 =>
      intro v f a X hat hS hv hnk hcl haf K hK
      have f0 := ph_haf haf 15 (by kernel_rfl)
      have ev0 := hat.done 15 18 f0 rfl
      have h0 := hv 15 f0
      rw [show v 15 = _ from h0] at ev0
      obtain ⟨tm, df⟩ := a
      have c4 := cell_of_row X w.heap.size 4 _ _ _ (blk_bel HK.out hS)
      go_simp
      exact hK.out _ _ (herQ_at rfl (show _ = _ from rfl)) (herQ_same hv hnk hcl _) hS
    case s17 =>
      intro v f a X hat hS hv hnk hcl haf K hK
      have f0 := ph_haf haf 16 (by kernel_rfl)
      have ev0 := hat.done 16 19 f0 rfl
      have h0 := hv 16 f0
      rw [show v 16 = _ from h0] at ev0
      obtain ⟨tm, df⟩ := a
      go_simp
      refine Calls.mono (HC.out s X (by omega) (by omega) (HB.out.trans (hS.mono HB.out.size))) ?_
      rintro e Y ⟨rfl, hb⟩
      exact hK.out _ _ (herQ_at rfl (show _ = _ from rfl)) (herQ_keep hv hnk hcl hb _) (hS.trans (hb.mono hS.size))
    case s18 =>
      intro v f a X hat hS hv hnk hcl haf K hK
      have f0 := ph_haf haf 14 (by kernel_rfl)
      have ev0 := hat.done 14 17 f0 rfl
      have h0 := hv 14 f0
      rw [show v 14 = _ from h0] at ev0
      have f1 := ph_haf haf 17 (by kernel_rfl)
      have ev1 := hat.done 17 20 f1 rfl
      have h1 := hv 17 f1
      rw [show v 17 = _ from h1] at ev1
      obtain ⟨tm, df⟩ := a
      go_simp
      rw [if_neg (by omega)]
      go_simp
      exact hK.out _ _ (herQ_at rfl (by show (_ : Value) = _; rw [HP6.out]; exact str_app _ _)) (herQ_same hv hnk hcl _) hS
    case s19 =>
      intro v f a X hat hS hv hnk hcl haf K hK
      have f0 := ph_haf haf 18 (by kernel_rfl)
      have ev0 := hat.done 18 21 f0 rfl
      have h0 := hv 18 f0
      rw [show v 18 = _ from h0] at ev0
      obtain ⟨tm, df⟩ := a
      go_simp
      rw [if_neg (by omega)]
      go_simp
      exact hK.out _ _ (herQ_at rfl (by show (_ : Value) = _; rw [HP7.out]; exact str_app _ _)) (herQ_same hv hnk hcl _) hS
    case s20 =>
      intro v f a X hat hS hv hnk hcl haf K hK
      have ev0 := hat.old 1 (fun k hk => absurd (List.mem_of_getElem? hk) (by decide))
      obtain ⟨tm, df⟩ := a
      go_simp
      exact hK.out _ _ (herQ_at rfl (show _ = _ from rfl)) (herQ_same hv hnk hcl _) hS
    case s21 =>
      intro v f a X hat hS hv hnk hcl haf K hK
      have f0 := ph_haf haf 20 (by kernel_rfl)
      have ev0 := hat.done 20 23 f0 rfl
      have h0 := hv 20 f0
      rw [show v 20 = _ from h0] at ev0
      obtain ⟨tm, df⟩ := a
      have c5 := cell_of_row X w.heap.size 5 _ _ _ (blk_bel HK.out hS)
      go_simp
      exact hK.out _ _ (herQ_at rfl (show _ = _ from rfl)) (herQ_same hv hnk hcl _) hS
    case s22 =>
      intro v f a X hat hS hv hnk hcl haf K hK
      have f0 := ph_haf haf 21 (by kernel_rfl)
      have ev0 := hat.done 21 24 f0 rfl
      have h0 := hv 21 f0
      rw [show v 21 = _ from h0] at ev0
      obtain ⟨tm, df⟩ := a
      go_simp
      refine Calls.mono (HC.out p X (by omega) (by omega) (HB.out.trans (hS.mono HB.out.size))) ?_
      rintro e Y ⟨rfl, hb⟩
      exact hK.out _ _ (herQ_at rfl (show _ = _ from rfl)) (herQ_keep hv hnk hcl hb _) (hS.trans (hb.mono hS.size))
    case s23 =>
      intro v f a X hat hS hv hnk hcl haf K hK
      have f0 := ph_haf haf 19 (by kernel_rfl)
      have ev0 := hat.done 19 22 f0 rfl
      have h0 := hv 19 f0
      rw [show v 19 = _ from h0] at ev0
      have f1 := ph_haf haf 22 (by kernel_rfl)
      have ev1 := hat.done 22 25 f1 rfl
      have h1 := hv 22 f1
      rw [show v 22 = _ from h1] at ev1
      obtain ⟨tm, df⟩ := a
      go_simp
      rw [if_neg (by omega)]
      go_simp
      exact hK.out _ _ (herQ_at rfl (by show (_ : Value) = _; rw [HP8.out]; exact str_app _ _)) (herQ_same hv hnk hcl _) hS
    case s24 =>
      intro v f a X hat hS hv hnk hcl haf K hK
      have f0 := ph_haf haf 23 (by kernel_rfl)
      have ev0 := hat.done 23 26 f0 rfl
      have h0 := hv 23 f0
      rw [show v 23 = _ from h0] at ev0
      obtain ⟨tm, df⟩ := a
      go_simp
      rw [if_neg (by omega)]
      go_simp
      exact hK.out _ _ (herQ_at rfl (by show (_ : Value) = _; rw [HP9.out]; exact str_app _ _)) (herQ_same hv hnk hcl _) hS
    case s25 =>
      intro v f a X hat hS hv hnk hcl haf K hK
      have ev0 := hat.old 1 (fun k hk => absurd (List.mem_of_getElem? hk) (by decide))
      obtain ⟨tm, df⟩ := a
      go_simp
      exact hK.out _ _ (herQ_at rfl (show _ = _ from rfl)) (herQ_same hv hnk hcl _) hS
    case s26 =>
      intro v f a X hat hS hv hnk hcl haf K hK
      have f0 := ph_haf haf 25 (by kernel_rfl)
      have ev0 := hat.done 25 28 f0 rfl
      have h0 := hv 25 f0
      rw [show v 25 = _ from h0] at ev0
      obtain ⟨tm, df⟩ := a
      have c6 := cell_of_row X w.heap.size 6 _ _ _ (blk_bel HK.out hS)
      go_simp
      exact hK.out _ _ (herQ_at rfl (show _ = _ from rfl)) (herQ_same hv hnk hcl _) hS
    case s27 =>
      intro v f a X hat hS hv hnk hcl haf K hK
      have f0 := ph_haf haf 26 (by kernel_rfl)
      have ev0 := hat.done 26 29 f0 rfl
      have h0 := hv 26 f0
      rw [show v 26 = _ from h0] at ev0
      obtain ⟨tm, df⟩ := a
      go_simp
      exact hK.out _ _ (herQ_at rfl (show _ = _ from rfl)) (herQ_same hv hnk hcl _) hS
    case s28 =>
      intro v f a X hat hS hv hnk hcl haf K hK
      have f0 := ph_haf haf 27 (by kernel_rfl)
      have ev0 := hat.done 27 30 f0 rfl
      have h0 := hv 27 f0
      rw [show v 27 = _ from h0] at ev0
      obtain ⟨tm, df⟩ := a
      go_simp
      refine Calls.mono (HC.out (q.length : Int) X (by omega) (by omega) (HB.out.trans (hS.mono HB.out.size))) ?_
      rintro e Y ⟨rfl, hb⟩
      exact hK.out _ _ (herQ_at rfl (show _ = _ from rfl)) (herQ_keep hv hnk hcl hb _) (hS.trans (hb.mono hS.size))
    case s29 =>
      intro v f a X hat hS hv hnk hcl haf K hK
      have f0 := ph_haf haf 24 (by kernel_rfl)
      have ev0 := hat.done 24 27 f0 rfl
      have h0 := hv 24 f0
      rw [show v 24 = _ from h0] at ev0
      have f1 := ph_haf haf 28 (by kernel_rfl)
      have ev1 := hat.done 28 31 f1 rfl
      have h1 := hv 28 f1
      rw [show v 28 = _ from h1] at ev1
      obtain ⟨tm, df⟩ := a
      go_simp
      rw [if_neg (by omega)]
      go_simp
      exact hK.out _ _ (herQ_at rfl (by show (_ : Value) = _; rw [HP10.out]; exact str_app _ _)) (herQ_same hv hnk hcl _) hS
    case s30 =>
      intro v f a X hat hS hv hnk hcl haf K hK
      have f0 := ph_haf haf 29 (by kernel_rfl)
      have ev0 := hat.done 29 32 f0 rfl
      have h0 := hv 29 f0
      rw [show v 29 = _ from h0] at ev0
      obtain ⟨tm, df⟩ := a
      go_simp
      exact hK.out _ _ (herQ_at rfl (show _ = _ from rfl)) (herQ_same hv hnk hcl _) hS
  case fin =>
    intro v X hX hv
    have r0 := hv 30 (by decide)
    simp only [pjAll, Act.put, List.setIfInBounds_toArray, List.set_cons_zero, List.set_cons_succ]
    rw [show v 30 = _ from r0]
    simp only [phTail, List.drop_succ_cons, List.drop_zero]
    go_wp2
    go_ret
    exact ⟨rfl, HB.out.trans (hX.mono HB.out.size)⟩
set_option maxRecDepth 100000 in
set_option maxHeartbeats 2000000 in
theorem srcTextI (l a d t s p : Int) (q : List Int) (zk zp zd zi zq zr : Int) (b : Option Addr) (c : Nat) (r : Bool) (hr : sOK ⟨l, a, d, t, s, p, q⟩ ⟨zk, zp, zd, zi, zq, zr⟩ = r) (hm : q.length ≤ maxLen) (w : World) (hz : Lies w b (kC q)) (hP : Pow10 w) :
    Calls Tryd.prog 9 #[.agg #[.int .i64 l, .int .i64 a, .int .i64 d, .int .i64 t, .int .i64 s, .int .i64 p, .slice b q.length c], .agg #[.int .i64 zk, .int .i64 zp, .int .i64 zd, .int .i64 zi, .int .i64 zq, .int .i64 zr]] w fun e w' => e = .returned (.tuple #[.string ⟨(srcF ⟨l, a, d, t, s, p, q⟩ ⟨zk, zp, zd, zi, zq, zr⟩).1.toArray⟩, .int .i64 (srcF ⟨l, a, d, t, s, p, q⟩ ⟨zk, zp, zd, zi, zq, zr⟩).2]) ∧ Below w.heap.size w w' := by
  have HSK : Hid (∀ X, Lies X b (kC q) → Calls Tryd.prog 21 #[.agg #[.int .i64 l, .int .i64 a, .int .i64 d, .int .i64 t, .int .i64 s, .int .i64 p, .slice b q.length c], .agg #[.int .i64 zk, .int .i64 zp, .int .i64 zd, .int .i64 zi, .int .i64 zq, .int .i64 zr]] X fun e X' => e = .returned (.bool r) ∧ Below X.heap.size X X') := Lib.hid (fun X h => hr ▸ sourceOK_any ⟨l, a, d, t, s, p, q⟩ ⟨zk, zp, zd, zi, zq, zr⟩ b c hm X h)
  have HX := Lib.hid (Bx2.start w (.cells #[.int .i64 l, .int .i64 a, .int .i64 d, .int .i64 t, .int .i64 s, .int .i64 p, .slice b q.length c] 30) (.cells #[.int .i64 zk, .int .i64 zp, .int .i64 zd, .int .i64 zi, .int .i64 zq, .int .i64 zr] 32))
  have HZ := Lib.hid hz
  have HC : Hid (∀ (n : Int) (X : World), 0 ≤ n → n ≤ 2147483647 → Below w.heap.size w X → Calls Tryd.prog 22 #[.int .i64 n] X fun e X' => e = .returned (.string ⟨(Lib.itoa n).toArray⟩) ∧ Below X.heap.size X X') := Lib.hid (fun n X h0 h1 hb => itoa_any n (by omega) (by omega) X (hP.below hb (Nat.le_refl _)))
  have HF : Hid (srcF ⟨l, a, d, t, s, p, q⟩ ⟨zk, zp, zd, zi, zq, zr⟩ = if r = true then (srcT a d t s p q.length, 0) else ([], 1)) := Lib.hid (hr ▸ rfl)
  have HI : Hid (r = true → SIn ⟨l, a, d, t, s, p, q⟩ ⟨zk, zp, zd, zi, zq, zr⟩) := Lib.hid (fun h => sOK_in (hr.trans h))
  have HQ : Hid (r = true → q.length ≤ 2147483647) := Lib.hid (fun h => by have h1 := (sOK_in (hr.trans h)).n; have h2 := (tkB_q (sOK_in (hr.trans h)).tk).2.1; simp only at h1 h2; omega)
  generalize srcF ⟨l, a, d, t, s, p, q⟩ ⟨zk, zp, zd, zi, zq, zr⟩ = R at *
  clear hr hz hP
  go_enter Tryd.func9, Tryd.ntmps9
  go_upto_region 1 with (fail)
  generalize (w.alloc (.cells #[.int .i64 l, .int .i64 a, .int .i64 d, .int .i64 t, .int .i64 s, .int .i64 p, .slice b q.length c] 30)).alloc (.cells #[.int .i64 zk, .int .i64 zp, .int .i64 zd, .int .i64 zi, .int .i64 zq, .int .i64 zr] 32) = W0 at *
  have c0 := cell_of_row W0 w.heap.size 0 _ _ _ HX.out.box
  have c1 := cell_of_row W0 w.heap.size 1 _ _ _ HX.out.box
  have c2 := cell_of_row W0 w.heap.size 2 _ _ _ HX.out.box
  have c3 := cell_of_row W0 w.heap.size 3 _ _ _ HX.out.box
  have c4 := cell_of_row W0 w.heap.size 4 _ _ _ HX.out.box
  have c5 := cell_of_row W0 w.heap.size 5 _ _ _ HX.out.box
  have c6 := cell_of_row W0 w.heap.size 6 _ _ _ HX.out.box
  have t0 := cell_of_row W0 (w.heap.size + 1) 0 _ _ _ HX.out.box2
  have t1 := cell_of_row W0 (w.heap.size + 1) 1 _ _ _ HX.out.box2
  have t2 := cell_of_row W0 (w.heap.size + 1) 2 _ _ _ HX.out.box2
  have t3 := cell_of_row W0 (w.heap.size + 1) 3 _ _ _ HX.out.box2
  have t4 := cell_of_row W0 (w.heap.size + 1) 4 _ _ _ HX.out.box2
  have t5 := cell_of_row W0 (w.heap.size + 1) 5 _ _ _ HX.out.box2
  go_wp2_with fail
  refine Calls.mono (HSK.out _ (HZ.out.below HX.out.bel (Nat.le_refl _))) ?_
  rintro e w1 ⟨rfl, hb⟩
  have HX := Lib.hid (HX.out.to hb)
  clear hb c0 c1 c2 c3 c4 c5 c6 t0 t1 t2 t3 t4 t5
  cases r with
  | false =>
    have hR := HF.out
    simp only [Bool.false_eq_true, if_false] at hR
    subst hR
    go_wp2
    go_ret2
    exact ⟨rfl, HX.out.bel⟩
  | true =>
    have hR := HF.out
    simp only [if_true] at hR
    subst hR
    obtain ⟨-, -, ha, hd, ht, hs, hp, -, -⟩ := HI.out rfl
    have hn := HQ.out rfl
    simp only at ha hd ht hs hp
    clear HI HQ HF HSK
    have l0 := Lib.itoa_length_le a (by omega) (by omega)
    have l1 := Lib.itoa_length_le d (by omega) (by omega)
    have l2 := Lib.itoa_length_le t (by omega) (by omega)
    have l3 := Lib.itoa_length_le s (by omega) (by omega)
    have l4 := Lib.itoa_length_le p (by omega) (by omega)
    have l5 := Lib.itoa_length_le (q.length : Int) (by omega) (by omega)
    obtain ⟨P0, hP0⟩ : ∃ L, L = [97, 114, 114, 105, 118, 101, 100, 32] ++ Lib.itoa a := ⟨_, rfl⟩
    obtain ⟨P1, hP1⟩ : ∃ L, L = P0 ++ [32, 100, 111, 110, 101, 32] := ⟨_, rfl⟩
    obtain ⟨P2, hP2⟩ : ∃ L, L = P1 ++ Lib.itoa d := ⟨_, rfl⟩
    obtain ⟨P3, hP3⟩ : ∃ L, L = P2 ++ [32, 116, 104, 114, 111, 116, 116, 108, 101, 100, 32] := ⟨_, rfl⟩
    obtain ⟨P4, hP4⟩ : ∃ L, L = P3 ++ Lib.itoa t := ⟨_, rfl⟩
    obtain ⟨P5, hP5⟩ : ∃ L, L = P4 ++ [32, 108, 111, 115, 116, 32] := ⟨_, rfl⟩
    obtain ⟨P6, hP6⟩ : ∃ L, L = P5 ++ Lib.itoa s := ⟨_, rfl⟩
    obtain ⟨P7, hP7⟩ : ∃ L, L = P6 ++ [32, 100, 114, 111, 112, 112, 101, 100, 32] := ⟨_, rfl⟩
    obtain ⟨P8, hP8⟩ : ∃ L, L = P7 ++ Lib.itoa p := ⟨_, rfl⟩
    obtain ⟨P9, hP9⟩ : ∃ L, L = P8 ++ [32, 119, 97, 105, 116, 105, 110, 103, 32] := ⟨_, rfl⟩
    obtain ⟨P10, hP10⟩ : ∃ L, L = P9 ++ Lib.itoa (q.length : Int) := ⟨_, rfl⟩
    have HT : Hid (srcT a d t s p q.length = P10) := Lib.hid (by rw [hP10, hP9, hP8, hP7, hP6, hP5, hP4, hP3, hP2, hP1, hP0]; rfl)
    have k0 : P0.length ≤ 30 := by rw [hP0, List.length_append]; simp only [List.length_cons, List.length_nil]; omega
    have k1 : P1.length ≤ 60 := by rw [hP1, List.length_append]; simp only [List.length_cons, List.length_nil]; omega
    have k2 : P2.length ≤ 90 := by rw [hP2, List.length_append]; omega
    have k3 : P3.length ≤ 120 := by rw [hP3, List.length_append]; simp only [List.length_cons, List.length_nil]; omega
    have k4 : P4.length ≤ 150 := by rw [hP4, List.length_append]; omega
    have k5 : P5.length ≤ 180 := by rw [hP5, List.length_append]; simp only [List.length_cons, List.length_nil]; omega
    have k6 : P6.length ≤ 210 := by rw [hP6, List.length_append]; omega
    have k7 : P7.length ≤ 240 := by rw [hP7, List.length_append]; simp only [List.length_cons, List.length_nil]; omega
    have k8 : P8.length ≤ 270 := by rw [hP8, List.length_append]; omega
    have k9 : P9.length ≤ 300 := by rw [hP9, List.length_append]; simp only [List.length_cons, List.length_nil]; omega
    have k10 : P10.length ≤ 330 := by rw [hP10, List.length_append]; omega
    have HP0 := Lib.hid hP0
    have HP1 := Lib.hid hP1
    have HP2 := Lib.hid hP2
    have HP3 := Lib.hid hP3
    have HP4 := Lib.hid hP4
    have HP5 := Lib.hid hP5
    have HP6 := Lib.hid hP6
    have HP7 := Lib.hid hP7
    have HP8 := Lib.hid hP8
    have HP9 := Lib.hid hP9
    have HP10 := Lib.hid hP10
    clear hP0 hP1 hP2 hP3 hP4 hP5 hP6 hP7 hP8 hP9 hP10
    have HB := Lib.hid HX.out.bel
    have HK := Lib.hid HX.out.box
    go_upto_region 3 with (fail)
    refine wp_region_phj 32 [some 10, some 11, some 12, some 13, some 14, some 15, some 16, some 17, some 18, some 19, some 20, some 21, some 22, some 23, some 24, some 25, some 26, some 27, some 28, some 29, some 30, some 31, some 32, some 33, some 34, some 35, some 36, some 37, some 38, some 39, some 4, some 5] (fun X => Below w1.heap.size w1 X) (herQ [atK 0 (isV (.pointer (some ⟨w.heap.size, 1, none⟩))), atK 1 (isV (.int .i64 a)), atK 2 (isV (.string ⟨(Lib.itoa a).toArray⟩)), atK 3 (isV (.string ⟨P0.toArray⟩)), atK 4 (isV (.string ⟨P1.toArray⟩)), atK 5 (isV (.pointer (some ⟨w.heap.size, 2, none⟩))), atK 6 (isV (.int .i64 d)), atK 7 (isV (.string ⟨(Lib.itoa d).toArray⟩)), atK 8 (isV (.string ⟨P2.toArray⟩)), atK 9 (isV (.string ⟨P3.toArray⟩)), atK 10 (isV (.pointer (some ⟨w.heap.size, 3, none⟩))), atK 11 (isV (.int .i64 t)), atK 12 (isV (.string ⟨(Lib.itoa t).toArray⟩)), atK 13 (isV (.string ⟨P4.toArray⟩)), atK 14 (isV (.string ⟨P5.toArray⟩)), atK 15 (isV (.pointer (some ⟨w.heap.size, 4, none⟩))), atK 16 (isV (.int .i64 s)), atK 17 (isV (.string ⟨(Lib.itoa s).toArray⟩)), atK 18 (isV (.string ⟨P6.toArray⟩)), atK 19 (isV (.string ⟨P7.toArray⟩)), atK 20 (isV (.pointer (some ⟨w.heap.size, 5, none⟩))), atK 21 (isV (.int .i64 p)), atK 22 (isV (.string ⟨(Lib.itoa p).toArray⟩)), atK 23 (isV (.string ⟨P8.toArray⟩)), atK 24 (isV (.string ⟨P9.toArray⟩)), atK 25 (isV (.pointer (some ⟨w.heap.size, 6, none⟩))), atK 26 (isV (.slice b q.length c)), atK 27 (isV (.int .i64 (q.length : Int))), atK 28 (isV (.string ⟨(Lib.itoa (q.length : Int)).toArray⟩)), atK 29 (isV (.string ⟨P10.toArray⟩)), atK 30 (isV (.string ⟨P10.toArray⟩)), atK 31 (isV (.int .i64 0))]) (herD [atK 0 (isV (.pointer (some ⟨w.heap.size, 1, none⟩))), atK 1 (isV (.int .i64 a)), atK 2 (isV (.string ⟨(Lib.itoa a).toArray⟩)), atK 3 (isV (.string ⟨P0.toArray⟩)), atK 4 (isV (.string ⟨P1.toArray⟩)), atK 5 (isV (.pointer (some ⟨w.heap.size, 2, none⟩))), atK 6 (isV (.int .i64 d)), atK 7 (isV (.string ⟨(Lib.itoa d).toArray⟩)), atK 8 (isV (.string ⟨P2.toArray⟩)), atK 9 (isV (.string ⟨P3.toArray⟩)), atK 10 (isV (.pointer (some ⟨w.heap.size, 3, none⟩))), atK 11 (isV (.int .i64 t)), atK 12 (isV (.string ⟨(Lib.itoa t).toArray⟩)), atK 13 (isV (.string ⟨P4.toArray⟩)), atK 14 (isV (.string ⟨P5.toArray⟩)), atK 15 (isV (.pointer (some ⟨w.heap.size, 4, none⟩))), atK 16 (isV (.int .i64 s)), atK 17 (isV (.string ⟨(Lib.itoa s).toArray⟩)), atK 18 (isV (.string ⟨P6.toArray⟩)), atK 19 (isV (.string ⟨P7.toArray⟩)), atK 20 (isV (.pointer (some ⟨w.heap.size, 5, none⟩))), atK 21 (isV (.int .i64 p)), atK 22 (isV (.string ⟨(Lib.itoa p).toArray⟩)), atK 23 (isV (.string ⟨P8.toArray⟩)), atK 24 (isV (.string ⟨P9.toArray⟩)), atK 25 (isV (.pointer (some ⟨w.heap.size, 6, none⟩))), atK 26 (isV (.slice b q.length c)), atK 27 (isV (.int .i64 (q.length : Int))), atK 28 (isV (.string ⟨(Lib.itoa (q.length : Int)).toArray⟩)), atK 29 (isV (.string ⟨P10.toArray⟩)), atK 30 (isV (.string ⟨P10.toArray⟩)), atK 31 (isV (.int .i64 0))]) (by kernel_rfl) (by kernel_rfl) (by kernel_rfl) (Below.refl _ _).drew ?steps ?fin
    case steps =>
      refine PjSteps.cons ?s0 (PjSteps.cons ?s1 (PjSteps.cons ?s2 (PjSteps.cons ?s3 (PjSteps.cons ?s4 (PjSteps.cons ?s5 (PjSteps.cons ?s6 (PjSteps.cons ?s7 (PjSteps.cons ?s8 (PjSteps.cons ?s9 (PjSteps.cons ?s10 (PjSteps.cons ?s11 (PjSteps.cons ?s12 (PjSteps.cons ?s13 (PjSteps.cons ?s14 (PjSteps.cons ?s15 (PjSteps.cons ?s16 (PjSteps.cons ?s17 (PjSteps.cons ?s18 (PjSteps.cons ?s19 (PjSteps.cons ?s20 (PjSteps.cons ?s21 (PjSteps.cons ?s22 (PjSteps.cons ?s23 (PjSteps.cons ?s24 (PjSteps.cons ?s25 (PjSteps.cons ?s26 (PjSteps.cons ?s27 (PjSteps.cons ?s28 (PjSteps.cons ?s29 (PjSteps.cons ?s30 (PjSteps.cons ?s31 (PjSteps.nil))))))))))))))))))))))))))))))))
      case s0 =>
        intro v f a X hat hS hv hnk hcl haf K hK
        have ev0 := hat.old 2 (fun k hk => absurd (List.mem_of_getElem? hk) (by decide))
        obtain ⟨tm, df⟩ := a
        go_simp
        exact hK.out _ _ (herQ_at rfl (show _ = _ from rfl)) (herQ_same hv hnk hcl _) hS
      case s1 =>
        intro v f a X hat hS hv hnk hcl haf K hK
        have f0 := ph_haf haf 0 (by kernel_rfl)
        have ev0 := hat.done 0 10 f0 rfl
        have h0 := hv 0 f0
        rw [show v 0 = _ from h0] at ev0
        obtain ⟨tm, df⟩ := a
        have c1 := cell_of_row X w.heap.size 1 _ _ _ (blk_bel HK.out hS)
        go_simp
        exact hK.out _ _ (herQ_at rfl (show _ = _ from rfl)) (herQ_same hv hnk hcl _) hS
      case s2 =>
        intro v f a X hat hS hv hnk hcl haf K hK
        have f0 := ph_haf haf 1 (by kernel_rfl)
        have ev0 := hat.done 1 11 f0 rfl
        have h0 := hv 1 f0
        rw [show v 1 = _ from h0] at ev0
        obtain ⟨tm, df⟩ := a
        go_simp
        refine Calls.mono (HC.out a X (by omega) (by omega) (HB.out.trans (hS.mono HB.out.size))) ?_
        rintro e Y ⟨rfl, hb⟩
        exact hK.out _ _ (herQ_at rfl (show _ = _ from rfl)) (herQ_keep hv hnk hcl hb _) (hS.trans (hb.mono hS.size))
      case s3 =>
        intro v f a X hat hS hv hnk hcl haf K hK
        have f0 := ph_haf haf 2 (by kernel_rfl)
        have ev0 := hat.done 2 12 f0 rfl
        have h0 := hv 2 f0
        rw [show v 2 = _ from h0] at ev0
        obtain ⟨tm, df⟩ := a
        go_simp
        rw [if_neg (by omega)]
        go_simp
        exact hK.out _ _ (herQ_at rfl (by show (_ : Value) = _; rw [HP0.out]; exact str_app _ _)) (herQ_same hv hnk hcl _) hS
      case s4 =>
        intro v f a X hat hS hv hnk hcl haf K hK
        have f0 := ph_haf haf 3 (by kernel_rfl)
        have ev0 := hat.done 3 13 f0 rfl
        have h0 := hv 3 f0
        rw [show v 3 = _ from h0] at ev0
        obtain ⟨tm, df⟩ := a
        go_simp
        rw [if_neg (by omega)]
        go_simp
        exact hK.out _ _ (herQ_at rfl (by show (_ : Value) = _; rw [HP1.out]; exact str_app _ _)) (herQ_same hv hnk hcl _) hS
      case s5 =>
        intro v f a X hat hS hv hnk hcl haf K hK
        have ev0 := hat.old 2 (fun k hk => absurd (List.mem_of_getElem? hk) (by decide))
        obtain ⟨tm, df⟩ := a
        go_simp
        exact hK.out _ _ (herQ_at rfl (show _ = _ from rfl)) (herQ_same hv hnk hcl _) hS
      case s6 =>
        intro v f a X hat hS hv hnk hcl haf K hK
        have f0 := ph_haf haf 5 (by kernel_rfl)
        have ev0 := hat.done 5 15 f0 rfl
        have h0 := hv 5 f0
        rw [show v 5 = _ from h0] at ev0
        obtain ⟨tm, df⟩ := a
        have c2 := cell_of_row X w.heap.size 2 _ _ _ (blk_bel HK.out hS)
        go_simp
        exact hK.out _ _ (herQ_at rfl (show _ = _ from rfl)) (herQ_same hv hnk hcl _) hS
      case s7 =>
        intro v f a X hat hS hv hnk hcl haf K hK
        have f0 := ph_haf haf 6 (by kernel_rfl)
        have ev0 := hat.done 6 16 f0 rfl
        have h0 := hv 6 f0
        rw [show v 6 = _ from h0] at ev0
        obtain ⟨tm, df⟩ := a
        go_simp
        refine Calls.mono (HC.out d X (by omega) (by omega) (HB.out.trans (hS.mono HB.out.size))) ?_
        rintro e Y ⟨rfl, hb⟩
        exact hK.out _ _ (herQ_at rfl (show _ = _ from rfl)) (herQ_keep hv hnk hcl hb _) (hS.trans (hb.mono hS.size))
      case s8 =>
        intro v f a X hat hS hv hnk hcl haf K hK
        have f0 := ph_haf haf 4 (by kernel_rfl)
        have ev0 := hat.done 4 14 f0 rfl
        have h0 := hv 4 f0
        rw [show v 4 = _ from h0] at ev0
        have f1 := ph_haf haf 7 (by kernel_rfl)
        have ev1 := hat.done 7 17 f1 rfl
        have h1 := hv 7 f1
        rw [show v 7 = _ from h1] at ev1
        obtain ⟨tm, df⟩ := a
        go_simp
        rw [if_neg (by omega)]
        go_simp
        exact hK.out _ _ (herQ_at rfl (by show (_ : Value) = _; rw [HP2.out]; exact str_app _ _)) (herQ_same hv hnk hcl _) hS
      case s9 =>
        intro v f a X hat hS hv hnk hcl haf K hK
        have f0 := ph_haf haf 8 (by kernel_rfl)
        have ev0 := hat.done 8 18 f0 rfl
        have h0 := hv 8 f0
        rw [show v 8 = _ from h0] at ev0
        obtain ⟨tm, df⟩ := a
        go_simp
        rw [if_neg (by omega)]
        go_simp
        exact hK.out _ _ (herQ_at rfl (by show (_ : Value) = _; rw [HP3.out]; exact str_app _ _)) (herQ_same hv hnk hcl _) hS
      case s10 =>
        intro v f a X hat hS hv hnk hcl haf K hK
        have ev0 := hat.old 2 (fun k hk => absurd (List.mem_of_getElem? hk) (by decide))
        obtain ⟨tm, df⟩ := a
        go_simp
        exact hK.out _ _ (herQ_at rfl (show _ = _ from rfl)) (herQ_same hv hnk hcl _) hS
      case s11 =>
        intro v f a X hat hS hv hnk hcl haf K hK
        have f0 := ph_haf haf 10 (by kernel_rfl)
        have ev0 := hat.done 10 20 f0 rfl
        have h0 := hv 10 f0
        rw [show v 10 = _ from h0] at ev0
        obtain ⟨tm, df⟩ := a
        have c3 := cell_of_row X w.heap.size 3 _ _ _ (blk_bel HK.out hS)
        go_simp
        exact hK.out _ _ (herQ_at rfl (show _ = _ from rfl)) (herQ_same hv hnk hcl _) hS
      case s12 =>
        intro v f a X hat hS hv hnk hcl haf K hK
        have f0 := ph_haf haf 11 (by kernel_rfl)
        have ev0 := hat.done 11 21 f0 rfl
        have h0 := hv 11 f0
        rw [show v 11 = _ from h0] at ev0
        obtain ⟨tm, df⟩ := a
        go_simp
        refine Calls.mono (HC.out t X (by omega) (by omega) (HB.out.trans (hS.mono HB.out.size))) ?_
        rintro e Y ⟨rfl, hb⟩
        exact hK.out _ _ (herQ_at rfl (show _ = _ from rfl)) (herQ_keep hv hnk hcl hb _) (hS.trans (hb.mono hS.size))
      case s13 =>
        intro v f a X hat hS hv hnk hcl haf K hK
        have f0 := ph_haf haf 9 (by kernel_rfl)
        have ev0 := hat.done 9 19 f0 rfl
        have h0 := hv 9 f0
        rw [show v 9 = _ from h0] at ev0
        have f1 := ph_haf haf 12 (by kernel_rfl)
        have ev1 := hat.done 12 22 f1 rfl
        have h1 := hv 12 f1
        rw [show v 12 = _ from h1] at ev1
        obtain ⟨tm, df⟩ := a
        go_simp
        rw [if_neg (by omega)]
        go_simp
        exact hK.out _ _ (herQ_at rfl (by show (_ : Value) = _; rw [HP4.out]; exact str_app _ _)) (herQ_same hv hnk hcl _) hS
      case s14 =>
        intro v f a X hat hS hv hnk hcl haf K hK
        have f0 := ph_haf haf 13 (by kernel_rfl)
        have ev0 := hat.done 13 23 f0 rfl
        have h0 := hv 13 f0
        rw [show v 13 = _ from h0] at ev0
        obtain ⟨tm, df⟩ := a
        go_simp
        rw [if_neg (by omega)]
        go_simp
        exact hK.out _ _ (herQ_at rfl (by show (_ : Value) = _; rw [HP5.out]; exact str_app _ _)) (herQ_same hv hnk hcl _) hS
      case s15 =>
        intro v f a X hat hS hv hnk hcl haf K hK
        have ev0 := hat.old 2 (fun k hk => absurd (List.mem_of_getElem? hk) (by decide))
        obtain ⟨tm, df⟩ := a
        go_simp
        exact hK.out _ _ (herQ_at rfl (show _ = _ from rfl)) (herQ_same hv hnk hcl _) hS
      case s16 =>
        intro v f a X hat hS hv hnk hcl haf K hK
        have f0 := ph_haf haf 15 (by kernel_rfl)
        have ev0 := hat.done 15 25 f0 rfl
        have h0 := hv 15 f0
        rw [show v 15 = _ from h0] at ev0
        obtain ⟨tm, df⟩ := a
        have c4 := cell_of_row X w.heap.size 4 _ _ _ (blk_bel HK.out hS)
        go_simp
        exact hK.out _ _ (herQ_at rfl (show _ = _ from rfl)) (herQ_same hv hnk hcl _) hS
      case s17 =>
        intro v f a X hat hS hv hnk hcl haf K hK
        have f0 := ph_haf haf 16 (by kernel_rfl)
        have ev0 := hat.done 16 26 f0 rfl
        have h0 := hv 16 f0
        rw [show v 16 = _ from h0] at ev0
        obtain ⟨tm, df⟩ := a
        go_simp
        refine Calls.mono (HC.out s X (by omega) (by omega) (HB.out.trans (hS.mono HB.out.size))) ?_
        rintro e Y ⟨rfl, hb⟩
        exact hK.out _ _ (herQ_at rfl (show _ = _ from rfl)) (herQ_keep hv hnk hcl hb _) (hS.trans (hb.mono hS.size))
      case s18 =>
        intro v f a X hat hS hv hnk hcl haf K hK
        have f0 := ph_haf haf 14 (by kernel_rfl)
        have ev0 := hat.done 14 24 f0 rfl
        have h0 := hv 14 f0
        rw [show v 14 = _ from h0] at ev0
        have f1 := ph_haf haf 17 (by kernel_rfl)
        have ev1 := hat.done 17 27 f1 rfl
        have h1 := hv 17 f1
        rw [show v 17 = _ from h1] at ev1
        obtain ⟨tm, df⟩ := a
        go_simp
        rw [if_neg (by omega)]
        go_simp
        exact hK.out _ _ (herQ_at rfl (by show (_ : Value) = _; rw [HP6.out]; exact str_app _ _)) (herQ_same hv hnk hcl _) hS
      case s19 =>
        intro v f a X hat hS hv hnk hcl haf K hK
        have f0 := ph_haf haf 18 (by kernel_rfl)
        have ev0 := hat.done 18 28 f0 rfl
        have h0 := hv 18 f0
        rw [show v 18 = _ from h0] at ev0
        obtain ⟨tm, df⟩ := a
        go_simp
        rw [if_neg (by omega)]
        go_simp
        exact hK.out _ _ (herQ_at rfl (by show (_ : Value) = _; rw [HP7.out]; exact str_app _ _)) (herQ_same hv hnk hcl _) hS
      case s20 =>
        intro v f a X hat hS hv hnk hcl haf K hK
        have ev0 := hat.old 2 (fun k hk => absurd (List.mem_of_getElem? hk) (by decide))
        obtain ⟨tm, df⟩ := a
        go_simp
        exact hK.out _ _ (herQ_at rfl (show _ = _ from rfl)) (herQ_same hv hnk hcl _) hS
      case s21 =>
        intro v f a X hat hS hv hnk hcl haf K hK
        have f0 := ph_haf haf 20 (by kernel_rfl)
        have ev0 := hat.done 20 30 f0 rfl
        have h0 := hv 20 f0
        rw [show v 20 = _ from h0] at ev0
        obtain ⟨tm, df⟩ := a
        have c5 := cell_of_row X w.heap.size 5 _ _ _ (blk_bel HK.out hS)
        go_simp
        exact hK.out _ _ (herQ_at rfl (show _ = _ from rfl)) (herQ_same hv hnk hcl _) hS
      case s22 =>
        intro v f a X hat hS hv hnk hcl haf K hK
        have f0 := ph_haf haf 21 (by kernel_rfl)
        have ev0 := hat.done 21 31 f0 rfl
        have h0 := hv 21 f0
        rw [show v 21 = _ from h0] at ev0
        obtain ⟨tm, df⟩ := a
        go_simp
        refine Calls.mono (HC.out p X (by omega) (by omega) (HB.out.trans (hS.mono HB.out.size))) ?_
        rintro e Y ⟨rfl, hb⟩
        exact hK.out _ _ (herQ_at rfl (show _ = _ from rfl)) (herQ_keep hv hnk hcl hb _) (hS.trans (hb.mono hS.size))
      case s23 =>
        intro v f a X hat hS hv hnk hcl haf K hK
        have f0 := ph_haf haf 19 (by kernel_rfl)
        have ev0 := hat.done 19 29 f0 rfl
        have h0 := hv 19 f0
        rw [show v 19 = _ from h0] at ev0
        have f1 := ph_haf haf 22 (by kernel_rfl)
        have ev1 := hat.done 22 32 f1 rfl
        have h1 := hv 22 f1
        rw [show v 22 = _ from h1] at ev1
        obtain ⟨tm, df⟩ := a
        go_simp
        rw [if_neg (by omega)]
        go_simp
        exact hK.out _ _ (herQ_at rfl (by show (_ : Value) = _; rw [HP8.out]; exact str_app _ _)) (herQ_same hv hnk hcl _) hS
      case s24 =>
        intro v f a X hat hS hv hnk hcl haf K hK
        have f0 := ph_haf haf 23 (by kernel_rfl)
        have ev0 := hat.done 23 33 f0 rfl
        have h0 := hv 23 f0
        rw [show v 23 = _ from h0] at ev0
        obtain ⟨tm, df⟩ := a
        go_simp
        rw [if_neg (by omega)]
        go_simp
        exact hK.out _ _ (herQ_at rfl (by show (_ : Value) = _; rw [HP9.out]; exact str_app _ _)) (herQ_same hv hnk hcl _) hS
      case s25 =>
        intro v f a X hat hS hv hnk hcl haf K hK
        have ev0 := hat.old 2 (fun k hk => absurd (List.mem_of_getElem? hk) (by decide))
        obtain ⟨tm, df⟩ := a
        go_simp
        exact hK.out _ _ (herQ_at rfl (show _ = _ from rfl)) (herQ_same hv hnk hcl _) hS
      case s26 =>
        intro v f a X hat hS hv hnk hcl haf K hK
        have f0 := ph_haf haf 25 (by kernel_rfl)
        have ev0 := hat.done 25 35 f0 rfl
        have h0 := hv 25 f0
        rw [show v 25 = _ from h0] at ev0
        obtain ⟨tm, df⟩ := a
        have c6 := cell_of_row X w.heap.size 6 _ _ _ (blk_bel HK.out hS)
        go_simp
        exact hK.out _ _ (herQ_at rfl (show _ = _ from rfl)) (herQ_same hv hnk hcl _) hS
      case s27 =>
        intro v f a X hat hS hv hnk hcl haf K hK
        have f0 := ph_haf haf 26 (by kernel_rfl)
        have ev0 := hat.done 26 36 f0 rfl
        have h0 := hv 26 f0
        rw [show v 26 = _ from h0] at ev0
        obtain ⟨tm, df⟩ := a
        go_simp
        exact hK.out _ _ (herQ_at rfl (show _ = _ from rfl)) (herQ_same hv hnk hcl _) hS
      case s28 =>
        intro v f a X hat hS hv hnk hcl haf K hK
        have f0 := ph_haf haf 27 (by kernel_rfl)
        have ev0 := hat.done 27 37 f0 rfl
        have h0 := hv 27 f0
        rw [show v 27 = _ from h0] at ev0
        obtain ⟨tm, df⟩ := a
        go_simp
        refine Calls.mono (HC.out (q.length : Int) X (by omega) (by omega) (HB.out.trans (hS.mono HB.out.size))) ?_
        rintro e Y ⟨rfl, hb⟩
        exact hK.out _ _ (herQ_at rfl (show _ = _ from rfl)) (herQ_keep hv hnk hcl hb _) (hS.trans (hb.mono hS.size))
      case s29 =>
        intro v f a X hat hS hv hnk hcl haf K hK
        have f0 := ph_haf haf 24 (by kernel_rfl)
        have ev0 := hat.done 24 34 f0 rfl
        have h0 := hv 24 f0
        rw [show v 24 = _ from h0] at ev0
        have f1 := ph_haf haf 28 (by kernel_rfl)
        have ev1 := hat.done 28 38 f1 rfl
        have h1 := hv 28 f1
        rw [show v 28 = _ from h1] at ev1
        obtain ⟨tm, df⟩ := a
        go_simp
        rw [if_neg (by omega)]
        go_simp
        exact hK.out _ _ (herQ_at rfl (by show (_ : Value) = _; rw [HP10.out]; exact str_app _ _)) (herQ_same hv hnk hcl _) hS
      case s30 =>
        intro v f a X hat hS hv hnk hcl haf K hK
        have f0 := ph_haf haf 29 (by kernel_rfl)
        have ev0 := hat.done 29 39 f0 rfl
        have h0 := hv 29 f0
        rw [show v 29 = _ from h0] at ev0
        obtain ⟨tm, df⟩ := a
        go_simp
        exact hK.out _ _ (herQ_at rfl (show _ = _ from rfl)) (herQ_same hv hnk hcl _) hS
      case s31 =>
        intro v f a X hat hS hv hnk hcl haf K hK
        obtain ⟨tm, df⟩ := a
        go_simp
        exact hK.out _ _ (herQ_at rfl (show _ = _ from rfl)) (herQ_same hv hnk hcl _) hS
    case fin =>
      intro v X hX hv
      have r0 := hv 30 (by decide)
      have r1 := hv 31 (by decide)
      simp only [pjAll, Act.put, List.setIfInBounds_toArray, List.set_cons_zero, List.set_cons_succ]
      rw [show v 30 = _ from r0, show v 31 = _ from r1]
      simp only [phTail, List.drop_succ_cons, List.drop_zero]
      go_wp2
      go_ret2
      exact ⟨src_rt HT.out, HB.out.trans (hX.mono HB.out.size)⟩
set_option maxRecDepth 100000 in
set_option maxHeartbeats 2000000 in
theorem srcTextS (l a d t s p : Int) (q : List Int) (zk zp zd zi zq zr : Int) (b : Option Addr) (c : Nat) (r : Bool) (hr : sOK ⟨l, a, d, t, s, p, q⟩ ⟨zk, zp, zd, zi, zq, zr⟩ = r) (hm : q.length ≤ maxLen) (w : World) (hz : Lies w b (kC q)) :
    Calls Tryd.prog 6 #[.agg #[.int .i64 l, .int .i64 a, .int .i64 d, .int .i64 t, .int .i64 s, .int .i64 p, .slice b q.length c], .agg #[.int .i64 zk, .int .i64 zp, .int .i64 zd, .int .i64 zi, .int .i64 zq, .int .i64 zr]] w fun e w' => e = .returned (.tuple #[.string ⟨(srcF ⟨l, a, d, t, s, p, q⟩ ⟨zk, zp, zd, zi, zq, zr⟩).1.toArray⟩, .int .i64 (srcF ⟨l, a, d, t, s, p, q⟩ ⟨zk, zp, zd, zi, zq, zr⟩).2]) ∧ Below w.heap.size w w' := by
  have HSK : Hid (∀ X, Lies X b (kC q) → Calls Tryd.prog 18 #[.agg #[.int .i64 l, .int .i64 a, .int .i64 d, .int .i64 t, .int .i64 s, .int .i64 p, .slice b q.length c], .agg #[.int .i64 zk, .int .i64 zp, .int .i64 zd, .int .i64 zi, .int .i64 zq, .int .i64 zr]] X fun e X' => e = .returned (.bool r) ∧ Below X.heap.size X X') := Lib.hid (fun X h => hr ▸ specSourceOK_any ⟨l, a, d, t, s, p, q⟩ ⟨zk, zp, zd, zi, zq, zr⟩ b c hm X h)
  have HX := Lib.hid (Bx2.start w (.cells #[.int .i64 l, .int .i64 a, .int .i64 d, .int .i64 t, .int .i64 s, .int .i64 p, .slice b q.length c] 30) (.cells #[.int .i64 zk, .int .i64 zp, .int .i64 zd, .int .i64 zi, .int .i64 zq, .int .i64 zr] 32))
  have HZ := Lib.hid hz
  have HF : Hid (srcF ⟨l, a, d, t, s, p, q⟩ ⟨zk, zp, zd, zi, zq, zr⟩ = if r = true then (srcT a d t s p q.length, 0) else ([], 1)) := Lib.hid (hr ▸ rfl)
  have HI : Hid (r = true → SIn ⟨l, a, d, t, s, p, q⟩ ⟨zk, zp, zd, zi, zq, zr⟩) := Lib.hid (fun h => sOK_in (hr.trans h))
  have HQ : Hid (r = true → q.length ≤ 2147483647) := Lib.hid (fun h => by have h1 := (sOK_in (hr.trans h)).n; have h2 := (tkB_q (sOK_in (hr.trans h)).tk).2.1; simp only at h1 h2; omega)
  generalize srcF ⟨l, a, d, t, s, p, q⟩ ⟨zk, zp, zd, zi, zq, zr⟩ = R at *
  clear hr hz
  go_enter Tryd.func6, Tryd.ntmps6
  go_upto_region 1 with (fail)
  generalize (w.alloc (.cells #[.int .i64 l, .int .i64 a, .int .i64 d, .int .i64 t, .int .i64 s, .int .i64 p, .slice b q.length c] 30)).alloc (.cells #[.int .i64 zk, .int .i64 zp, .int .i64 zd, .int .i64 zi, .int .i64 zq, .int .i64 zr] 32) = W0 at *
  have c0 := cell_of_row W0 w.heap.size 0 _ _ _ HX.out.box
  have c1 := cell_of_row W0 w.heap.size 1 _ _ _ HX.out.box
  have c2 := cell_of_row W0 w.heap.size 2 _ _ _ HX.out.box
  have c3 := cell_of_row W0 w.heap.size 3 _ _ _ HX.out.box
  have c4 := cell_of_row W0 w.heap.size 4 _ _ _ HX.out.box
  have c5 := cell_of_row W0 w.heap.size 5 _ _ _ HX.out.box
  have c6 := cell_of_row W0 w.heap.size 6 _ _ _ HX.out.box
  have t0 := cell_of_row W0 (w.heap.size + 1) 0 _ _ _ HX.out.box2
  have t1 := cell_of_row W0 (w.heap.size + 1) 1 _ _ _ HX.out.box2
  have t2 := cell_of_row W0 (w.heap.size + 1) 2 _ _ _ HX.out.box2
  have t3 := cell_of_row W0 (w.heap.size + 1) 3 _ _ _ HX.out.box2
  have t4 := cell_of_row W0 (w.heap.size + 1) 4 _ _ _ HX.out.box2
  have t5 := cell_of_row W0 (w.heap.size + 1) 5 _ _ _ HX.out.box2
  go_wp2_with fail
  refine Calls.mono (HSK.out _ (HZ.out.below HX.out.bel (Nat.le_refl _))) ?_
  rintro e w1 ⟨rfl, hb⟩
  have HX := Lib.hid (HX.out.to hb)
  clear hb c0 c1 c2 c3 c4 c5 c6 t0 t1 t2 t3 t4 t5
  cases r with
  | false =>
    have hR := HF.out
    simp only [Bool.false_eq_true, if_false] at hR
    subst hR
    go_wp2
    go_ret2
    exact ⟨rfl, HX.out.bel⟩
  | true =>
    have hR := HF.out
    simp only [if_true] at hR
    subst hR
    obtain ⟨-, -, ha, hd, ht, hs, hp, -, -⟩ := HI.out rfl
    have hn := HQ.out rfl
    simp only at ha hd ht hs hp
    clear HI HQ HF HSK
    have c0 := cell_of_row w1 w.heap.size 0 _ _ _ HX.out.box
    have c1 := cell_of_row w1 w.heap.size 1 _ _ _ HX.out.box
    have c2 := cell_of_row w1 w.heap.size 2 _ _ _ HX.out.box
    have c3 := cell_of_row w1 w.heap.size 3 _ _ _ HX.out.box
    have c4 := cell_of_row w1 w.heap.size 4 _ _ _ HX.out.box
    have c5 := cell_of_row w1 w.heap.size 5 _ _ _ HX.out.box
    have c6 := cell_of_row w1 w.heap.size 6 _ _ _ HX.out.box
    go_wp2_with fail
    refine Calls.mono (l10Text_any l a d t s p q b c ha hd ht hs hp hn _) ?_
    rintro e w2 ⟨rfl, hb⟩
    have HX := Lib.hid (HX.out.to hb)
    clear hb c0 c1 c2 c3 c4 c5 c6
    go_wp2
    go_ret2
    exact ⟨rfl, HX.out.bel⟩
theorem sourceText_any (x : ST) (z : TT) (b : Option Addr) (c : Nat) (hm : x.q.length ≤ maxLen) (w : World) (hz : Lies w b (kC x.q)) (hP : Pow10 w) :
    Calls Tryd.prog 9 #[sV x b c, tV z] w fun e w' => e = .returned (.tuple #[.string ⟨(srcF x z).1.toArray⟩, .int .i64 (srcF x z).2]) ∧ Below w.heap.size w w' := srcTextI x.l x.a x.d x.t x.s x.p x.q z.k z.p z.d z.i z.q z.r b c _ rfl hm w hz hP
theorem specSourceText_any (x : ST) (z : TT) (b : Option Addr) (c : Nat) (hm : x.q.length ≤ maxLen) (w : World) (hz : Lies w b (kC x.q)) :
    Calls Tryd.prog 6 #[sV x b c, tV z] w fun e w' => e = .returned (.tuple #[.string ⟨(srcF x z).1.toArray⟩, .int .i64 (srcF x z).2]) ∧ Below w.heap.size w w' := srcTextS x.l x.a x.d x.t x.s x.p x.q z.k z.p z.d z.i z.q z.r b c _ rfl hm w hz
end Go.Proofs.YtgbnoaclklbjbaaDoor
