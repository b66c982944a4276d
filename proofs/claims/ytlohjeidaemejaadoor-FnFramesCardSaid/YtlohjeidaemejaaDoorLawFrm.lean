/- The law FnFrames. -/
import Derived.Test.YtlohjeidaemejaaDoorFr2
import Derived.Test.YtlohjeidaemejaaDoorLawNum
import Derived.Deep.RegionWith
import Derived.Deep.DeepCutAuto
namespace Go.Proofs.YtlohjeidaemejaaDoor
open Go.ChangeShapes Go.WideShapes Go.ChangeAt Go.RowKit Go.PlainAid
theorem xor_byte (a c : Int) (a0 : 0 ≤ a) (a1 : a ≤ 255) (c0 : 1 ≤ c) (c1 : c ≤ 255) : ∃ x : UInt8, bits .xor .u8 a c = (x.toNat : Int) ∧ Hid ((x.toNat : Int) ≠ a) := by
  obtain ⟨A, rfl⟩ := Int.eq_ofNat_of_zero_le a0
  obtain ⟨C, rfl⟩ := Int.eq_ofNat_of_zero_le (show 0 ≤ c by omega)
  have hx : A ^^^ C < 2 ^ 8 := Nat.xor_lt_two_pow (by omega) (by omega)
  have e : bits .xor .u8 (A : Int) (C : Int) = ((A ^^^ C : Nat) : Int) := by
    show IntKind.u8.wrap ((BitVec.ofInt 8 (A : Int) ^^^ BitVec.ofInt 8 (C : Int)).toNat : Int) = _
    rw [BitVec.toNat_xor, ofInt_u8 A (by omega), ofInt_u8 C (by omega), IntKind.wrap_u8']
    omega
  have e2 : (UInt8.ofNat (A ^^^ C)).toNat = A ^^^ C := by rw [UInt8.toNat_ofNat']; omega
  refine ⟨UInt8.ofNat (A ^^^ C), by rw [e, e2], Lib.hid ?_⟩
  rw [e2]
  intro h
  have h2 : A ^^^ C = A := by omega
  have h3 : A ^^^ (A ^^^ C) = A ^^^ A := by rw [h2]
  rw [← Nat.xor_assoc, Nat.xor_self, Nat.zero_xor] at h3
  omega
theorem one_str (W : World) (g : Nat) (hg : g = W.heap.size) (x : UInt8) : (convert 22 9 (.slice (some ⟨g, 0, none⟩) 1 1)).run Tryd.prog (W.alloc (.cells #[.int .u8 (x.toNat : Int)] 5)) = .ok (.string ⟨#[x]⟩) (W.alloc (.cells #[.int .u8 (x.toNat : Int)] 5)) := by
  subst hg
  refine run_convert_bytes_back _ 22 9 5 ⟨W.heap.size, 0, none⟩ 1 [x] Tryd.underlying22 Tryd.underlying5 Tryd.underlying9 (fun j hj => ?_)
  have : j = 0 := by simp at hj; omega
  subst this
  show (W.alloc _).cell? ⟨W.heap.size, 0, none⟩ = _
  rw [cell_of_row _ _ _ _ _ _ (heap_alloc_new W _)]
  rfl
theorem bt_out {s : ByteArray} {k : Nat} (h : s.size ≤ k) : bt s k = 0 := by
  unfold bt
  rw [dif_neg (by omega)]
def bendF (t : ByteArray) (I : Nat) (x : UInt8) : ByteArray := t.extract 0 I ++ ⟨#[x]⟩ ++ t.extract (I + 1) t.size
theorem bend_size {t : ByteArray} {I : Nat} (h : I < t.size) (x : UInt8) : (bendF t I x).size = t.size := by
  unfold bendF
  rw [ByteArray.size_append, ByteArray.size_append, ByteArray.size_extract, ByteArray.size_extract]
  show _ + 1 + _ = _
  omega
theorem bend_left {t : ByteArray} {I : Nat} (h : I < t.size) (x : UInt8) : (t.extract 0 I ++ (⟨#[x]⟩ : ByteArray)).size = I + 1 := by
  rw [ByteArray.size_append, ext_size t I (by omega)]; rfl
theorem bend_at {t : ByteArray} {I : Nat} (h : I < t.size) (x : UInt8) : bt (bendF t I x) I = (x.toNat : Int) := by
  unfold bendF
  have hz := ext_size t I (by omega)
  rw [bt_left _ _ _ (by rw [bend_left h]; omega)]
  have := bt_right (t.extract 0 I) ⟨#[x]⟩ 0
  rw [hz, Nat.add_zero] at this
  rw [this]
  rfl
theorem bend_other {t : ByteArray} {I : Nat} (h : I < t.size) (x : UInt8) (j : Nat) (hj : j ≠ I) : bt (bendF t I x) j = bt t j := by
  by_cases ho : t.size ≤ j
  · rw [bt_out (by rw [bend_size h]; exact ho), bt_out ho]
  unfold bendF
  have hz := ext_size t I (by omega)
  by_cases hl : j < I
  · rw [bt_left _ _ _ (by rw [bend_left h]; omega), bt_left _ _ _ (by omega), bt_extract _ _ _ _ (by omega) (by omega), Nat.zero_add]
  · obtain ⟨k, rfl⟩ : ∃ k, j = (I + 1) + k := ⟨j - (I + 1), by omega⟩
    have := bt_right (t.extract 0 I ++ (⟨#[x]⟩ : ByteArray)) (t.extract (I + 1) t.size) k
    rw [bend_left h] at this
    rw [this, bt_extract _ _ _ _ (by omega) (by omega)]
set_option maxRecDepth 100000 in
set_option maxHeartbeats 3200000 in
theorem FnFrames_walk (a0 : Option Addr) (len0 cap0 : Nat) (z0 : List Int) (a1 : Option Addr) (len1 cap1 : Nat) (z1 : List Int) (w : World) (w0 : RowIn .u8 w a0 len0 cap0 z0) (w1 : RowIn .u8 w a1 len1 cap1 z1) (ht : ∃ a b, Sent w a b) :
    Calls Tryd.prog 4 #[.slice a0 len0 cap0, .slice a1 len1 cap1] w fun e w' => e = .returned (.bool true) ∧ Below w.heap.size w w' := by
  obtain ⟨a, b, hS⟩ := ht
  have HS := Lib.hid hS
  have b0 := bytes_of_row w0
  have b1 := bytes_of_row w1
  have n0 : (len0 : Int) ≤ 9223372036854775807 := by have := b0.1; unfold maxLen at this; omega
  have n1 : (len1 : Int) ≤ 9223372036854775807 := by have := b1.1; unfold maxLen at this; omega
  have B0 := Lib.hid b0
  have B1 := Lib.hid b1
  clear w0 w1 b0 b1 hS
  by_cases hl0 : (1048576 : Int) < (len0 : Int)
  · go_enter Tryd.func4, Tryd.ntmps4
    go_wp2
    go_ret
    exact ⟨rfl, Below.refl _ _⟩
  by_cases hl1 : (1048576 : Int) < (len1 : Int)
  · go_enter Tryd.func4, Tryd.ntmps4
    go_wp2
    go_ret
    exact ⟨rfl, Below.refl _ _⟩
  go_enter Tryd.func4, Tryd.ntmps4
  go_wp2_with fail
  refine (at_any _ _ _ _ B1.out (by omega) 0 60 (by omega) (by omega)).mono ?_
  rintro e W1 ⟨j, rfl, j0, j1, q1, rfl⟩
  have Ba := Lib.hid (below_drewN (Below.refl w.heap.size w) q1)
  generalize w.drewN q1 = W1 at *
  obtain ⟨J, rfl⟩ := Int.eq_ofNat_of_zero_le j0
  go_wp2_with fail
  refine (someText_any _ _ _ J _ (B0.out.below Ba.out) (by omega)).mono ?_
  rintro e W2 ⟨s, rfl, hs, hb⟩
  have Bb := Lib.hid (Ba.out.trans (hb.mono Ba.out.size))
  have s60 : s.size ≤ 60 := by omega
  clear hb hs
  have sm : s.size ≤ maxLen := by unfold maxLen; omega
  have F1 := Lib.hid (And.intro (frS_yes (s := s) (by omega)) (frC_yes (s := s) (by omega)))
  have Fz := Lib.hid (frame_size s60)
  have Fr := Lib.hid (And.intro (frame_S s60) (frame_C s60))
  have F4 := Lib.hid (more_C s60)
  have F5 := Lib.hid (And.intro (hex_S s60) (hex_C s60))
  have F5z := Lib.hid (hexF_size s60)
  have Fc := Lib.hid (fun (i : Nat) (h : i < (frameF s).size) => cut_C s60 h)
  have Fb := Lib.hid (fun (b : ByteArray) (hb : b.size = (frameF s).size) (i : Nat) (hi : i < (frameF s).size) hne ho => bent_C (b := b) s60 hb (i := i) hi hne ho)
  go_wp2_with fail
  refine (frameText_any s sm a b _ (HS.out.below Bb.out)).mono ?_
  rintro e W3 ⟨rfl, hb⟩
  have Bc := Lib.hid (Bb.out.trans (hb.mono Bb.out.size))
  clear hb
  rw [F1.out.1, F1.out.2]
  go_wp2_with fail
  refine (specFrameText_any s sm _).mono ?_
  rintro e W4 ⟨rfl, hb⟩
  have Bd := Lib.hid (Bc.out.trans (hb.mono Bc.out.size))
  clear hb
  rw [F1.out.1, F1.out.2]
  generalize hfr : frameF s = t at *
  have Hfr := Lib.hid hfr
  clear hfr
  have t70 : t.size = s.size + 10 := Fz.out
  have tsz : t.size ≤ 65536 := by omega
  have t1 : 1 ≤ (t.size : Int) := by omega
  have t2 : (t.size : Int) ≤ 1000000 := by omega
  have Tz := Lib.hid t70
  clear t70
  have R1 := Lib.hid (And.intro ((rdS_in tsz).trans Fr.out.1) ((rdC_in tsz).trans Fr.out.2))
  go_wp2_with fail
  refine (readFrame_any t (by unfold maxLen; omega) a b _ (HS.out.below Bd.out)).mono ?_
  rintro e W5 ⟨rfl, hb⟩
  have Be := Lib.hid (Bd.out.trans (hb.mono Bd.out.size))
  clear hb
  rw [R1.out.1, R1.out.2]
  go_wp2_with fail
  refine (at_any _ _ _ _ (B1.out.below Be.out) (by omega) 1 t.size (by omega) (by omega)).mono ?_
  rintro e W6 ⟨i, rfl, i0, i1, q2, rfl⟩
  have Bf := Lib.hid (below_drewN Be.out q2)
  generalize W5.drewN q2 = W6 at *
  obtain ⟨I, rfl⟩ := Int.eq_ofNat_of_zero_le i0
  have hI : I < t.size := by omega
  have hI2 : (I : Int) < (t.size : Int) := by omega
  have hw1 : IntKind.i64.wrap ((I : Int) + 1) = (I : Int) + 1 := IntWalk.i64_in _ (by omega)
  have hJ1 : (0 : Int) ≤ (I : Int) + 1 := by omega
  have hJ2 : (I : Int) + 1 ≤ (t.size : Int) := by omega
  have hJ3 : (I : Int) ≤ (t.size : Int) := by omega
  have hJ4 : ((I : Int) + 1).toNat = I + 1 := by omega
  have hI3 : I + 1 ≤ t.size := by omega
  have hg := get_bt t
  have Bf1 := Lib.hid (show Below w.heap.size w W6.drew from below_drewN Bf.out 1)
  go_upto_region 10 with fail
  go_cut [13] (fun s13 wx => ∃ B : ByteArray, s13 = .string B ∧ B.size ≤ 65536 ∧ Hid (rfC B ≠ 0) ∧ Hid (Below w.heap.size w wx))
  case first =>
    clear F1 F4 F5 F5z Fc R1 Fr Fz Hfr HS B0 Ba Bb Bc Bd Be n0 n1 hl0 j0 j1 sm s60 t1 t2
    go_region_with (go_at_call 11; refine (at_any _ _ _ _ (B1.out.below Bf1.out) (by omega) 2 255 (by omega) (by omega)).mono ?_; rintro e W7 ⟨v, rfl, v0, v1, q3, rfl⟩; obtain ⟨x, hx, hxn⟩ := xor_byte (bt t I) (1 + v) (bt_nonneg t I) (bt_le t I) (by omega) (by omega); have hw2 : IntKind.i64.wrap (1 + v) = 1 + v := IntWalk.i64_in _ (by omega); have hw3 : IntKind.u8.wrap (1 + v) = 1 + v := (by rw [IntKind.wrap_u8']; omega); have hcv := one_str (W6.drewN (1 + q3)) W6.heap.size rfl x)
    all_goals (go_wp2_with fail; go_meet; exact ⟨bendF t I x, rfl, by rw [bend_size hI]; exact tsz, Lib.hid (Fb.out _ (bend_size hI x) I hI (by rw [bend_at hI]; exact hxn.out) (fun j hj => bend_other hI x j hj)), Lib.hid ((below_drewN Bf.out (1 + q3)).alloc (by have := (below_drewN Bf.out (1 + q3)).size; omega) _)⟩)
  case rest =>
    obtain ⟨B, rfl, Bz, Hb, Bg⟩ := hcut
    have Rb := Lib.hid (rdC_in Bz)
    have BzH := Lib.hid Bz
    go_wp2_with fail
    refine (readFrame_any B (by unfold maxLen; omega) a b _ (HS.out.below Bg.out)).mono ?_
    rintro e W8 ⟨rfl, hb⟩
    have Bh := Lib.hid (Bg.out.trans (hb.mono Bg.out.size))
    clear hb
    rw [Rb.out]
    go_wp2_with fail
    refine (specReadFrame_any B (by have := BzH.out; unfold maxLen; omega) _).mono ?_
    rintro e W9 ⟨rfl, hb⟩
    have Bi := Lib.hid (Bh.out.trans (hb.mono Bh.out.size))
    clear hb
    rw [Rb.out]
    have hc0 : (rfC B == 0) = false := beq_eq_false_iff_ne.2 Hb.out
    have hc1 : (rfC B != 0) = true := bne_iff_ne.2 Hb.out
    generalize rfC B = c at *
    go_wp2_with fail
    refine (at_any _ _ _ _ (B1.out.below Bi.out) (by omega) 3 t.size (by omega) (by omega)).mono ?_
    rintro e W10 ⟨k, rfl, k0, k1, q4, rfl⟩
    have Bj := Lib.hid (below_drewN Bi.out q4)
    generalize W9.drewN q4 = W10 at *
    obtain ⟨K, rfl⟩ := Int.eq_ofNat_of_zero_le k0
    have hK : K < t.size := by omega
    have hK1 : (K : Int) ≤ (t.size : Int) := by omega
    have Kz := Lib.hid (ext_size t K (by omega))
    have Kc := Lib.hid (Fc.out K hK)
    have Kr := Lib.hid (rdC_in (s := t.extract 0 K) (by rw [Kz.out]; omega))
    go_wp2_with fail
    refine (readFrame_any (t.extract 0 K) (by rw [Kz.out]; unfold maxLen; omega) a b _ (HS.out.below Bj.out)).mono ?_
    rintro e W11 ⟨rfl, hb⟩
    have Bk := Lib.hid (Bj.out.trans (hb.mono Bj.out.size))
    clear hb
    rw [Kr.out]
    have mz : (t ++ (⟨#[120]⟩ : ByteArray)).size = t.size + 1 := by rw [ByteArray.size_append]; rfl
    have t75 : t.size ≤ 70 := by have := Tz.out; omega
    have Mz := Lib.hid mz
    have Mr := Lib.hid ((rdC_in (s := t ++ (⟨#[120]⟩ : ByteArray)) (by omega)).trans F4.out)
    clear mz
    go_wp2_with fail
    refine (readFrame_any (t ++ (⟨#[120]⟩ : ByteArray)) (by rw [Mz.out]; unfold maxLen; omega) a b _ (HS.out.below Bk.out)).mono ?_
    rintro e W12 ⟨rfl, hb⟩
    have Bl := Lib.hid (Bk.out.trans (hb.mono Bk.out.size))
    clear hb
    rw [Mr.out]
    go_wp2_with fail
    refine (hexOf_any s _ sm).mono ?_
    rintro e W13 ⟨rfl, hb⟩
    have Bm := Lib.hid (Bl.out.trans (hb.mono Bl.out.size))
    clear hb
    go_wp2_with fail
    refine (bytesOf_any (hexF s) _ (by rw [F5z.out]; unfold maxLen; omega)).mono ?_
    rintro e W14 ⟨rfl, hb⟩
    have Bn := Lib.hid (Bm.out.trans (hb.mono Bm.out.size))
    clear hb
    rw [F5.out.1, F5.out.2]
    generalize hd : rfC (t.extract 0 K) = d at *
    have Hd := Lib.hid hd
    clear hd
    rcases Kc.out with rfl | rfl
    all_goals
      go_wp2_with fail
      refine (sumOf_any s _ sm).mono ?_
      rintro e W15 ⟨rfl, rfl⟩
      go_wp2_with fail
      refine (specSumOf_any s _ sm).mono ?_
      rintro e W15 ⟨rfl, rfl⟩
      go_wp2_with fail
      refine (specHexOf_any s _ sm).mono ?_
      rintro e W16 ⟨rfl, hb⟩
      have Bo := Lib.hid (Bn.out.trans (hb.mono Bn.out.size))
      clear hb
      go_wp2
      go_ret
      exact ⟨rfl, Bo.out⟩
end Go.Proofs.YtlohjeidaemejaaDoor
