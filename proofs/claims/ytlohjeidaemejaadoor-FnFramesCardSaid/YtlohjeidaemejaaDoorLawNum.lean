/- The law FnNumbers. -/
import Derived.Test.YtlohjeidaemejaaDoorRound
import Derived.Test.YtlohjeidaemejaaDoorAt
namespace Go.Proofs.YtlohjeidaemejaaDoor
open Go.ChangeShapes Go.WideShapes Go.ChangeAt Go.RowKit Go.PlainAid
/-- What is known of a slice of integers that came in: nil, or a row of cells. -/
def RowIn (k : IntKind) (w : World) (a : Option Addr) (len cap : Nat) (zs : List Int) : Prop :=
  (a = none ∧ len = 0 ∧ cap = 0 ∧ zs = []) ∨
  ∃ x, a = some x ∧ len ≤ cap ∧ cap ≤ maxLen ∧ zs.length = cap ∧ (∀ i, i < zs.length → w.cell? (x.add i) = some (.int k (zs.getD i 0))) ∧ ∀ n ∈ zs, (Lit.int k n).wf = true
theorem bytes_of_row {w : World} {a : Option Addr} {n c : Nat} {zs : List Int} (h : RowIn .u8 w a n c zs) : Bytes0 w w.heap.size a n := by
  rcases h with ⟨rfl, rfl, rfl, rfl⟩ | ⟨x, rfl, hl, hm, hz, hc, hw⟩
  · exact ⟨Nat.zero_le _, fun h => absurd h (by omega)⟩
  · refine ⟨by omega, fun hn => ⟨x, rfl, ?_, fun i hi => ?_⟩⟩
    · have := cell_block (hc 0 (by omega))
      rwa [add_block] at this
    · have hi' : i < zs.length := by omega
      refine ⟨zs.getD i 0, ?_, ?_, hc i hi'⟩
      all_goals
        have hm := hw (zs.getD i 0) (by rw [List.getD_eq_getElem?_getD, List.getElem?_eq_getElem hi']; exact List.getElem_mem hi')
        have := bounds_u8 hm
        omega
theorem Bytes0.below {w w' : World} {a : Option Addr} {n B : Nat} (h : Bytes0 w B a n) (g : Below B w w') : Bytes0 w' w'.heap.size a n :=
  ⟨h.1, fun hn => by
    obtain ⟨x, e, hx, hc⟩ := h.2 hn
    refine ⟨x, e, ?_, fun i hi => ?_⟩
    · obtain ⟨z, _, _, hz⟩ := hc 0 hn
      have h2 := cell_block ((g.cell (p := x.add 0) (by rw [add_block]; exact hx)).trans hz)
      rwa [add_block] at h2
    · obtain ⟨z, z0, z1, hz⟩ := hc i hi
      exact ⟨z, z0, z1, (g.cell (p := x.add i) (by rw [add_block]; exact hx)).trans hz⟩⟩
theorem tmod_bd (v m : Int) (h : 0 < m) : -m < v.tmod m ∧ v.tmod m < m := by
  constructor
  · have := Int.lt_tmod_of_pos v h
    omega
  · exact Int.tmod_lt_of_pos v h
theorem cells3 (w : World) : (w.alloc (.cells #[.int .i64 1, .int .i64 2, .int .i64 4] 3)).cell? ⟨w.heap.size, 0, none⟩ = some (.int .i64 1) ∧ (w.alloc (.cells #[.int .i64 1, .int .i64 2, .int .i64 4] 3)).cell? ⟨w.heap.size, 1, none⟩ = some (.int .i64 2) ∧ (w.alloc (.cells #[.int .i64 1, .int .i64 2, .int .i64 4] 3)).cell? ⟨w.heap.size, 2, none⟩ = some (.int .i64 4) := by
  refine ⟨?_, ?_, ?_⟩
  all_goals
    rw [cell_of_row _ _ _ _ _ _ (heap_alloc_new w _)]
    rfl
set_option maxRecDepth 100000 in
set_option maxHeartbeats 1600000 in
theorem FnNumbers_walk (a0 : Option Addr) (len0 cap0 : Nat) (z0 : List Int) (a1 : Option Addr) (len1 cap1 : Nat) (z1 : List Int) (w : World) (w0 : RowIn .u8 w a0 len0 cap0 z0) (w1 : RowIn .u8 w a1 len1 cap1 z1) (ht : ∃ a b, Sent w a b) :
    Calls Tryd.prog 3 #[.slice a0 len0 cap0, .slice a1 len1 cap1] w fun e w' => e = .returned (.bool true) ∧ Below w.heap.size w w' := by
  obtain ⟨a, b, hS⟩ := ht
  have HS := Lib.hid hS
  have b0 := bytes_of_row w0
  have b1 := bytes_of_row w1
  have n0 : (len0 : Int) ≤ 9223372036854775807 := by have := b0.1; unfold maxLen at this; omega
  have n1 : (len1 : Int) ≤ 9223372036854775807 := by have := b1.1; unfold maxLen at this; omega
  have B0 := Lib.hid b0
  have B1 := Lib.hid b1
  clear w0 w1 b0 b1 hS
  by_cases hl0 : (1048576 : Int) < (len0 : Int)
  · go_enter Tryd.func3, Tryd.ntmps3
    go_wp2
    go_ret
    exact ⟨rfl, Below.refl _ _⟩
  by_cases hl1 : (1048576 : Int) < (len1 : Int)
  · go_enter Tryd.func3, Tryd.ntmps3
    go_wp2
    go_ret
    exact ⟨rfl, Below.refl _ _⟩
  go_enter Tryd.func3, Tryd.ntmps3
  go_wp2_with fail
  have Ba := Lib.hid ((Below.refl w.heap.size w).alloc (Nat.le_refl _) (.cells #[.int .i64 1, .int .i64 2, .int .i64 4] 3))
  have C3 := Lib.hid (cells3 w)
  generalize w.alloc (.cells #[.int .i64 1, .int .i64 2, .int .i64 4] 3) = W1 at *
  refine (at_any _ _ _ _ (B1.out.below Ba.out) (by omega) 0 3 (by omega) (by omega)).mono ?_
  rintro e W2 ⟨j, rfl, j0, j1, q, rfl⟩
  have c0 : (W1.drewN q).cell? ⟨w.heap.size, 0, none⟩ = some (.int .i64 1) := C3.out.1
  have c1 : (W1.drewN q).cell? ⟨w.heap.size, 1, none⟩ = some (.int .i64 2) := C3.out.2.1
  have c2 : (W1.drewN q).cell? ⟨w.heap.size, 2, none⟩ = some (.int .i64 4) := C3.out.2.2
  have Bb := Lib.hid (below_drewN Ba.out q)
  generalize W1.drewN q = W2 at *
  have Hsz : Hid (∃ size : Int, (size = 1 ∨ size = 2 ∨ size = 4) ∧ W2.cell? ⟨w.heap.size, j.toNat, none⟩ = some (.int .i64 size)) := by
    obtain rfl | rfl | rfl : j = 0 ∨ j = 1 ∨ j = 2 := by omega
    · exact Lib.hid ⟨1, by omega, c0⟩
    · exact Lib.hid ⟨2, by omega, c1⟩
    · exact Lib.hid ⟨4, by omega, c2⟩
  clear c0 c1 c2
  obtain ⟨J, rfl⟩ := Int.eq_ofNat_of_zero_le j0
  obtain ⟨size, hsz, hcell⟩ := Hsz.out
  rw [Int.toNat_natCast] at hcell
  clear Hsz C3
  go_wp2_with fail
  refine (valueDrawn_any _ _ _ _ (B0.out.below Bb.out)).mono ?_
  rintro e W3 ⟨v, rfl, lv, hv, hb3⟩
  have Bc := Lib.hid (Bb.out.trans (hb3.mono Bb.out.size))
  clear hb3 hcell
  rcases hsz with rfl | rfl | rfl
  · go_wp2_with fail
    have Hf : Hid (fitsN (v.tmod 128) 1 = true) := Lib.hid (decide_eq_true (by
      have := tmod_bd v 128 (by omega)
      omega))
    generalize v.tmod 128 = n at *
    refine (at_any _ _ _ _ (B1.out.below Bc.out) (by omega) 1 9 (by omega) (by omega)).mono ?_
    rintro e W4 ⟨j2, rfl, p0, p1, q2, rfl⟩
    have Bd := Lib.hid (below_drewN Bc.out q2)
    generalize W3.drewN q2 = W4 at *
    obtain ⟨J2, rfl⟩ := Int.eq_ofNat_of_zero_le p0
    go_wp2_with fail
    refine (someText_any _ _ _ J2 _ (B1.out.below Bd.out) (by omega)).mono ?_
    rintro e W5 ⟨hd, rfl, hds, hb5⟩
    have Be := Lib.hid (Bd.out.trans (hb5.mono Bd.out.size))
    have hd1 : hd.size ≤ 8 := by omega
    clear hb5 hds
    go_wp2_with fail
    refine (putNumber_any _ _ a b _ (HS.out.below Be.out)).mono ?_
    rintro e W6 ⟨rfl, hb6⟩
    have Bf := Lib.hid (Be.out.trans (hb6.mono Be.out.size))
    clear hb6
    go_wp2_with fail
    refine (specPut_any _ _ _).mono ?_
    rintro e W7 ⟨rfl, hb7⟩
    have Bg := Lib.hid (Bf.out.trans (hb7.mono Bf.out.size))
    clear hb7
    generalize hT : putS n 1 = T at *
    have hTs : T.size = 1 := by rw [← hT]; exact putS_size Hf.out
    have HT := Lib.hid hT
    clear hT
    go_wp2_with fail
    have hfull : (hd ++ T ++ (⟨#[120]⟩ : ByteArray)).size = hd.size + 1 + 1 := by rw [ByteArray.size_append, ByteArray.size_append, hTs]; rfl
    have hshort : (hd ++ T).size = hd.size + 1 := by rw [ByteArray.size_append, hTs]
    have X1 : Hid (takeN (hd ++ T ++ (⟨#[120]⟩ : ByteArray)) (hd.size : Int) 1 = n) := Lib.hid (by
      rw [takeN_ok (s := hd ++ T ++ (⟨#[120]⟩ : ByteArray)) (at_ := (hd.size : Int)) (size := 1) rfl (by rw [hfull]; omega), Int.toNat_natCast, ← HT.out]
      exact take_put hd _ Hf.out)
    have X2 : Hid (takeC (hd ++ T ++ (⟨#[120]⟩ : ByteArray)) (hd.size : Int) 1 = 0) := Lib.hid (takeC_ok rfl (by rw [hfull]; omega))
    have X3 : Hid (takeC (hd ++ T) ((hd.size : Int) + 1) 1 = 16) := Lib.hid (takeC_end rfl (by rw [hshort]; omega))
    have X4 : Hid (putC 2147483648 4 = 4) := Lib.hid (putC_no (decide_eq_false (by omega)))
    have X5 : putC n 1 = 0 := putC_yes Hf.out
    have Hfu := Lib.hid hfull
    have Hsh := Lib.hid hshort
    clear hfull hshort
    refine (takeNumber_any _ (by rw [Hfu.out]; omega) _ _ a b _ (HS.out.below Bg.out)).mono ?_
    rintro e W8 ⟨rfl, hb8⟩
    have Bh := Lib.hid (Bg.out.trans (hb8.mono Bg.out.size))
    clear hb8
    rw [X1.out, X2.out]
    go_wp2_with fail
    refine (takeNumber_any _ (by rw [Hsh.out]; omega) _ _ a b _ (HS.out.below Bh.out)).mono ?_
    rintro e W9 ⟨rfl, hb9⟩
    have Bi := Lib.hid (Bh.out.trans (hb9.mono Bh.out.size))
    clear hb9
    rw [X3.out]
    go_wp2_with fail
    refine (putNumber_any _ _ a b _ (HS.out.below Bi.out)).mono ?_
    rintro e W10 ⟨rfl, hb10⟩
    have Bj := Lib.hid (Bi.out.trans (hb10.mono Bi.out.size))
    clear hb10
    rw [X4.out]
    go_wp2
    go_ret
    exact ⟨rfl, Bj.out⟩
  · go_wp2_with fail
    have Hf : Hid (fitsN (v.tmod 32768) 2 = true) := Lib.hid (decide_eq_true (by
      have := tmod_bd v 32768 (by omega)
      omega))
    generalize v.tmod 32768 = n at *
    refine (at_any _ _ _ _ (B1.out.below Bc.out) (by omega) 1 9 (by omega) (by omega)).mono ?_
    rintro e W4 ⟨j2, rfl, p0, p1, q2, rfl⟩
    have Bd := Lib.hid (below_drewN Bc.out q2)
    generalize W3.drewN q2 = W4 at *
    obtain ⟨J2, rfl⟩ := Int.eq_ofNat_of_zero_le p0
    go_wp2_with fail
    refine (someText_any _ _ _ J2 _ (B1.out.below Bd.out) (by omega)).mono ?_
    rintro e W5 ⟨hd, rfl, hds, hb5⟩
    have Be := Lib.hid (Bd.out.trans (hb5.mono Bd.out.size))
    have hd1 : hd.size ≤ 8 := by omega
    clear hb5 hds
    go_wp2_with fail
    refine (putNumber_any _ _ a b _ (HS.out.below Be.out)).mono ?_
    rintro e W6 ⟨rfl, hb6⟩
    have Bf := Lib.hid (Be.out.trans (hb6.mono Be.out.size))
    clear hb6
    go_wp2_with fail
    refine (specPut_any _ _ _).mono ?_
    rintro e W7 ⟨rfl, hb7⟩
    have Bg := Lib.hid (Bf.out.trans (hb7.mono Bf.out.size))
    clear hb7
    generalize hT : putS n 2 = T at *
    have hTs : T.size = 2 := by rw [← hT]; exact putS_size Hf.out
    have HT := Lib.hid hT
    clear hT
    go_wp2_with fail
    have hfull : (hd ++ T ++ (⟨#[120]⟩ : ByteArray)).size = hd.size + 2 + 1 := by rw [ByteArray.size_append, ByteArray.size_append, hTs]; rfl
    have hshort : (hd ++ T).size = hd.size + 2 := by rw [ByteArray.size_append, hTs]
    have X1 : Hid (takeN (hd ++ T ++ (⟨#[120]⟩ : ByteArray)) (hd.size : Int) 2 = n) := Lib.hid (by
      rw [takeN_ok (s := hd ++ T ++ (⟨#[120]⟩ : ByteArray)) (at_ := (hd.size : Int)) (size := 2) rfl (by rw [hfull]; omega), Int.toNat_natCast, ← HT.out]
      exact take_put hd _ Hf.out)
    have X2 : Hid (takeC (hd ++ T ++ (⟨#[120]⟩ : ByteArray)) (hd.size : Int) 2 = 0) := Lib.hid (takeC_ok rfl (by rw [hfull]; omega))
    have X3 : Hid (takeC (hd ++ T) ((hd.size : Int) + 1) 2 = 16) := Lib.hid (takeC_end rfl (by rw [hshort]; omega))
    have X4 : Hid (putC 2147483648 4 = 4) := Lib.hid (putC_no (decide_eq_false (by omega)))
    have X5 : putC n 2 = 0 := putC_yes Hf.out
    have Hfu := Lib.hid hfull
    have Hsh := Lib.hid hshort
    clear hfull hshort
    refine (takeNumber_any _ (by rw [Hfu.out]; omega) _ _ a b _ (HS.out.below Bg.out)).mono ?_
    rintro e W8 ⟨rfl, hb8⟩
    have Bh := Lib.hid (Bg.out.trans (hb8.mono Bg.out.size))
    clear hb8
    rw [X1.out, X2.out]
    go_wp2_with fail
    refine (takeNumber_any _ (by rw [Hsh.out]; omega) _ _ a b _ (HS.out.below Bh.out)).mono ?_
    rintro e W9 ⟨rfl, hb9⟩
    have Bi := Lib.hid (Bh.out.trans (hb9.mono Bh.out.size))
    clear hb9
    rw [X3.out]
    go_wp2_with fail
    refine (putNumber_any _ _ a b _ (HS.out.below Bi.out)).mono ?_
    rintro e W10 ⟨rfl, hb10⟩
    have Bj := Lib.hid (Bi.out.trans (hb10.mono Bi.out.size))
    clear hb10
    rw [X4.out]
    go_wp2
    go_ret
    exact ⟨rfl, Bj.out⟩
  · go_wp2_with fail
    have Hf : Hid (fitsN v 4 = true) := Lib.hid (decide_eq_true (by omega))
    generalize v = n at *
    refine (at_any _ _ _ _ (B1.out.below Bc.out) (by omega) 1 9 (by omega) (by omega)).mono ?_
    rintro e W4 ⟨j2, rfl, p0, p1, q2, rfl⟩
    have Bd := Lib.hid (below_drewN Bc.out q2)
    generalize W3.drewN q2 = W4 at *
    obtain ⟨J2, rfl⟩ := Int.eq_ofNat_of_zero_le p0
    go_wp2_with fail
    refine (someText_any _ _ _ J2 _ (B1.out.below Bd.out) (by omega)).mono ?_
    rintro e W5 ⟨hd, rfl, hds, hb5⟩
    have Be := Lib.hid (Bd.out.trans (hb5.mono Bd.out.size))
    have hd1 : hd.size ≤ 8 := by omega
    clear hb5 hds
    go_wp2_with fail
    refine (putNumber_any _ _ a b _ (HS.out.below Be.out)).mono ?_
    rintro e W6 ⟨rfl, hb6⟩
    have Bf := Lib.hid (Be.out.trans (hb6.mono Be.out.size))
    clear hb6
    go_wp2_with fail
    refine (specPut_any _ _ _).mono ?_
    rintro e W7 ⟨rfl, hb7⟩
    have Bg := Lib.hid (Bf.out.trans (hb7.mono Bf.out.size))
    clear hb7
    generalize hT : putS n 4 = T at *
    have hTs : T.size = 4 := by rw [← hT]; exact putS_size Hf.out
    have HT := Lib.hid hT
    clear hT
    go_wp2_with fail
    have hfull : (hd ++ T ++ (⟨#[120]⟩ : ByteArray)).size = hd.size + 4 + 1 := by rw [ByteArray.size_append, ByteArray.size_append, hTs]; rfl
    have hshort : (hd ++ T).size = hd.size + 4 := by rw [ByteArray.size_append, hTs]
    have X1 : Hid (takeN (hd ++ T ++ (⟨#[120]⟩ : ByteArray)) (hd.size : Int) 4 = n) := Lib.hid (by
      rw [takeN_ok (s := hd ++ T ++ (⟨#[120]⟩ : ByteArray)) (at_ := (hd.size : Int)) (size := 4) rfl (by rw [hfull]; omega), Int.toNat_natCast, ← HT.out]
      exact take_put hd _ Hf.out)
    have X2 : Hid (takeC (hd ++ T ++ (⟨#[120]⟩ : ByteArray)) (hd.size : Int) 4 = 0) := Lib.hid (takeC_ok rfl (by rw [hfull]; omega))
    have X3 : Hid (takeC (hd ++ T) ((hd.size : Int) + 1) 4 = 16) := Lib.hid (takeC_end rfl (by rw [hshort]; omega))
    have X4 : Hid (putC 2147483648 4 = 4) := Lib.hid (putC_no (decide_eq_false (by omega)))
    have X5 : putC n 4 = 0 := putC_yes Hf.out
    have Hfu := Lib.hid hfull
    have Hsh := Lib.hid hshort
    clear hfull hshort
    refine (takeNumber_any _ (by rw [Hfu.out]; omega) _ _ a b _ (HS.out.below Bg.out)).mono ?_
    rintro e W8 ⟨rfl, hb8⟩
    have Bh := Lib.hid (Bg.out.trans (hb8.mono Bg.out.size))
    clear hb8
    rw [X1.out, X2.out]
    go_wp2_with fail
    refine (takeNumber_any _ (by rw [Hsh.out]; omega) _ _ a b _ (HS.out.below Bh.out)).mono ?_
    rintro e W9 ⟨rfl, hb9⟩
    have Bi := Lib.hid (Bh.out.trans (hb9.mono Bh.out.size))
    clear hb9
    rw [X3.out]
    go_wp2_with fail
    refine (putNumber_any _ _ a b _ (HS.out.below Bi.out)).mono ?_
    rintro e W10 ⟨rfl, hb10⟩
    have Bj := Lib.hid (Bi.out.trans (hb10.mono Bi.out.size))
    clear hb10
    rw [X4.out]
    go_wp2
    go_ret
    exact ⟨rfl, Bj.out⟩
end Go.Proofs.YtlohjeidaemejaaDoor
