/- The law: code is read back from its bytes; cut within an instruction it is none. -/
import Derived.Test.YtgbhihenflooeaaDoorRdBack
import Derived.Test.YtgbhihenflooeaaDoorDrawIns
import Derived.Outline
namespace Go.Proofs.YtgbhihenflooeaaDoor
open Go.ChangeShapes Go.WideShapes Go.ChangeAt Go.RowKit
theorem came_bytes {W : World} {a : Option Addr} {n c : Nat} (h : Came Tryd.prog W 22 [.slice a n c]) : Bytes0 W W.heap.size a n := by
  obtain ⟨hm, hx⟩ := came_ints Tryd.underlying22 Tryd.underlying5 (by kernel_rfl) h
  refine ⟨hm, fun hn => ?_⟩
  obtain ⟨x, e, hb, hc⟩ := hx hn
  refine ⟨x, e, hb, fun i hi => ?_⟩
  obtain ⟨z, wz, hz⟩ := hc i hi
  have := bounds_u8 wz
  exact ⟨z, by omega, by omega, hz⟩
theorem Bytes0.bel {w w' : World} {B n : Nat} {a : Option Addr} (h : Bytes0 w B a n) (g : Below B w w') {B' : Nat} (hB : B ≤ B') : Bytes0 w' B' a n :=
  ⟨h.1, fun hn => by
    obtain ⟨x, e, hx, hc⟩ := h.2 hn
    refine ⟨x, e, by omega, fun i hi => ?_⟩
    obtain ⟨z, z0, z1, hz⟩ := hc i hi
    exact ⟨z, z0, z1, (g.cell (by rw [add_block]; exact hx)).trans hz⟩⟩
theorem FnCode_came (a : Option Addr) (n c : Nat) (a1 : Option Addr) (n1 c1 : Nat) (W : World) (h0 : Came Tryd.prog W 22 [.slice a n c]) (h1 : Came Tryd.prog W 22 [.slice a1 n1 c1]) (hf : OpTab W ∧ ∃ aR bE, Sent W aR bE) :
    Calls Tryd.prog 3 #[.slice a n c, .slice a1 n1 c1] W fun e w' => e = .returned (.bool true) ∧ Below W.heap.size W w' := by
  obtain ⟨hT, aR, bE, hS⟩ := hf
  have B0 := Lib.hid (came_bytes h0)
  have B1 := Lib.hid (came_bytes h1)
  have hn := B0.out.1
  have hn1 := B1.out.1
  unfold maxLen at hn hn1
  have HT := Lib.hid hT
  have HS := Lib.hid hS
  clear hT hS h0 h1
  by_cases l0 : 1048576 < n
  · go_enter Tryd.func3, Tryd.ntmps3
    go_wp2
    go_ret
    exact ⟨rfl, Below.refl _ _⟩
  by_cases l1 : 1048576 < n1
  · go_enter Tryd.func3, Tryd.ntmps3
    go_wp2
    go_ret
    exact ⟨rfl, Below.refl _ _⟩
  go_enter Tryd.func3, Tryd.ntmps3
  go_wp2_with fail
  refine (at_any a1 n1 c1 W B1.out (by omega) 0 20 (by omega) (by omega)).mono ?_
  rintro e w1 ⟨v, rfl, v0, v1, q, rfl⟩
  obtain ⟨m, rfl⟩ := Int.eq_ofNat_of_zero_le v0
  have H0 := Lib.hid (below_dn (Below.refl W.heap.size W) q)
  go_wp2_with fail
  refine (specSomeCode_any a n c m _ (B0.out.bel H0.out (Nat.le_refl _)) (by omega)).mono ?_
  rintro e w2 ⟨a2, c2, zs, rfl, hl, hok, hz, hb2⟩
  have Hb2 := Lib.hid (H0.out.trans (hb2.mono H0.out.size))
  have hm : m ≤ 19 := by omega
  have h40 : zs.length ≤ 40 := by omega
  have HC := Lib.hid (fun a c w hb hz => codeText_any zs a c (by omega) W w aR bE HT.out HS.out hb hz)
  have HD := Lib.hid (fun a c w hz => specCodeText_any zs a c (by omega) w hz)
  have hcode := code_ok (zs := zs) (by omega) hok
  rw [hcode.1, hcode.2] at HC HD
  have Hr0 := Lib.hid (readF_code zs hok h40)
  have Hr1 := Lib.hid (readF_cut zs hok h40)
  have Hr2 := Lib.hid (readF_bad zs hok h40)
  have hX := codeL_len zs
  have HE := Lib.hid (fun a b c d w hz hy => sameCode_same zs a b c d (by omega) w hz hy)
  have Hz2 := Lib.hid hz
  have hlen : (codeL zs).length ≤ 200 := by omega
  clear hb2 hcode hX hok hz h40
  generalize codeL zs = X at *
  rw [hl] at HC HD HE
  have Hl := Lib.hid hl
  clear hl
  go_wp2_with fail
  refine (HC.out _ _ _ Hb2.out Hz2.out).mono ?_
  rintro e w3 ⟨rfl, hb3⟩
  have Hb3 := Lib.hid (Hb2.out.trans (hb3.mono Hb2.out.size))
  have Hz3 := Lib.hid (Hz2.out.below hb3 (Nat.le_refl _))
  clear hb3
  go_wp2_with fail
  refine (HD.out _ _ _ Hz3.out).mono ?_
  rintro e w4 ⟨rfl, hb4⟩
  have Hb4 := Lib.hid (Hb3.out.trans (hb4.mono Hb3.out.size))
  have Hz4 := Lib.hid (Hz3.out.below hb4 (Nat.le_refl _))
  clear hb4
  go_wp2_with fail
  refine (readCode_any ⟨X.toArray⟩ (by unfold maxLen; rw [size_mk]; omega) W w4 aR bE HT.out HS.out Hb4.out).mono ?_
  rintro e w5 ⟨v5, he5, ho5, hb5⟩
  rw [Hr0.out] at he5 ho5
  subst he5
  rw [Hl.out] at ho5
  obtain ⟨a5, c5, rfl⟩ := own_slice ho5
  have Hb5 := Lib.hid (Hb4.out.trans (hb5.mono Hb4.out.size))
  have Hz5 := Lib.hid (Hz4.out.below hb5 (Nat.le_refl _))
  have Ho5 := Lib.hid (lies_own ho5)
  clear ho5 hb5
  have Hs1 := Lib.hid (show readF ((⟨X.toArray⟩ : ByteArray) ++ ⟨#[1, 0]⟩) = ([], 16) from (congrArg readF (bapp X [1, 0])).trans Hr1.out)
  have Hs2 := Lib.hid (show readF ((⟨X.toArray⟩ : ByteArray) ++ ⟨#[27]⟩) = ([], 11) from (congrArg readF (bapp X [27])).trans Hr2.out)
  go_wp2_with fail
  refine (readCode_any _ (by unfold maxLen; rw [ByteArray.size_append, size_mk]; show X.length + 2 ≤ _; omega) W w5 aR bE HT.out HS.out Hb5.out).mono ?_
  rintro e w6 ⟨v6, he6, ho6, hb6⟩
  rw [Hs1.out] at he6
  subst he6
  have Hb6 := Lib.hid (Hb5.out.trans (hb6.mono Hb5.out.size))
  have Hz6 := Lib.hid (Hz5.out.below hb6 (Nat.le_refl _))
  have Ho6 := Lib.hid (Ho5.out.below hb6 (Nat.le_refl _))
  clear ho6 hb6
  go_wp2_with fail
  refine (readCode_any _ (by unfold maxLen; rw [ByteArray.size_append, size_mk]; show X.length + 1 ≤ _; omega) W w6 aR bE HT.out HS.out Hb6.out).mono ?_
  rintro e w7 ⟨v7, he7, ho7, hb7⟩
  rw [Hs2.out] at he7
  subst he7
  have Hb7 := Lib.hid (Hb6.out.trans (hb7.mono Hb6.out.size))
  have Hz7 := Lib.hid (Hz6.out.below hb7 (Nat.le_refl _))
  have Ho7 := Lib.hid (Ho6.out.below hb7 (Nat.le_refl _))
  clear ho7 hb7
  go_wp2_with fail
  refine (HE.out _ _ _ _ _ Ho7.out Hz7.out).mono ?_
  rintro e w8 ⟨rfl, hb8⟩
  have Hb8 := Lib.hid (Hb7.out.trans (hb8.mono Hb7.out.size))
  clear hb8
  go_wp2
  go_ret
  exact ⟨rfl, Hb8.out⟩
end Go.Proofs.YtgbhihenflooeaaDoor
