/- impl.HexOf computes the same function as spec.HexOf. -/
import Derived.Test.YtlohjeidaemejaaDoorHex
namespace Go.Proofs.YtlohjeidaemejaaDoor
open Go.ChangeShapes Go.WideShapes Go.ChangeAt Go.RowKit Go.PlainAid
theorem hexOf_any (s : ByteArray) (w : World) (hs : s.size ≤ maxLen) : Calls Tryd.prog 21 #[.string s] w fun e w' => e = .returned (.string (hexF s)) ∧ Below w.heap.size w w' := by
  have hb : (s.size : Int) ≤ 9223372036854775807 := by unfold maxLen at hs; omega
  by_cases h : 32768 < s.size
  · have H := Lib.hid (hexF_long h)
    go_enter Tryd.func21, Tryd.ntmps21
    go_wp2
    go_ret
    exact ⟨ret_s (by rw [H.out]), Below.refl _ _⟩
  have H := Lib.hid (hexF_fits h)
  have hg := get_bt s
  obtain ⟨i0, hi, hz0, hz1, hz2⟩ := info_parts Tryd.u8row
  have HI := Lib.hid (And.intro hi (And.intro hz0 (And.intro hz1 hz2)))
  have hsz : s.size ≤ 32768 := by omega
  clear hi hz0 hz1 hz2
  go_enter Tryd.func21, Tryd.ntmps21
  go_wp2_with (at_make; refine wpList_make_own _ rfl _ _ _ rfl w.heap.size 5 i0 _ 1 Tryd.underlying22 HI.out.1 HI.out.2.1 HI.out.2.2.1 .i64 .i64 _ (2 * s.size) rfl rfl (by omega) (by rw [HI.out.2.2.2]; omega) (by unfold maxLen; omega) (Nat.le_refl _) ?_; intro w1 hown1 hgrow1)
  have Ho1 := Lib.hid hown1
  have Hb1 := Lib.hid ((Below.refl w.heap.size w).grown hgrow1 (Nat.le_refl _) (by intro k hk; cases hk))
  clear hown1 hgrow1
  go_loopw [3, 14] (fun v i wr => ∃ k : Nat, k ≤ s.size ∧ i = .int .i64 k ∧ Hid (wr.ownsRow w.heap.size 5 1 v (2 * k) (u8s (hexTo s k))) ∧ Hid (Below w.heap.size w wr)) (fun _ i _ => s.size - (intOf i).toNat)
  case atStart => exact ⟨0, Nat.zero_le _, rfl, Ho1, Hb1⟩
  case round =>
    obtain ⟨k, hk, rfl, ho, hb⟩ := hrel
    have b2 := bt_nonneg s k
    have b3 := bt_le s k
    by_cases hlt : k < s.size
    · have hi1 : (k : Int) < (s.size : Int) := by omega
      obtain ⟨q, hq, hq2, hq3⟩ : ∃ q : Nat, bt s k / 16 = (q : Int) ∧ q < 16 ∧ (bt s k).toNat / 16 = q := ⟨(bt s k).toNat / 16, by omega, by omega, rfl⟩
      obtain ⟨r, hr, hr2, hr3⟩ : ∃ r : Nat, bits .and .u8 (bt s k) 15 = (r : Int) ∧ r < 16 ∧ (bt s k).toNat % 16 = r := ⟨(bt s k).toNat % 16, u8_and15 _ b2 b3, by omega, rfl⟩
      have hi2 : (q : Int) < 16 := by omega
      have hi3 : (r : Int) < 16 := by omega
      have hx1 := hexD_at q hq2
      have hx2 := hexD_at r hr2
      have h3 := Lib.hid (And.intro hq3 hr3)
      clear hq3 hr3
      obtain ⟨H1, H2, H3, H4⟩ := HI.out
      have hown := ho.out
      have hbel := hb.out
      go_wp2
      go_region_law (refine step_append_own rfl (.tmp 17) (.tmp 28) _ rfl w.heap.size 5 i0 _ 1 1 Tryd.underlying22 H1 H2 H3 H4 rfl (by decide) u3 (2 * k) (u8s (hexTo s k)) rfl (hown.alloc _) ⟨wr.heap.size, 0, none⟩ 2 2 [.int .u8 ((hexD q).toNat : Int), .int .u8 ((hexD r).toNat : Int)] rfl rfl (cell_two_new _ _ _ _) (by simp [Value.oneCell']) (by unfold maxLen; omega) (by omega) (by have := hbel.size; simp; omega) (fun v' w' g1 g2 _ => ?_))
      all_goals
        have hf := Lib.hid (hexTo_succ s k h3.out.1 h3.out.2 g1)
        have hk2 := Lib.hid ((((hbel.alloc hbel.size _).drew).grown g2 (by have := hbel.size; simp; omega) (fun k hk => (hown.lt k hk).1)))
        clear g1 g2 hown hbel hx1 hx2 hq hr H1 H2 H3 H4
        go_wp2
        go_roundw
        case rel => exact ⟨k + 1, by omega, by go_num, hf, hk2⟩
        case measure => simp [intOf]; omega
    · obtain rfl : k = s.size := by omega
      have hcv := own_str 22 9 5 Tryd.underlying22 Tryd.underlying5 Tryd.underlying9 ho.out
      go_wp2
      go_ret
      exact ⟨ret_s (by rw [H.out]), hb.out⟩
end Go.Proofs.YtlohjeidaemejaaDoor
