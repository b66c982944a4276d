/- impl.HexOf and spec.HexOf compute the same function. -/
import Derived.Test.YtlohjeidaemejaaDoorRows
import Derived.Test.YtlohjeidaemejaaDoorOwn
import Derived.WalkKit
import Derived.ProofKit
import Derived.OpenShut
import Derived.Handy
import Derived.PlainAid
import Derived.WalkSmall
import Derived.StillTailTactics
import Derived.Lib.Hide
namespace Go.Proofs.YtlohjeidaemejaaDoor
open Go.ChangeShapes Go.WideShapes Go.ChangeAt Go.RowKit Go.PlainAid
theorem Tryd.u8row : (Tryd.prog.info? 5).map (fun i => (i.zero, i.size, i.bytes)) = some (some (.int .u8 0), 1, 1) := by kernel_rfl
theorem hexTo_succ (s : ByteArray) (k : Nat) {q r : Nat} {B : Nat} {v : Value} {w : World} (hq : (bt s k).toNat / 16 = q) (hr : (bt s k).toNat % 16 = r) {e : TypeId}
    (h : w.ownsRow B e 1 v (2 * k + 2) (u8s (hexTo s k) ++ [.int .u8 ((hexD q).toNat : Int), .int .u8 ((hexD r).toNat : Int)])) : w.ownsRow B e 1 v (2 * (k + 1)) (u8s (hexTo s (k + 1))) := by
  rw [u8s_snoc2, ← hq, ← hr] at h
  exact h
theorem l01Hex_any (s : ByteArray) (w : World) (hs : s.size ≤ 70000000000000) : Calls Tryd.prog 46 #[.string s] w fun e w' => e = .returned (.string ⟨(hexTo s s.size).toArray⟩) ∧ Below w.heap.size w w' := by
  have hg := get_bt s
  obtain ⟨i0, hi, hz0, hz1, hz2⟩ := info_parts Tryd.u8row
  have HI := Lib.hid (And.intro hi (And.intro hz0 (And.intro hz1 hz2)))
  clear hi hz0 hz1 hz2
  go_enter Tryd.func46, Tryd.ntmps46
  go_wp2
  go_loopw [3, 4] (fun v i wr => ∃ k : Nat, k ≤ s.size ∧ i = .int .i64 k ∧ Hid (wr.ownsRow w.heap.size 5 1 v (2 * k) (u8s (hexTo s k))) ∧ Hid (Below w.heap.size w wr)) (fun _ i _ => s.size - (intOf i).toNat)
  case atStart => exact ⟨0, Nat.zero_le _, rfl, Lib.hid (World.ownsRow_lit w #[] 0 (Nat.le_refl _) (Nat.zero_le _) rfl), Lib.hid ((Below.refl _ _).alloc (Nat.le_refl _) _)⟩
  case round =>
    obtain ⟨k, hk, rfl, ho, hb⟩ := hrel
    have b2 := bt_nonneg s k
    have b3 := bt_le s k
    by_cases hlt : k < s.size
    · obtain ⟨q, hq, hq2, hq3⟩ : ∃ q : Nat, IntKind.u8.wrap ((bt s k).tdiv 16) = (q : Int) ∧ q < 16 ∧ (bt s k).toNat / 16 = q := ⟨(bt s k).toNat / 16, by rw [IntWalk.u8_quo _ _ ⟨b2, b3, by omega⟩]; omega, by omega, rfl⟩
      obtain ⟨r, hr, hr2, hr3⟩ : ∃ r : Nat, (bt s k).tmod 16 = (r : Int) ∧ r < 16 ∧ (bt s k).toNat % 16 = r := ⟨(bt s k).toNat % 16, by rw [IntWalk.rem_in _ _ b2]; omega, by omega, rfl⟩
      have hi1 : (k : Int) < (s.size : Int) := by omega
      have hi2 : (q : Int) < 16 := by omega
      have hi3 : (r : Int) < 16 := by omega
      have hx1 := hexD_at q hq2
      have hx2 := hexD_at r hr2
      have h3 := Lib.hid (And.intro hq3 hr3)
      clear hq3 hr3
      obtain ⟨H1, H2, H3, H4⟩ := HI.out
      have hown := ho.out
      have hbel := hb.out
      go_wp2
      go_region_law (refine step_append_own rfl (.tmp 12) (.tmp 23) _ rfl w.heap.size 5 i0 _ 1 1 Tryd.underlying22 H1 H2 H3 H4 rfl (by decide) u3 (2 * k) (u8s (hexTo s k)) rfl (hown.alloc _) ⟨wr.heap.size, 0, none⟩ 2 2 [.int .u8 ((hexD q).toNat : Int), .int .u8 ((hexD r).toNat : Int)] rfl rfl (cell_two_new _ _ _ _) (by simp [Value.oneCell']) (by unfold maxLen; omega) (by omega) (by have := hbel.size; simp; omega) (fun v' w' g1 g2 _ => ?_))
      all_goals
        have hf := Lib.hid (hexTo_succ s k h3.out.1 h3.out.2 g1)
        have hk2 := Lib.hid ((((hbel.alloc hbel.size _).drew).grown g2 (by have := hbel.size; simp; omega) (fun k hk => (hown.lt k hk).1)))
        clear g1 g2 hown hbel hx1 hx2 hq hr H1 H2 H3 H4
        go_wp2
        go_roundw
        case rel => exact ⟨k + 1, by omega, by go_num, hf, hk2⟩
        case measure => simp [intOf]; omega
    · obtain rfl : k = s.size := by omega
      have hcv := own_str 22 9 5 Tryd.underlying22 Tryd.underlying5 Tryd.underlying9 ho.out
      go_wp2
      go_ret
      exact ⟨rfl, hb.out⟩
def hexF (s : ByteArray) : ByteArray := if 32768 < s.size then ⟨#[]⟩ else ⟨(hexTo s s.size).toArray⟩
theorem hexF_long {s : ByteArray} (h : 32768 < s.size) : hexF s = ⟨#[]⟩ := if_pos h
theorem hexF_fits {s : ByteArray} (h : ¬ 32768 < s.size) : hexF s = ⟨(hexTo s s.size).toArray⟩ := if_neg h
theorem ret_s {a b : ByteArray} (h : a = b) : Ending.returned (.string a) = .returned (.string b) := by rw [h]
theorem specHexOf_any (s : ByteArray) (w : World) (hs : s.size ≤ maxLen) : Calls Tryd.prog 25 #[.string s] w fun e w' => e = .returned (.string (hexF s)) ∧ Below w.heap.size w w' := by
  have hb : (s.size : Int) ≤ 9223372036854775807 := by unfold maxLen at hs; omega
  by_cases h : 32768 < s.size
  · have H := Lib.hid (hexF_long h)
    go_enter Tryd.func25, Tryd.ntmps25
    go_wp2
    go_ret
    exact ⟨ret_s (by rw [H.out]), Below.refl _ _⟩
  · have H := Lib.hid (hexF_fits h)
    go_enter Tryd.func25, Tryd.ntmps25
    go_wp2_with (go_at_call 46; refine (l01Hex_any _ _ (by omega)).mono ?_; rintro e w' ⟨rfl, hb1⟩)
    go_ret
    exact ⟨ret_s (by rw [H.out]), hb1⟩
end Go.Proofs.YtlohjeidaemejaaDoor
