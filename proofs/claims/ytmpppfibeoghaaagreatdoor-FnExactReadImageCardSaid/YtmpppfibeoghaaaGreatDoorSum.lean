/- impl.SumOf and spec.SumOf compute the same function. -/
import Derived.Test.YtmpppfibeoghaaaGreatDoorRows
import Derived.WalkKit
import Derived.ProofKit
import Derived.OpenShut
import Derived.Handy
import Derived.PlainAid
import Derived.Lib.Hide
namespace Go.Proofs.YtmpppfibeoghaaaGreatDoor
open Go.ChangeShapes Go.WideShapes Go.ChangeAt Go.RowKit Go.PlainAid
/-- The sum over the first k bytes. -/
def sumTo (s : ByteArray) : Nat → Int
  | 0 => 1
  | k + 1 => (31 * sumTo s k + bt s k) % 32749
theorem sumTo_bd (s : ByteArray) (k : Nat) : 0 ≤ sumTo s k ∧ sumTo s k ≤ 32748 := by
  cases k with
  | zero => simp [sumTo]
  | succ k => simp only [sumTo]; omega
theorem sumTo_succ (s : ByteArray) (k : Nat) : sumTo s (k + 1) = (31 * sumTo s k + bt s k) % 32749 := rfl
theorem ret_i {k : IntKind} {a b : Int} (h : a = b) : Ending.returned (.int k a) = .returned (.int k b) := by rw [h]
/-- What SumOf answers. -/
def sumF (s : ByteArray) : Int := if 65536 < s.size then 0 else sumTo s s.size
theorem sumF_long {s : ByteArray} (h : 65536 < s.size) : sumF s = 0 := if_pos h
theorem sumF_fits {s : ByteArray} (h : ¬ 65536 < s.size) : sumF s = sumTo s s.size := if_neg h
theorem sumF_bd (s : ByteArray) : 0 ≤ sumF s ∧ sumF s ≤ 32748 := by
  unfold sumF
  split
  · omega
  · exact sumTo_bd s _
theorem l01Sum_any (s : ByteArray) (w : World) (hs : s.size ≤ maxLen) : Calls Tryz.prog 127 #[.string s] w fun e w' => e = .returned (.int .i64 (sumTo s s.size)) ∧ w = w' := by
  unfold maxLen at hs
  have hg := get_bt s
  go_enter Tryz.func127, Tryz.ntmps127
  go_wp2
  go_loop [3, 4] (fun n i => ∃ k : Nat, k ≤ s.size ∧ i = .int .i64 k ∧ n = .int .i64 (sumTo s k)) (fun _ i => s.size - (intOf i).toNat)
  case atStart => exact ⟨0, Nat.zero_le _, rfl, rfl⟩
  case round =>
    obtain ⟨k, hk, rfl, rfl⟩ := hrel
    have b1 := sumTo_bd s k
    have b2 := bt_nonneg s k
    have b3 := bt_le s k
    by_cases hlt : k < s.size
    · go_wp2
      go_round
      case rel => exact ⟨k + 1, by omega, by go_num, rfl⟩
      case measure => simp [intOf]; omega
    · obtain rfl : k = s.size := by omega
      go_wp2
      go_ret
      exact ⟨rfl, rfl⟩
theorem sumOf_any (s : ByteArray) (w : World) (hs : s.size ≤ maxLen) : Calls Tryz.prog 72 #[.string s] w fun e w' => e = .returned (.int .i64 (sumF s)) ∧ w = w' := by
  unfold maxLen at hs
  by_cases h : 65536 < s.size
  · have H := Lib.hid (sumF_long h)
    go_enter Tryz.func72, Tryz.ntmps72
    go_wp2
    go_ret
    exact ⟨ret_i (by rw [H.out]), rfl⟩
  have H := Lib.hid (sumF_fits h)
  have hg := get_bt s
  go_enter Tryz.func72, Tryz.ntmps72
  go_wp2
  go_loop [3, 10] (fun n i => ∃ k : Nat, k ≤ s.size ∧ i = .int .i64 k ∧ n = .int .i64 (sumTo s k)) (fun _ i => s.size - (intOf i).toNat)
  case atStart => exact ⟨0, Nat.zero_le _, rfl, rfl⟩
  case round =>
    obtain ⟨k, hk, rfl, rfl⟩ := hrel
    have b1 := sumTo_bd s k
    have b2 := bt_nonneg s k
    have b3 := bt_le s k
    by_cases hlt : k < s.size
    · go_wp2
      go_round
      case rel => exact ⟨k + 1, by omega, by go_num, rfl⟩
      case measure => simp [intOf]; omega
    · obtain rfl : k = s.size := by omega
      go_wp2
      go_ret
      exact ⟨ret_i (by rw [H.out]), rfl⟩
end Go.Proofs.YtmpppfibeoghaaaGreatDoor
