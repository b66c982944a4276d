/- Lists of instructions: the copies, comparisons, marks of the laws. -/
import Derived.Test.YtpdnkcfphjbbfaaInsOK
import Derived.Test.YtpdnkcfphjbbfaaRow
import Derived.Test.YtpdnkcfphjbbfaaInts
import Derived.Test.YtpdnkcfphjbbfaaDig
import Derived.IntWalk
import Derived.WalkSmall
import Derived.Deep.QuietTactic
import Derived.BigQuiet
import Derived.Deep.RegionWith
import Derived.Deep.DeepMust
import Derived.Outline
namespace Go.Proofs.Ytpdnkcfphjbbfaa
open Go.ChangeShapes Go.WideShapes Go.ChangeAt Go.RowKit
def insC (z : Int × Int) : List Value := [.int .i64 z.1, .int .i64 z.2]
theorem insC_len (z : Int × Int) : (insC z).length = 2 := rfl
/-- The cells of element i. -/
theorem ins_at {w : World} {b o : Nat} {zs : List (Int × Int)} (h : ∀ (j : Nat) v, (flat insC zs)[j]? = some v → w.cell? ⟨b, o + j, none⟩ = some v) {i : Nat} (hi : i < zs.length) :
    w.cell? ⟨b, o + i * 2, none⟩ = some (.int .i64 (zs.getD i (0, 0)).1) ∧ w.cell? ⟨b, o + i * 2 + 1, none⟩ = some (.int .i64 (zs.getD i (0, 0)).2) := by
  have hx : zs[i]? = some (zs.getD i (0, 0)) := by simp [List.getD, hi]
  have h0 := flat_at insC_len hx (j := 0) (by omega)
  have h1 := flat_at insC_len hx (j := 1) (by omega)
  exact ⟨h (i * 2) _ h0, h (i * 2 + 1) _ h1⟩
theorem eqInstr_same (n a : Int) (w : World) : Calls Try.prog 32 #[.agg #[.int .i64 n, .int .i64 a], .agg #[.int .i64 n, .int .i64 a]] w fun e w' => e = .returned (.bool true) ∧ Below w.heap.size w w' := by
  go_enter Try.func32, Try.ntmps32
  go_wp2
  go_ret
  exact ⟨rfl, ((Below.refl w.heap.size w).alloc (Nat.le_refl _) _).alloc (by simp) _⟩
theorem eqInstrS_same (zs : List (Int × Int)) (a b : Option Addr) (c d : Nat) (hn : zs.length ≤ 1048576) (w : World) (hz : Lies w a (flat insC zs)) (hy : Lies w b (flat insC zs)) :
    Calls Try.prog 31 #[.slice a zs.length c, .slice b zs.length d] w fun e w' => e = .returned (.bool true) ∧ Below w.heap.size w w' := by
  have Hz := Lib.hid hz
  have Hy := Lib.hid hy
  clear hz hy
  generalize hL : zs.length = n at *
  have HL := Lib.hid hL
  clear hL
  have hs : ((n : Int) != n) = false := by simp
  go_enter Try.func31, Try.ntmps31
  go_wp2
  go_loopw [5] (fun i wr => ∃ k : Nat, k ≤ n ∧ i = .int .i64 k ∧ Hid (Below w.heap.size w wr)) (fun i _ => n - (intOf i).toNat)
  case atStart => exact ⟨0, Nat.zero_le _, rfl, Lib.hid (Below.refl _ _)⟩
  case round =>
    obtain ⟨k, hk, rfl, hb⟩ := hrel
    by_cases hlt : k < n
    · obtain ⟨b1, o1, rfl, hb1, hc1⟩ := Hz.out.open (by rw [flat_len insC_len, HL.out]; omega)
      obtain ⟨b2, o2, rfl, hb2, hc2⟩ := Hy.out.open (by rw [flat_len insC_len, HL.out]; omega)
      obtain ⟨c0, c1⟩ := ins_at hc1 (i := k) (by rw [HL.out]; exact hlt)
      obtain ⟨c2, c3⟩ := ins_at hc2 (i := k) (by rw [HL.out]; exact hlt)
      have d0 := (hb.out.cell (p := ⟨b1, o1 + k * 2, none⟩) hb1).trans c0
      have d1 := (hb.out.cell (p := ⟨b1, o1 + k * 2 + 1, none⟩) hb1).trans c1
      have d2 := (hb.out.cell (p := ⟨b2, o2 + k * 2, none⟩) hb2).trans c2
      have d3 := (hb.out.cell (p := ⟨b2, o2 + k * 2 + 1, none⟩) hb2).trans c3
      clear hc1 hc2 c0 c1 c2 c3
      generalize (zs.getD k (0, 0)).1 = x at *
      generalize (zs.getD k (0, 0)).2 = y at *
      go_wp2_with fail
      go_region_with (go_at_call 32; refine (eqInstr_same _ _ _).mono ?_; rintro e w2 ⟨rfl, hb3⟩; have Hb3 := Lib.hid (hb.out.trans ((below_from (n := 1) hb3 (Nat.le_refl _)).mono hb.out.size)); clear hb3)
      all_goals go_wp2
      all_goals go_roundw
      all_goals first | exact ⟨k + 1, by omega, by go_num, Hb3⟩ | (simp [intOf]; omega)
    · obtain rfl : k = n := by omega
      go_wp2
      go_ret
      exact ⟨rfl, hb.out⟩
/-- What mark leaves: the numbers from m on, one a field. -/
def marks (m : Int) : Nat → List (Int × Int)
  | 0 => []
  | k + 1 => marks m k ++ [(m + 2 * k, m + 2 * k + 1)]
theorem marks_len (m : Int) (k : Nat) : (marks m k).length = k := by
  induction k with
  | zero => rfl
  | succ k ih => simp [marks, ih]
theorem marks_at (m : Int) : ∀ (n k : Nat), k < n → (marks m n)[k]? = some (m + 2 * k, m + 2 * k + 1)
  | n + 1, k, h => by
    by_cases e : k < n
    · rw [marks, List.getElem?_append_left (by rw [marks_len]; exact e)]
      exact marks_at m n k e
    · obtain rfl : k = n := by omega
      rw [marks, List.getElem?_append_right (by rw [marks_len]; exact Nat.le_refl _), marks_len]
      simp
theorem marks_take (m : Int) (n k : Nat) (h : k ≤ n) : (marks m n).take k = marks m k := by
  apply List.ext_getElem?
  intro i
  by_cases hi : i < k
  · rw [List.getElem?_take, if_pos hi, marks_at m n i (by omega), marks_at m k i hi]
  · rw [List.getElem?_take, if_neg hi, List.getElem?_eq_none (by rw [marks_len]; omega)]
theorem markInstrS_any (B g n cap : Nat) (xs : List Value) (m : Int) (hm : 0 ≤ m ∧ m ≤ 1000000000) (hn : n ≤ 1048576) (w : World) (ho : w.ownsRow B 41 2 (.slice (some ⟨g, 0, none⟩) n cap) n xs) :
    Calls Try.prog 29 #[.slice (some ⟨g, 0, none⟩) n cap, .int .i64 m] w fun e w' => e = .returned (.int .i64 (m + 2 * n)) ∧ w'.ownsRow B 41 2 (.slice (some ⟨g, 0, none⟩) n cap) n (flat insC (marks m n)) ∧ w.grownBy w' (some g) := by
  have Ho := Lib.hid (Filled.zero (enc := insC) (zs := marks m n) ho)
  clear ho
  go_enter Try.func29, Try.ntmps29
  go_wp2
  go_loopw [1, 5] (fun q i wr => ∃ k : Nat, k ≤ n ∧ i = .int .i64 k ∧ q = .int .i64 (m + 2 * k) ∧ Hid (Filled insC 2 wr B 41 g n cap (marks m n) k) ∧ Hid (w.grownBy wr (some g))) (fun _ i _ => n - (intOf i).toNat)
  case atStart => exact ⟨0, Nat.zero_le _, rfl, by go_num, Ho, Lib.hid (World.grownBy.refl _ _)⟩
  case round =>
    obtain ⟨k, hk, rfl, rfl, ho, hg⟩ := hrel
    by_cases hlt : k < n
    · obtain ⟨v0, e0⟩ := ho.out.there hlt 0 (by omega)
      obtain ⟨v1, e1⟩ := ho.out.there hlt 1 (by omega)
      have f0 := ho.out.free (k * 2)
      have f1 := ho.out.free (k * 2 + 1)
      obtain ⟨hs, hg2⟩ := ho.out.store insC_len (marks_len m n) (marks_at m n k hlt)
      have Hs : Hid (Filled insC 2 ((wr.setCell ⟨g, k * 2, none⟩ (.int .i64 (m + 2 * k))).setCell ⟨g, k * 2 + 1, none⟩ (.int .i64 (m + 2 * k + 1))) B 41 g n cap (marks m n) (k + 1)) := Lib.hid hs
      have Hg : Hid (w.grownBy ((wr.setCell ⟨g, k * 2, none⟩ (.int .i64 (m + 2 * k))).setCell ⟨g, k * 2 + 1, none⟩ (.int .i64 (m + 2 * k + 1))) (some g)) := Lib.hid (row_tr hg.out hg2)
      clear hs hg2
      rw [Nat.add_zero] at e0
      go_wp2
      go_roundw
      case rel => exact ⟨k + 1, by omega, by go_num, by go_num, Hs, Hg⟩
      case measure => simp [intOf]; omega
    · obtain rfl : k = n := by omega
      go_wp2
      go_ret
      exact ⟨rfl, ho.out.full (marks_len m k), hg.out⟩
theorem heldInstrS_any (n cap : Nat) (a : Option Addr) (m : Int) (hm : 0 ≤ m ∧ m ≤ 1000000000) (hn : n ≤ 1048576) (w : World) (hz : Lies w a (flat insC (marks m n))) :
    Calls Try.prog 30 #[.slice a n cap, .int .i64 m] w fun e w' => e = .returned (.int .i64 (m + 2 * n)) ∧ w = w' := by
  have Hz := Lib.hid hz
  clear hz
  go_enter Try.func30, Try.ntmps30
  go_wp2
  go_loop [1, 5] (fun q i => ∃ k : Nat, k ≤ n ∧ i = .int .i64 k ∧ q = .int .i64 (m + 2 * k)) (fun _ i => n - (intOf i).toNat)
  case atStart => exact ⟨0, Nat.zero_le _, rfl, by go_num⟩
  case round =>
    obtain ⟨k, hk, rfl, rfl⟩ := hrel
    by_cases hlt : k < n
    · obtain ⟨b, o, rfl, hbl, hcs⟩ := Hz.out.open (by rw [flat_len insC_len, marks_len]; omega)
      obtain ⟨c0, c1⟩ := ins_at hcs (i := k) (by rw [marks_len]; exact hlt)
      have hx : (marks m n).getD k (0, 0) = (m + 2 * k, m + 2 * k + 1) := by rw [List.getD, marks_at m n k hlt]; rfl
      rw [hx] at c0 c1
      clear hcs hx
      go_wp2
      go_round
      case rel => exact ⟨k + 1, by omega, by go_num, by go_num⟩
      case measure => simp [intOf]; omega
    · obtain rfl : k = n := by omega
      go_wp2
      go_ret
      exact ⟨rfl, rfl⟩
end Go.Proofs.Ytpdnkcfphjbbfaa
