/- Lists of instructions: the copies, comparisons, marks of the laws. -/
import Derived.Test.YtppgknjpbfopjaaGreatDoorInsOK
import Derived.Test.YtppgknjpbfopjaaGreatDoorRow
import Derived.Test.YtppgknjpbfopjaaGreatDoorInts
import Derived.Test.YtppgknjpbfopjaaGreatDoorDig
import Derived.IntWalk
import Derived.WalkSmall
import Derived.Deep.QuietTactic
import Derived.BigQuiet
import Derived.Deep.RegionWith
import Derived.Deep.DeepMust
import Derived.Outline
namespace Go.Proofs.YtppgknjpbfopjaaGreatDoor
open Go.ChangeShapes Go.WideShapes Go.ChangeAt Go.RowKit
def insC (z : Int × Int) : List Value := [.int .i64 z.1, .int .i64 z.2]
theorem insC_len (z : Int × Int) : (insC z).length = 2 := rfl
/-- The cells of element i. -/
theorem ins_at {w : World} {b o : Nat} {zs : List (Int × Int)} (h : ∀ (j : Nat) v, (flat insC zs)[j]? = some v → w.cell? ⟨b, o + j, none⟩ = some v) {i : Nat} (hi : i < zs.length) :
    w.cell? ⟨b, o + i * 2, none⟩ = some (.int .i64 (zs.getD i (0, 0)).1) ∧ w.cell? ⟨b, o + i * 2 + 1, none⟩ = some (.int .i64 (zs.getD i (0, 0)).2) := by
  have hx : zs[i]? = some (zs.getD i (0, 0)) := by simp [List.getD, hi]
  have h0 := flat_at insC_len hx (j := 0) (by omega)
  have h1 := flat_at insC_len hx (j := 1) (by omega)
  exact ⟨h (i * 2) _ h0, h (i * 2 + 1) _ h1⟩
theorem szInstrS_ok (a : Option Addr) (n c : Nat) (left : Int) (h : (n : Int) ≤ left) (hl : left ≤ 1048576) (w : World) : Calls Tryz.prog 140 #[.slice a n c, .int .i64 left] w fun e w' => e = .returned (.int .i64 (left - n)) ∧ w = w' := by
  go_enter Tryz.func140, Tryz.ntmps140
  go_wp2
  go_ret
  exact ⟨rfl, rfl⟩
theorem szInstrS_no (a : Option Addr) (n c : Nat) (left : Int) (hn : n ≤ maxLen) (h : left < (n : Int)) (hl : 0 ≤ left) (w : World) : Calls Tryz.prog 140 #[.slice a n c, .int .i64 left] w fun e w' => e = .returned (.int .i64 (-1)) ∧ w = w' := by
  unfold maxLen at hn
  go_enter Tryz.func140, Tryz.ntmps140
  go_wp2
  go_ret
  exact ⟨rfl, rfl⟩
theorem toInstrS_any (zs : List (Int × Int)) (a : Option Addr) (c : Nat) (hn : zs.length ≤ 1048576) (w : World) (hz : Lies w a (flat insC zs)) :
    Calls Tryz.prog 142 #[.slice a zs.length c] w fun e w' => e = .returned (.slice (some ⟨w.heap.size, 0, none⟩) zs.length zs.length) ∧ w'.ownsRow w.heap.size 170 2 (.slice (some ⟨w.heap.size, 0, none⟩) zs.length zs.length) zs.length (flat insC zs) ∧ Below w.heap.size w w' := by
  obtain ⟨i0, hi, hz0, hz1, hz2⟩ := info_parts (show (Tryz.prog.info? 170).map (fun i => (i.zero, i.size, i.bytes)) = some (some (.agg #[.int .i64 0, .int .i64 0]), 2, 16) by kernel_rfl)
  have HI := Lib.hid (And.intro hi (And.intro hz0 (And.intro hz1 hz2)))
  clear hi hz0 hz1 hz2
  have Hz := Lib.hid hz
  clear hz
  generalize hL : zs.length = n at *
  have HL := Lib.hid hL
  clear hL
  go_enter Tryz.func142, Tryz.ntmps142
  go_wp2_with (at_make; go_must (refine wpList_make_full _ rfl _ _ _ rfl w.heap.size 170 i0 _ 2 Tryz.underlying106 HI.out.1 HI.out.2.1 HI.out.2.2.1 .i64 .i64 _ _ n rfl rfl rfl rfl (by rw [HI.out.2.2.2]; omega) (by unfold maxLen; omega) (Nat.le_refl _) ?_); intro w1 hown1 hgrow1)
  have Ho1 := Lib.hid (Filled.zero (enc := insC) (zs := zs) hown1)
  have Hb1 := Lib.hid ((Below.refl w.heap.size w).grown hgrow1 (Nat.le_refl _) (by intro k hk; cases hk))
  clear hown1 hgrow1
  go_loopw [4] (fun i wr => ∃ k : Nat, k ≤ n ∧ i = .int .i64 k ∧ Hid (Filled insC 2 wr w.heap.size 170 w.heap.size n n zs k) ∧ Hid (Below w.heap.size w wr)) (fun i _ => n - (intOf i).toNat)
  case atStart => exact ⟨0, Nat.zero_le _, rfl, Ho1, Hb1⟩
  case round =>
    obtain ⟨k, hk, rfl, ho, hb⟩ := hrel
    by_cases hlt : k < n
    · obtain ⟨b, o, rfl, hbl, hcs⟩ := Hz.out.open (by rw [flat_len insC_len, HL.out]; omega)
      obtain ⟨c0, c1⟩ := ins_at hcs (i := k) (by rw [HL.out]; exact hlt)
      have d0 := (hb.out.cell (p := ⟨b, o + k * 2, none⟩) hbl).trans c0
      have d1 := (hb.out.cell (p := ⟨b, o + k * 2 + 1, none⟩) hbl).trans c1
      have HX : Hid (zs[k]? = some ((zs.getD k (0, 0)).1, (zs.getD k (0, 0)).2)) := Lib.hid (by simp [List.getD, HL.out, hlt])
      clear hcs c0 c1
      generalize (zs.getD k (0, 0)).1 = x at *
      generalize (zs.getD k (0, 0)).2 = y at *
      go_wp2_with fail
      refine (toInstr_any _ _ _).mono ?_
      rintro e w2 ⟨rfl, hb2⟩
      have ho2 := ho.out.below hb2
      have hb3 := hb.out.trans (hb2.mono hb.out.size)
      obtain ⟨v0, e0⟩ := ho2.there hlt 0 (by omega)
      obtain ⟨v1, e1⟩ := ho2.there hlt 1 (by omega)
      have f0 := ho2.free (k * 2)
      have f1 := ho2.free (k * 2 + 1)
      obtain ⟨hs, hg⟩ := ho2.store insC_len HL.out HX.out
      have Hs : Hid (Filled insC 2 ((w2.setCell ⟨w.heap.size, k * 2, none⟩ (.int .i64 x)).setCell ⟨w.heap.size, k * 2 + 1, none⟩ (.int .i64 y)) w.heap.size 170 w.heap.size n n zs (k + 1)) := Lib.hid hs
      have Hg : Hid (Below w.heap.size w ((w2.setCell ⟨w.heap.size, k * 2, none⟩ (.int .i64 x)).setCell ⟨w.heap.size, k * 2 + 1, none⟩ (.int .i64 y))) := Lib.hid (hb3.grown hg hb3.size (by intro k hk; cases hk; exact Nat.le_refl _))
      clear ho2 hb3 hb2 hs hg d0 d1
      rw [Nat.add_zero] at e0
      go_wp2
      go_roundw
      case rel => exact ⟨k + 1, by omega, by go_num, Hs, Hg⟩
      case measure => simp [intOf]; omega
    · obtain rfl : k = n := by omega
      go_wp2
      go_ret
      exact ⟨rfl, ho.out.full HL.out, hb.out⟩
theorem eqInstr_same (n a : Int) (w : World) : Calls Tryz.prog 186 #[.agg #[.int .i64 n, .int .i64 a], .agg #[.int .i64 n, .int .i64 a]] w fun e w' => e = .returned (.bool true) ∧ Below w.heap.size w w' := by
  go_enter Tryz.func186, Tryz.ntmps186
  go_wp2
  go_ret
  exact ⟨rfl, ((Below.refl w.heap.size w).alloc (Nat.le_refl _) _).alloc (by simp) _⟩
theorem eqInstrS_same (zs : List (Int × Int)) (a b : Option Addr) (c d : Nat) (hn : zs.length ≤ 1048576) (w : World) (hz : Lies w a (flat insC zs)) (hy : Lies w b (flat insC zs)) :
    Calls Tryz.prog 145 #[.slice a zs.length c, .slice b zs.length d] w fun e w' => e = .returned (.bool true) ∧ Below w.heap.size w w' := by
  have Hz := Lib.hid hz
  have Hy := Lib.hid hy
  clear hz hy
  generalize hL : zs.length = n at *
  have HL := Lib.hid hL
  clear hL
  have hs : ((n : Int) != n) = false := by simp
  go_enter Tryz.func145, Tryz.ntmps145
  go_wp2
  go_loopw [5] (fun i wr => ∃ k : Nat, k ≤ n ∧ i = .int .i64 k ∧ Hid (Below w.heap.size w wr)) (fun i _ => n - (intOf i).toNat)
  case atStart => exact ⟨0, Nat.zero_le _, rfl, Lib.hid (Below.refl _ _)⟩
  case round =>
    obtain ⟨k, hk, rfl, hb⟩ := hrel
    by_cases hlt : k < n
    · obtain ⟨b1, o1, rfl, hb1, hc1⟩ := Hz.out.open (by rw [flat_len insC_len, HL.out]; omega)
      obtain ⟨b2, o2, rfl, hb2, hc2⟩ := Hy.out.open (by rw [flat_len insC_len, HL.out]; omega)
      obtain ⟨c0, c1⟩ := ins_at hc1 (i := k) (by rw [HL.out]; exact hlt)
      obtain ⟨c2, c3⟩ := ins_at hc2 (i := k) (by rw [HL.out]; exact hlt)
      have d0 := (hb.out.cell (p := ⟨b1, o1 + k * 2, none⟩) hb1).trans c0
      have d1 := (hb.out.cell (p := ⟨b1, o1 + k * 2 + 1, none⟩) hb1).trans c1
      have d2 := (hb.out.cell (p := ⟨b2, o2 + k * 2, none⟩) hb2).trans c2
      have d3 := (hb.out.cell (p := ⟨b2, o2 + k * 2 + 1, none⟩) hb2).trans c3
      clear hc1 hc2 c0 c1 c2 c3
      generalize (zs.getD k (0, 0)).1 = x at *
      generalize (zs.getD k (0, 0)).2 = y at *
      go_wp2_with fail
      go_region_with (go_at_call 186; refine (eqInstr_same _ _ _).mono ?_; rintro e w2 ⟨rfl, hb3⟩; have Hb3 := Lib.hid (hb.out.trans ((below_from (n := 1) hb3 (Nat.le_refl _)).mono hb.out.size)); clear hb3)
      all_goals go_wp2
      all_goals go_roundw
      all_goals first | exact ⟨k + 1, by omega, by go_num, Hb3⟩ | (simp [intOf]; omega)
    · obtain rfl : k = n := by omega
      go_wp2
      go_ret
      exact ⟨rfl, hb.out⟩
/-- What mark leaves: the numbers from m on, one a field. -/
def marks (m : Int) : Nat → List (Int × Int)
  | 0 => []
  | k + 1 => marks m k ++ [(m + 2 * k, m + 2 * k + 1)]
theorem marks_len (m : Int) (k : Nat) : (marks m k).length = k := by
  induction k with
  | zero => rfl
  | succ k ih => simp [marks, ih]
theorem marks_at (m : Int) : ∀ (n k : Nat), k < n → (marks m n)[k]? = some (m + 2 * k, m + 2 * k + 1)
  | n + 1, k, h => by
    by_cases e : k < n
    · rw [marks, List.getElem?_append_left (by rw [marks_len]; exact e)]
      exact marks_at m n k e
    · obtain rfl : k = n := by omega
      rw [marks, List.getElem?_append_right (by rw [marks_len]; exact Nat.le_refl _), marks_len]
      simp
theorem marks_take (m : Int) (n k : Nat) (h : k ≤ n) : (marks m n).take k = marks m k := by
  apply List.ext_getElem?
  intro i
  by_cases hi : i < k
  · rw [List.getElem?_take, if_pos hi, marks_at m n i (by omega), marks_at m k i hi]
  · rw [List.getElem?_take, if_neg hi, List.getElem?_eq_none (by rw [marks_len]; omega)]
theorem markInstrS_any (B g n cap : Nat) (xs : List Value) (m : Int) (hm : 0 ≤ m ∧ m ≤ 1000000000) (hn : n ≤ 1048576) (w : World) (ho : w.ownsRow B 170 2 (.slice (some ⟨g, 0, none⟩) n cap) n xs) :
    Calls Tryz.prog 92 #[.slice (some ⟨g, 0, none⟩) n cap, .int .i64 m] w fun e w' => e = .returned (.int .i64 (m + 2 * n)) ∧ w'.ownsRow B 170 2 (.slice (some ⟨g, 0, none⟩) n cap) n (flat insC (marks m n)) ∧ w.grownBy w' (some g) := by
  have Ho := Lib.hid (Filled.zero (enc := insC) (zs := marks m n) ho)
  clear ho
  go_enter Tryz.func92, Tryz.ntmps92
  go_wp2
  go_loopw [1, 5] (fun q i wr => ∃ k : Nat, k ≤ n ∧ i = .int .i64 k ∧ q = .int .i64 (m + 2 * k) ∧ Hid (Filled insC 2 wr B 170 g n cap (marks m n) k) ∧ Hid (w.grownBy wr (some g))) (fun _ i _ => n - (intOf i).toNat)
  case atStart => exact ⟨0, Nat.zero_le _, rfl, by go_num, Ho, Lib.hid (World.grownBy.refl _ _)⟩
  case round =>
    obtain ⟨k, hk, rfl, rfl, ho, hg⟩ := hrel
    by_cases hlt : k < n
    · obtain ⟨v0, e0⟩ := ho.out.there hlt 0 (by omega)
      obtain ⟨v1, e1⟩ := ho.out.there hlt 1 (by omega)
      have f0 := ho.out.free (k * 2)
      have f1 := ho.out.free (k * 2 + 1)
      obtain ⟨hs, hg2⟩ := ho.out.store insC_len (marks_len m n) (marks_at m n k hlt)
      have Hs : Hid (Filled insC 2 ((wr.setCell ⟨g, k * 2, none⟩ (.int .i64 (m + 2 * k))).setCell ⟨g, k * 2 + 1, none⟩ (.int .i64 (m + 2 * k + 1))) B 170 g n cap (marks m n) (k + 1)) := Lib.hid hs
      have Hg : Hid (w.grownBy ((wr.setCell ⟨g, k * 2, none⟩ (.int .i64 (m + 2 * k))).setCell ⟨g, k * 2 + 1, none⟩ (.int .i64 (m + 2 * k + 1))) (some g)) := Lib.hid (row_tr hg.out hg2)
      clear hs hg2
      rw [Nat.add_zero] at e0
      go_wp2
      go_roundw
      case rel => exact ⟨k + 1, by omega, by go_num, by go_num, Hs, Hg⟩
      case measure => simp [intOf]; omega
    · obtain rfl : k = n := by omega
      go_wp2
      go_ret
      exact ⟨rfl, ho.out.full (marks_len m k), hg.out⟩
theorem lengthError_any (a : Option Addr) (n c : Nat) (w : World) : Calls Tryz.prog 159 #[.slice a n c] w fun e w' => e = .returned (.int .i64 (if 4096 < n then 2 else if 40 < n then 6 else 0)) ∧ w = w' := by
  by_cases h1 : 4096 < n
  · rw [if_pos h1]
    go_enter Tryz.func159, Tryz.ntmps159
    go_wp2
    go_ret
    exact ⟨rfl, rfl⟩
  rw [if_neg h1]
  by_cases h2 : 40 < n
  · rw [if_pos h2]
    go_enter Tryz.func159, Tryz.ntmps159
    go_wp2
    go_ret
    exact ⟨rfl, rfl⟩
  rw [if_neg h2]
  go_enter Tryz.func159, Tryz.ntmps159
  go_wp2
  go_ret
  exact ⟨rfl, rfl⟩
theorem lengthError_is {n : Nat} {z : Int} (h : (if 4096 < n then (2 : Int) else if 40 < n then 6 else 0) = z) (a : Option Addr) (c : Nat) (w : World) : Calls Tryz.prog 159 #[.slice a n c] w fun e w' => e = .returned (.int .i64 z) ∧ w = w' := h ▸ lengthError_any a n c w
end Go.Proofs.YtppgknjpbfopjaaGreatDoor
