/- Lists of flat code: comparisons, marks of the laws. -/
import Derived.Test.YtnehaidkhpjpbaaDoorInsRow
import Derived.Test.YtnehaidkhpjpbaaDoorFlatP
namespace Go.Proofs.YtnehaidkhpjpbaaDoor
open Go.ChangeShapes Go.WideShapes Go.ChangeAt Go.RowKit
set_option linter.unusedVariables false
/-- The cells of element i. -/
theorem f3_at {w : World} {b o : Nat} {zs : List (Int × Int × Int)} (h : ∀ (j : Nat) v, (flat f3C zs)[j]? = some v → w.cell? ⟨b, o + j, none⟩ = some v) {i : Nat} (hi : i < zs.length) :
    w.cell? ⟨b, o + i * 3, none⟩ = some (.int .i64 (zs.getD i (0, 0, 0)).1) ∧ w.cell? ⟨b, o + i * 3 + 1, none⟩ = some (.int .i64 (zs.getD i (0, 0, 0)).2.1) ∧ w.cell? ⟨b, o + i * 3 + 2, none⟩ = some (.int .i64 (zs.getD i (0, 0, 0)).2.2) := by
  have hx : zs[i]? = some (zs.getD i (0, 0, 0)) := by simp [List.getD, hi]
  have h0 := flat_at f3C_len hx (j := 0) (by omega)
  have h1 := flat_at f3C_len hx (j := 1) (by omega)
  have h2 := flat_at f3C_len hx (j := 2) (by omega)
  exact ⟨h (i * 3) _ h0, h (i * 3 + 1) _ h1, h (i * 3 + 2) _ h2⟩
theorem fl3_flat (hs : List Ins) (ts : List Int) : fl3 hs ts = flat f3C (z3 hs ts) := rfl
theorem eqFlat_same (n a t : Int) (w : World) : Calls Tryd.prog 77 #[.agg #[.int .i64 n, .int .i64 a, .int .i64 t], .agg #[.int .i64 n, .int .i64 a, .int .i64 t]] w fun e w' => e = .returned (.bool true) ∧ Below w.heap.size w w' := by
  go_enter Tryd.func77, Tryd.ntmps77
  go_wp2
  go_ret
  exact ⟨rfl, ((Below.refl w.heap.size w).alloc (Nat.le_refl _) _).alloc (by simp) _⟩
theorem eqFlatS_same (zs : List (Int × Int × Int)) (a b : Option Addr) (c d : Nat) (hn : zs.length ≤ 1048576) (w : World) (hz : Lies w a (flat f3C zs)) (hy : Lies w b (flat f3C zs)) :
    Calls Tryd.prog 38 #[.slice a zs.length c, .slice b zs.length d] w fun e w' => e = .returned (.bool true) ∧ Below w.heap.size w w' := by
  have Hz := Lib.hid hz
  have Hy := Lib.hid hy
  clear hz hy
  generalize hL : zs.length = n at *
  have HL := Lib.hid hL
  clear hL
  have hs : ((n : Int) != n) = false := by simp
  go_enter Tryd.func38, Tryd.ntmps38
  go_wp2
  go_loopw [5] (fun i wr => ∃ k : Nat, k ≤ n ∧ i = .int .i64 k ∧ Hid (Below w.heap.size w wr)) (fun i _ => n - (intOf i).toNat)
  case atStart => exact ⟨0, Nat.zero_le _, rfl, Lib.hid (Below.refl _ _)⟩
  case round =>
    obtain ⟨k, hk, rfl, hb⟩ := hrel
    by_cases hlt : k < n
    · obtain ⟨b1, o1, rfl, hb1, hc1⟩ := Hz.out.open (by rw [flat_len f3C_len, HL.out]; omega)
      obtain ⟨b2, o2, rfl, hb2, hc2⟩ := Hy.out.open (by rw [flat_len f3C_len, HL.out]; omega)
      obtain ⟨c0, c1, c4⟩ := f3_at hc1 (i := k) (by rw [HL.out]; exact hlt)
      obtain ⟨c2, c3, c5⟩ := f3_at hc2 (i := k) (by rw [HL.out]; exact hlt)
      have d0 := (hb.out.cell (p := ⟨b1, o1 + k * 3, none⟩) hb1).trans c0
      have d1 := (hb.out.cell (p := ⟨b1, o1 + k * 3 + 1, none⟩) hb1).trans c1
      have d2 := (hb.out.cell (p := ⟨b2, o2 + k * 3, none⟩) hb2).trans c2
      have d3 := (hb.out.cell (p := ⟨b2, o2 + k * 3 + 1, none⟩) hb2).trans c3
      have d4 := (hb.out.cell (p := ⟨b1, o1 + k * 3 + 2, none⟩) hb1).trans c4
      have d5 := (hb.out.cell (p := ⟨b2, o2 + k * 3 + 2, none⟩) hb2).trans c5
      clear hc1 hc2 c0 c1 c2 c3 c4 c5
      generalize (zs.getD k (0, 0, 0)).1 = x at *
      generalize (zs.getD k (0, 0, 0)).2.1 = y at *
      generalize (zs.getD k (0, 0, 0)).2.2 = z at *
      go_wp2_with fail
      go_region_with (go_at_call 77; refine (eqFlat_same _ _ _ _).mono ?_; rintro e w2 ⟨rfl, hb3⟩; have Hb3 := Lib.hid (hb.out.trans ((below_from (n := 1) hb3 (Nat.le_refl _)).mono hb.out.size)); clear hb3)
      all_goals go_wp2
      all_goals go_roundw
      all_goals first | exact ⟨k + 1, by omega, by go_num, Hb3⟩ | (simp [intOf]; omega)
    · obtain rfl : k = n := by omega
      go_wp2
      go_ret
      exact ⟨rfl, hb.out⟩
/-- What mark leaves: the numbers from m on, one a field. -/
def marks3 (m : Int) : Nat → List (Int × Int × Int)
  | 0 => []
  | k + 1 => marks3 m k ++ [(m + 3 * k, m + 3 * k + 1, m + 3 * k + 1 + 1)]
theorem marks3_len (m : Int) (k : Nat) : (marks3 m k).length = k := by
  induction k with
  | zero => rfl
  | succ k ih => simp [marks3, ih]
theorem marks3_at (m : Int) : ∀ (n k : Nat), k < n → (marks3 m n)[k]? = some (m + 3 * k, m + 3 * k + 1, m + 3 * k + 1 + 1)
  | n + 1, k, h => by
    by_cases e : k < n
    · rw [marks3, List.getElem?_append_left (by rw [marks3_len]; exact e)]
      exact marks3_at m n k e
    · obtain rfl : k = n := by omega
      rw [marks3, List.getElem?_append_right (by rw [marks3_len]; exact Nat.le_refl _), marks3_len]
      simp
theorem marks3_take (m : Int) (n k : Nat) (h : k ≤ n) : (marks3 m n).take k = marks3 m k := by
  apply List.ext_getElem?
  intro i
  by_cases hi : i < k
  · rw [List.getElem?_take, if_pos hi, marks3_at m n i (by omega), marks3_at m k i hi]
  · rw [List.getElem?_take, if_neg hi, List.getElem?_eq_none (by rw [marks3_len]; omega)]
theorem markFlatS_any (B g n cap : Nat) (xs : List Value) (m : Int) (hm : 0 ≤ m ∧ m ≤ 1000000000) (hn : n ≤ 1048576) (w : World) (ho : w.ownsRow B 116 3 (.slice (some ⟨g, 0, none⟩) n cap) n xs) :
    Calls Tryd.prog 39 #[.slice (some ⟨g, 0, none⟩) n cap, .int .i64 m] w fun e w' => e = .returned (.int .i64 (m + 3 * n)) ∧ w'.ownsRow B 116 3 (.slice (some ⟨g, 0, none⟩) n cap) n (flat f3C (marks3 m n)) ∧ w.grownBy w' (some g) := by
  have Ho := Lib.hid (Filled.zero (enc := f3C) (zs := marks3 m n) ho)
  clear ho
  go_enter Tryd.func39, Tryd.ntmps39
  go_wp2
  go_loopw [1, 5] (fun q i wr => ∃ k : Nat, k ≤ n ∧ i = .int .i64 k ∧ q = .int .i64 (m + 3 * k) ∧ Hid (Filled f3C 3 wr B 116 g n cap (marks3 m n) k) ∧ Hid (w.grownBy wr (some g))) (fun _ i _ => n - (intOf i).toNat)
  case atStart => exact ⟨0, Nat.zero_le _, rfl, by go_num, Ho, Lib.hid (World.grownBy.refl _ _)⟩
  case round =>
    obtain ⟨k, hk, rfl, rfl, ho, hg⟩ := hrel
    by_cases hlt : k < n
    · obtain ⟨v0, e0⟩ := ho.out.there hlt 0 (by omega)
      obtain ⟨v1, e1⟩ := ho.out.there hlt 1 (by omega)
      obtain ⟨v2, e2⟩ := ho.out.there hlt 2 (by omega)
      have f0 := ho.out.free (k * 3)
      have f1 := ho.out.free (k * 3 + 1)
      have f2 := ho.out.free (k * 3 + 2)
      obtain ⟨hs, hg2⟩ := ho.out.store f3C_len (marks3_len m n) (marks3_at m n k hlt)
      have Hs : Hid (Filled f3C 3 (((wr.setCell ⟨g, k * 3, none⟩ (.int .i64 (m + 3 * k))).setCell ⟨g, k * 3 + 1, none⟩ (.int .i64 (m + 3 * k + 1))).setCell ⟨g, k * 3 + 2, none⟩ (.int .i64 (m + 3 * k + 1 + 1))) B 116 g n cap (marks3 m n) (k + 1)) := Lib.hid hs
      have Hg : Hid (w.grownBy (((wr.setCell ⟨g, k * 3, none⟩ (.int .i64 (m + 3 * k))).setCell ⟨g, k * 3 + 1, none⟩ (.int .i64 (m + 3 * k + 1))).setCell ⟨g, k * 3 + 2, none⟩ (.int .i64 (m + 3 * k + 1 + 1))) (some g)) := Lib.hid (row_tr hg.out hg2)
      clear hs hg2
      rw [Nat.add_zero] at e0
      go_wp2
      go_roundw
      case rel => exact ⟨k + 1, by omega, by go_num, by go_num, Hs, Hg⟩
      case measure => simp [intOf]; omega
    · obtain rfl : k = n := by omega
      go_wp2
      go_ret
      exact ⟨rfl, ho.out.full (marks3_len m k), hg.out⟩
theorem heldFlatS_any (n cap : Nat) (a : Option Addr) (m : Int) (hm : 0 ≤ m ∧ m ≤ 1000000000) (hn : n ≤ 1048576) (w : World) (hz : Lies w a (flat f3C (marks3 m n))) :
    Calls Tryd.prog 40 #[.slice a n cap, .int .i64 m] w fun e w' => e = .returned (.int .i64 (m + 3 * n)) ∧ w = w' := by
  have Hz := Lib.hid hz
  clear hz
  go_enter Tryd.func40, Tryd.ntmps40
  go_wp2
  go_loop [1, 5] (fun q i => ∃ k : Nat, k ≤ n ∧ i = .int .i64 k ∧ q = .int .i64 (m + 3 * k)) (fun _ i => n - (intOf i).toNat)
  case atStart => exact ⟨0, Nat.zero_le _, rfl, by go_num⟩
  case round =>
    obtain ⟨k, hk, rfl, rfl⟩ := hrel
    by_cases hlt : k < n
    · obtain ⟨b, o, rfl, hbl, hcs⟩ := Hz.out.open (by rw [flat_len f3C_len, marks3_len]; omega)
      obtain ⟨c0, c1, c2⟩ := f3_at hcs (i := k) (by rw [marks3_len]; exact hlt)
      have hx : (marks3 m n).getD k (0, 0, 0) = (m + 3 * k, m + 3 * k + 1, m + 3 * k + 1 + 1) := by rw [List.getD, marks3_at m n k hlt]; rfl
      rw [hx] at c0 c1 c2
      clear hcs hx
      go_wp2
      go_round
      case rel => exact ⟨k + 1, by omega, by go_num, by go_num⟩
      case measure => simp [intOf]; omega
    · obtain rfl : k = n := by omega
      go_wp2
      go_ret
      exact ⟨rfl, rfl⟩
end Go.Proofs.YtnehaidkhpjpbaaDoor
