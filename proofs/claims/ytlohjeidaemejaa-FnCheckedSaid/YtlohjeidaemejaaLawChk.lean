/- The law FnChecked. -/
import Derived.Test.YtlohjeidaemejaaDraw
import Derived.Test.YtlohjeidaemejaaChk
namespace Go.Proofs.Ytlohjeidaemejaa
open Go.ChangeShapes Go.WideShapes Go.ChangeAt Go.RowKit
/-- What is known of a slice of integers that came in: nil, or a row of cells. -/
def RowIn (k : IntKind) (w : World) (a : Option Addr) (len cap : Nat) (zs : List Int) : Prop :=
  (a = none ∧ len = 0 ∧ cap = 0 ∧ zs = []) ∨
  ∃ x, a = some x ∧ len ≤ cap ∧ cap ≤ maxLen ∧ zs.length = cap ∧ (∀ i, i < zs.length → w.cell? (x.add i) = some (.int k (zs.getD i 0))) ∧ ∀ n ∈ zs, (Lit.int k n).wf = true
theorem cell_lt {w : World} {x : Addr} {v : Value} (h : w.cell? x = some v) : x.block < w.heap.size := by
  rcases Nat.lt_or_ge x.block w.heap.size with hlt | hge
  · exact hlt
  · unfold World.cell? at h
    rw [Array.getElem?_eq_none hge] at h
    cases h
theorem bytes_of_row {w : World} {a : Option Addr} {n c : Nat} {zs : List Int} (h : RowIn .u8 w a n c zs) : Bytes0 w w.heap.size a n := by
  rcases h with ⟨rfl, rfl, rfl, rfl⟩ | ⟨x, rfl, hl, hm, hz, hc, hw⟩
  · exact ⟨Nat.zero_le _, fun h => absurd h (by omega)⟩
  · refine ⟨by omega, fun hn => ⟨x, rfl, ?_, fun i hi => ?_⟩⟩
    · have := cell_lt (hc 0 (by omega))
      rwa [add_block] at this
    · have hi' : i < zs.length := by omega
      refine ⟨zs.getD i 0, ?_, ?_, hc i hi'⟩
      all_goals
        have hm := hw (zs.getD i 0) (by rw [List.getD_eq_getElem?_getD, List.getElem?_eq_getElem hi']; exact List.getElem_mem hi')
        have := bounds_u8 hm
        omega
theorem mul_tdiv_le (a b : Int) : (a.tdiv b * b).natAbs ≤ a.natAbs := by
  rw [Int.natAbs_mul, Int.natAbs_tdiv]
  exact Nat.div_mul_le_self _ _
theorem cells_raw (w : World) (a b q : Int) (hq : q = rawN 3 a b) : ∀ k, k < 4 → World.cell? (w.alloc (.cells #[.int .i64 (a + b), .int .i64 (a - b), .int .i64 (a * b), .int .i64 q] 3)) ⟨w.heap.size, k, none⟩ = some (.int .i64 (rawN k a b)) := by
  intro k hk
  rw [cell_of_row _ _ k _ _ _ (heap_alloc_new w _)]
  match k, hk with
  | 0, _ => rw [show ((0 : Nat) : Int) = 0 from rfl, rawN_0]; rfl
  | 1, _ => rw [show ((1 : Nat) : Int) = 1 from rfl, rawN_1]; rfl
  | 2, _ => rw [show ((2 : Nat) : Int) = 2 from rfl, rawN_2]; rfl
  | 3, _ => rw [hq]; rfl
theorem rawOK_nat (k : Nat) (b : Int) (h : k < 4) : rawOK (k : Int) b = decide (k < 3 ∨ b ≠ 0) := by
  unfold rawOK
  rw [Bool.eq_iff_iff, decide_eq_true_iff, decide_eq_true_iff]
  omega
theorem Bytes0.below {w w' : World} {a : Option Addr} {n B : Nat} (h : Bytes0 w B a n) (g : Below B w w') : Bytes0 w' w'.heap.size a n :=
  ⟨h.1, fun hn => by
    obtain ⟨x, e, hx, hc⟩ := h.2 hn
    refine ⟨x, e, ?_, fun i hi => ?_⟩
    · obtain ⟨z, _, _, hz⟩ := hc 0 hn
      have h2 := cell_lt ((g.cell (p := x.add 0) (by rw [add_block]; exact hx)).trans hz)
      rwa [add_block] at h2
    · obtain ⟨z, z0, z1, hz⟩ := hc i hi
      exact ⟨z, z0, z1, (g.cell (p := x.add i) (by rw [add_block]; exact hx)).trans hz⟩⟩
theorem tmod_eq (a b : Int) : a - a.tdiv b * b = a.tmod b := by
  have := Int.tmod_add_mul_tdiv a b
  rw [Int.mul_comm]
  omega
theorem tmod_sign (a b : Int) : a.tmod b = 0 ∨ (a.tmod b < 0 ∧ a < 0) ∨ (0 < a.tmod b ∧ 0 ≤ a) := by
  rcases Int.le_total 0 a with h | h
  · have := Int.tmod_nonneg b h
    omega
  · have h2 := Int.tmod_nonneg b (a := -a) (by omega)
    rw [Int.neg_tmod] at h2
    by_cases ha : a = 0
    · subst ha; simp
    · omega
set_option maxRecDepth 100000 in
set_option maxHeartbeats 1600000 in
theorem FnChecked_walk (a0 : Option Addr) (len0 cap0 : Nat) (z0 : List Int) (a1 : Option Addr) (len1 cap1 : Nat) (z1 : List Int) (w : World) (w0 : RowIn .u8 w a0 len0 cap0 z0) (w1 : RowIn .u8 w a1 len1 cap1 z1) :
    Calls Try.prog 3 #[.slice a0 len0 cap0, .slice a1 len1 cap1] w fun e w' => e = .returned (.bool true) ∧ Below w.heap.size w w' := by
  have b0 := bytes_of_row w0
  have b1 := bytes_of_row w1
  have n0 : (len0 : Int) ≤ 9223372036854775807 := by have := b0.1; unfold maxLen at this; omega
  have n1 : (len1 : Int) ≤ 9223372036854775807 := by have := b1.1; unfold maxLen at this; omega
  have B0 := Lib.hid b0
  have B1 := Lib.hid b1
  clear w0 w1 b0 b1
  by_cases hl0 : (1048576 : Int) < (len0 : Int)
  · go_enter Try.func3, Try.ntmps3
    go_wp2
    go_ret
    exact ⟨rfl, Below.refl _ _⟩
  by_cases hl1 : (1048576 : Int) < (len1 : Int)
  · go_enter Try.func3, Try.ntmps3
    go_wp2
    go_ret
    exact ⟨rfl, Below.refl _ _⟩
  go_enter Try.func3, Try.ntmps3
  go_wp2_with fail
  refine (valueDrawn_any _ _ _ _ B0.out).mono ?_
  rintro e w1 ⟨a, rfl, la, ha, hb1⟩
  have Bw1 := Lib.hid hb1
  clear hb1
  go_wp2_with fail
  refine (valueDrawn_any _ _ _ _ (show Bytes0 w1 w1.heap.size a1 len1 from ?_)).mono ?_
  · exact B1.out.below Bw1.out
  rintro e w2 ⟨b, rfl, lb, hb, hb2⟩
  have Bw2 := Lib.hid (Bw1.out.trans (hb2.mono Bw1.out.size))
  clear hb2
  have Ha := Lib.hid (inI32_of la ha)
  have Hb := Lib.hid (inI32_of lb hb)
  have hm := mul_i32 Ha.out Hb.out
  have hd := tdiv_i32 (b := b) Ha.out
  by_cases hz : b = 0
  · have hz1 : (b != 0) = false := by rw [hz]; rfl
    have hz2 : (b == 0) = true := by rw [hz]; rfl
    have Hz := Lib.hid hz
    clear hz
    go_wp2
    have Hcell : Hid (∀ k, k < 4 → World.cell? (w2.alloc (.cells #[.int .i64 (a + b), .int .i64 (a - b), .int .i64 (a * b), .int .i64 0] 3)) ⟨w2.heap.size, k, none⟩ = some (.int .i64 (rawN k a b))) := Lib.hid (cells_raw w2 a b _ (by rw [rawN_z (by omega) (by omega) (by omega) Hz.out]))
    have Bw3 := Lib.hid (Bw2.out.alloc Bw2.out.size (.cells #[.int .i64 (a + b), .int .i64 (a - b), .int .i64 (a * b), .int .i64 0] 3))
    generalize w2.alloc (.cells #[.int .i64 (a + b), .int .i64 (a - b), .int .i64 (a * b), .int .i64 0] 3) = W3 at *
    generalize w2.heap.size = g at *
    go_loop [8] (fun i => ∃ k : Nat, k ≤ 4 ∧ i = .int .i64 k) (fun i => 4 - (intOf i).toNat)
    case atStart => exact ⟨0, by omega, rfl⟩
    case round =>
      obtain ⟨k, hk, rfl⟩ := hrel
      have hc4 := chk_rng (op := 4) (a := a) (b := b) (Or.inr (Or.inl (by omega)))
      by_cases hk4 : k < 4
      · have hc := Hcell.out k hk4
        have hok : rawOK (k : Int) b = decide (k < 3 ∨ b ≠ 0) := rawOK_nat k b hk4
        by_cases hk3 : k < 3
        · have hok1 : rawOK (k : Int) b = true := rawOK_0 (by omega)
          clear hok
          cases hin : inI32 (rawN (k : Int) a b)
          · have hch := chk_bad (by omega) (by omega) Ha.out Hb.out (Or.inr hin) (op := (k : Int))
            rcases inI32_out hin with ho | ho
            all_goals
              clear hin
              go_wp2_with (go_at_call 10; refine (checked_any _ _ _ _).mono ?_; rintro e w' ⟨rfl, rfl⟩)
              all_goals
                go_round
                case rel => exact ⟨k + 1, by omega, by go_num⟩
                case measure => simp [intOf]; omega
          · have hch := chk_ok (by omega) (by omega) Ha.out Hb.out hok1 hin (op := (k : Int))
            have ho := inI32_bd hin
            clear hin
            go_wp2_with (go_at_call 10; refine (checked_any _ _ _ _).mono ?_; rintro e w' ⟨rfl, rfl⟩)
            all_goals
              go_round
              case rel => exact ⟨k + 1, by omega, by go_num⟩
              case measure => simp [intOf]; omega
        · have hok1 : rawOK (k : Int) b = false := rawOK_z (by omega) (by omega) (by omega) Hz.out
          have hch := chk_bad (by omega) (by omega) Ha.out Hb.out (Or.inl hok1) (op := (k : Int))
          have hrz : rawN (k : Int) a b = 0 := rawN_z (by omega) (by omega) (by omega) Hz.out
          clear hok hok1
          go_wp2_with (go_at_call 10; refine (checked_any _ _ _ _).mono ?_; rintro e w' ⟨rfl, rfl⟩)
          all_goals
            go_round
            case rel => exact ⟨k + 1, by omega, by go_num⟩
            case measure => simp [intOf]; omega
      · obtain rfl : k = 4 := by omega
        have hok3 : rawOK 3 b = false := rawOK_z (by omega) (by omega) (by omega) Hz.out
        have hch := chk_bad (by omega) (by omega) Ha.out Hb.out (Or.inl hok3) (op := 3)
        clear hok3
        go_wp2_with (go_at_call 10; refine (checked_any _ _ _ _).mono ?_; rintro e w' ⟨rfl, rfl⟩)
        all_goals
          go_ret
          exact ⟨rfl, Bw3.out⟩
  · have hz1 : (b != 0) = true := by rw [bne_iff_ne]; exact hz
    have hz2 : (b == 0) = false := beq_eq_false_iff_ne.2 hz
    go_wp2
    have Hcell : Hid (∀ k, k < 4 → World.cell? (w2.alloc (.cells #[.int .i64 (a + b), .int .i64 (a - b), .int .i64 (a * b), .int .i64 (a.tdiv b)] 3)) ⟨w2.heap.size, k, none⟩ = some (.int .i64 (rawN k a b))) := Lib.hid (cells_raw w2 a b _ (by rw [rawN_3 (by omega) (by omega) (by omega) hz]))
    have Bw3 := Lib.hid (Bw2.out.alloc Bw2.out.size (.cells #[.int .i64 (a + b), .int .i64 (a - b), .int .i64 (a * b), .int .i64 (a.tdiv b)] 3))
    generalize w2.alloc (.cells #[.int .i64 (a + b), .int .i64 (a - b), .int .i64 (a * b), .int .i64 (a.tdiv b)] 3) = W3 at *
    generalize w2.heap.size = g at *
    go_loop [8] (fun i => ∃ k : Nat, k ≤ 4 ∧ i = .int .i64 k) (fun i => 4 - (intOf i).toNat)
    case atStart => exact ⟨0, by omega, rfl⟩
    case round =>
      obtain ⟨k, hk, rfl⟩ := hrel
      have hc4 := chk_rng (op := 4) (a := a) (b := b) (Or.inr (Or.inl (by omega)))
      by_cases hk4 : k < 4
      · have hc := Hcell.out k hk4
        have hok : rawOK (k : Int) b = decide (k < 3 ∨ b ≠ 0) := rawOK_nat k b hk4
        have hok1 : rawOK (k : Int) b = true := rawOK_3 hz
        clear hok
        cases hin : inI32 (rawN (k : Int) a b)
        · have hch := chk_bad (by omega) (by omega) Ha.out Hb.out (Or.inr hin) (op := (k : Int))
          rcases inI32_out hin with ho | ho
          all_goals
            clear hin
            go_wp2_with (go_at_call 10; refine (checked_any _ _ _ _).mono ?_; rintro e w' ⟨rfl, rfl⟩)
            all_goals
              go_round
              case rel => exact ⟨k + 1, by omega, by go_num⟩
              case measure => simp [intOf]; omega
        · have hch := chk_ok (by omega) (by omega) Ha.out Hb.out hok1 hin (op := (k : Int))
          have ho := inI32_bd hin
          clear hin
          go_wp2_with (go_at_call 10; refine (checked_any _ _ _ _).mono ?_; rintro e w' ⟨rfl, rfl⟩)
          all_goals
            go_round
            case rel => exact ⟨k + 1, by omega, by go_num⟩
            case measure => simp [intOf]; omega

      · obtain rfl : k = 4 := by omega
        have hr3 := rawN_3 (a := a) (b := b) (op := 3) (by omega) (by omega) (by omega) hz
        have hok3 : rawOK 3 b = true := rawOK_3 hz
        have hmd := mul_tdiv_le a b
        cases hin : inI32 (a.tdiv b)
        · have hch := chk_bad (by omega) (by omega) Ha.out Hb.out (Or.inr (by rw [hr3]; exact hin)) (op := 3)
          clear hr3 hok3 hin hmd
          go_wp2_with (go_at_call 10; refine (checked_any _ _ _ _).mono ?_; rintro e w' ⟨rfl, rfl⟩)
          all_goals
            go_ret
            exact ⟨rfl, Bw3.out⟩
        · have hch := chk_ok (by omega) (by omega) Ha.out Hb.out hok3 (by rw [hr3]; exact hin) (op := 3)
          rw [hr3] at hch
          have hmt := tmod_eq a b
          obtain ⟨r, hr⟩ : ∃ r, r = a.tmod b := ⟨_, rfl⟩
          have hsg : r = 0 ∨ (r < 0 ∧ a < 0) ∨ (0 < r ∧ 0 ≤ a) := by rw [hr]; exact tmod_sign a b
          have hmt2 : a - a.tdiv b * b = r := by rw [hr]; exact hmt
          have hb1 : -9223372036854775808 ≤ a.tdiv b * b ∧ a.tdiv b * b ≤ 9223372036854775807 := by omega
          have hb2 : -9223372036854775808 ≤ r ∧ r ≤ 9223372036854775807 := by omega
          clear hr3 hok3 hin hmd hr hmt
          rcases hsg with hs | ⟨hs1, hs2⟩ | ⟨hs1, hs2⟩
          · have hs1 : (r == 0) = true := beq_iff_eq.2 hs
            clear hs
            go_wp2_with (go_at_call 10; refine (checked_any _ _ _ _).mono ?_; rintro e w' ⟨rfl, rfl⟩)
            go_ret
            exact ⟨rfl, Bw3.out⟩
          · have hs3 : (r == 0) = false := beq_eq_false_iff_ne.2 (by omega)
            go_wp2_with (go_at_call 10; refine (checked_any _ _ _ _).mono ?_; rintro e w' ⟨rfl, rfl⟩)
            go_ret
            exact ⟨rfl, Bw3.out⟩
          · have hs3 : (r == 0) = false := beq_eq_false_iff_ne.2 (by omega)
            go_wp2_with (go_at_call 10; refine (checked_any _ _ _ _).mono ?_; rintro e w' ⟨rfl, rfl⟩)
            go_ret
            have q1 : decide (r < 0) = false := decide_eq_false (by omega)
            have q2 : decide (a < 0) = false := decide_eq_false (by omega)
            refine ⟨?_, Bw3.out⟩
            show Ending.returned (.bool (decide (r < 0) == decide (a < 0))) = _
            rw [q1, q2]
            rfl
end Go.Proofs.Ytlohjeidaemejaa
