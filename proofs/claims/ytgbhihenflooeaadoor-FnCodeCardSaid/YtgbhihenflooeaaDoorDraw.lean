/- What is drawn from a source lies in its range: next, value, some. -/
import Derived.Test.YtgbhihenflooeaaDoorSrc
import Derived.Test.YtgbhihenflooeaaDoorOwn
import Derived.Deep.DeepMust
namespace Go.Proofs.YtgbhihenflooeaaDoor
open Go.ChangeShapes Go.WideShapes Go.ChangeAt Go.RowKit
theorem Src.more {w : World} {B p N M : Nat} (h : Src w B p N) (k : N ≤ M) : Src w B p M := by
  obtain ⟨h1, h2, a, n, c, j, sd, hb, hj, r⟩ := h
  exact ⟨h1, h2, a, n, c, j, sd, hb, by omega, r⟩
/-- next is one of 0 to n - 1. -/
theorem next_any (B p N : Nat) (n : Int) (w : World) (hS : Src w B p N) (hN : N ≤ 2305843009213693952) (h1 : 2 ≤ n) (h2 : n ≤ 1000000000) :
    Calls Tryd.prog 81 #[.pointer (some ⟨p, 0, none⟩), .int .i64 n] w (SrcPost B p (N + 3) w 0 (n - 1)) := by
  have HS := Lib.hid hS
  have G0 := Lib.hid (World.grownBy.refl w (some p))
  clear hS
  by_cases h3 : n ≤ 256
  · go_enter Tryd.func81, Tryd.ntmps81
    go_wp2_with fail
    refine (byte_any B p N _ HS.out (by omega)).mono ?_
    rintro e w1 ⟨v1, rfl, lo1, hi1, hS1, hg1⟩
    have H1 := Lib.hid hS1
    have G1 := Lib.hid (grown_tr G0.out hg1)
    clear hS1 hg1
    go_wp2
    go_ret
    exact ⟨v1 % n, rfl, Int.emod_nonneg _ (by omega), by have := Int.emod_lt_of_pos v1 (b := n) (by omega); omega, H1.out.more (by omega), G1.out⟩
  · go_enter Tryd.func81, Tryd.ntmps81
    go_wp2_with fail
    refine (byte_any B p N _ HS.out (by omega)).mono ?_
    rintro e w1 ⟨v1, rfl, lo1, hi1, hS1, hg1⟩
    have H1 := Lib.hid hS1
    have G1 := Lib.hid (grown_tr G0.out hg1)
    clear hS1 hg1
    go_wp2_with fail
    refine (byte_any B p (N + 1) _ H1.out (by omega)).mono ?_
    rintro e w2 ⟨v2, rfl, lo2, hi2, hS2, hg2⟩
    have H2 := Lib.hid hS2
    have G2 := Lib.hid (grown_tr G1.out hg2)
    clear hS2 hg2
    go_wp2_with fail
    refine (byte_any B p (N + 1 + 1) _ H2.out (by omega)).mono ?_
    rintro e w3 ⟨v3, rfl, lo3, hi3, hS3, hg3⟩
    have H3 := Lib.hid hS3
    have G3 := Lib.hid (grown_tr G2.out hg3)
    clear hS3 hg3
    go_wp2
    go_ret
    exact ⟨(v1 * 65536 + v2 * 256 + v3) % n, rfl, Int.emod_nonneg _ (by omega), by have := Int.emod_lt_of_pos (v1 * 65536 + v2 * 256 + v3) (b := n) (by omega); omega, H3.out.more (by omega), G3.out⟩
/-- value is a number of four bytes. -/
theorem value_any (B p N : Nat) (w : World) (hS : Src w B p N) (hN : N ≤ 1152921504606846976) :
    Calls Tryd.prog 44 #[.pointer (some ⟨p, 0, none⟩)] w (SrcPost B p (N + 7) w (-2147483648) 2147483647) := by
  have HS := Lib.hid hS
  have G0 := Lib.hid (World.grownBy.refl w (some p))
  clear hS
  go_enter Tryd.func44, Tryd.ntmps44
  go_wp2_with fail
  refine (next_any B p N _ _ HS.out (by omega) (by omega) (by omega)).mono ?_
  rintro e w1 ⟨v1, rfl, lo1, hi1, hS1, hg1⟩
  have H1 := Lib.hid hS1
  have G1 := Lib.hid (grown_tr G0.out hg1)
  clear hS1 hg1
  go_wp2_with fail
  · refine (next_any B p (N + 3) _ _ H1.out (by omega) (by omega) (by omega)).mono ?_
    rintro e w2 ⟨v2, rfl, lo2, hi2, hS2, hg2⟩
    have H2 := Lib.hid hS2
    have G2 := Lib.hid (grown_tr G1.out hg2)
    clear hS2 hg2
    go_wp2
    go_ret
    exact ⟨_, rfl, by omega, by omega, H2.out.more (by omega), G2.out⟩
  · refine (next_any B p (N + 3) _ _ H1.out (by omega) (by omega) (by omega)).mono ?_
    rintro e w2 ⟨v2, rfl, lo2, hi2, hS2, hg2⟩
    have H2 := Lib.hid hS2
    have G2 := Lib.hid (grown_tr G1.out hg2)
    clear hS2 hg2
    go_wp2
    go_ret
    exact ⟨_, rfl, by omega, by omega, H2.out.more (by omega), G2.out⟩
  · refine (byte_any B p (N + 3) _ H1.out (by omega)).mono ?_
    rintro e w2 ⟨v2, rfl, lo2, hi2, hS2, hg2⟩
    have H2 := Lib.hid hS2
    have G2 := Lib.hid (grown_tr G1.out hg2)
    clear hS2 hg2
    go_wp2_with fail
    refine (byte_any B p (N + 3 + 1) _ H2.out (by omega)).mono ?_
    rintro e w3 ⟨v3, rfl, lo3, hi3, hS3, hg3⟩
    have H3 := Lib.hid hS3
    have G3 := Lib.hid (grown_tr G2.out hg3)
    clear hS3 hg3
    go_wp2_with fail
    refine (byte_any B p (N + 3 + 1 + 1) _ H3.out (by omega)).mono ?_
    rintro e w4 ⟨v4, rfl, lo4, hi4, hS4, hg4⟩
    have H4 := Lib.hid hS4
    have G4 := Lib.hid (grown_tr G3.out hg4)
    clear hS4 hg4
    go_wp2_with fail
    refine (byte_any B p (N + 3 + 1 + 1 + 1) _ H4.out (by omega)).mono ?_
    rintro e w5 ⟨v5, rfl, lo5, hi5, hS5, hg5⟩
    have H5 := Lib.hid hS5
    have G5 := Lib.hid (grown_tr G4.out hg5)
    clear hS5 hg5
    go_wp2
    go_ret
    exact ⟨_, rfl, by omega, by omega, H5.out.more (by omega), G5.out⟩
  · refine (next_any B p (N + 3) _ _ H1.out (by omega) (by omega) (by omega)).mono ?_
    rintro e w2 ⟨v2, rfl, lo2, hi2, hS2, hg2⟩
    have H2 := Lib.hid hS2
    have G2 := Lib.hid (grown_tr G1.out hg2)
    clear hS2 hg2
    go_wp2
    go_ret
    exact ⟨_, rfl, by omega, by omega, H2.out.more (by omega), G2.out⟩
  · refine (next_any B p (N + 3) _ _ H1.out (by omega) (by omega) (by omega)).mono ?_
    rintro e w2 ⟨v2, rfl, lo2, hi2, hS2, hg2⟩
    have H2 := Lib.hid hS2
    have G2 := Lib.hid (grown_tr G1.out hg2)
    clear hS2 hg2
    go_wp2
    go_ret
    exact ⟨_, rfl, by omega, by omega, H2.out.more (by omega), G2.out⟩
/-- What ValueDrawn answers, out of whatever bytes: a number of four bytes. -/
theorem valueDrawn_any (a : Option Addr) (n c : Nat) (w : World) (h : Bytes0 w w.heap.size a n) :
    Calls Tryd.prog 15 #[.slice a n c] w fun e w' => ∃ v : Int, e = .returned (.int .i64 v) ∧ -2147483648 ≤ v ∧ v ≤ 2147483647 ∧ Below w.heap.size w w' := by
  go_enter Tryd.func15, Tryd.ntmps15
  go_wp2_with fail
  refine (source_any a n c w h).mono ?_
  rintro e w1 ⟨rfl, hS, hb⟩
  have H1 := Lib.hid hS
  have B1 := Lib.hid hb
  clear hS hb
  go_wp2_with fail
  refine (value_any w.heap.size w.heap.size 0 _ H1.out (by omega)).mono ?_
  rintro e w2 ⟨v, rfl, lo, hi, hS2, hg2⟩
  have B2 := Lib.hid (B1.out.grown hg2 B1.out.size (by intro k hk; cases hk; exact Nat.le_refl _))
  clear hS2 hg2
  go_wp2
  go_ret
  exact ⟨v, rfl, lo, hi, B2.out⟩
end Go.Proofs.YtgbhihenflooeaaDoor
