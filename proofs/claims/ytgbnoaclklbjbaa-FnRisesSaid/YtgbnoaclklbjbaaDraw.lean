/- What is drawn from a source lies in its range: next, value, some. -/
import Derived.Test.YtgbnoaclklbjbaaSrc
import Derived.Test.YtgbnoaclklbjbaaDig
import Derived.Deep.DeepMust
namespace Go.Proofs.Ytgbnoaclklbjbaa
open Go.ChangeShapes Go.WideShapes Go.ChangeAt Go.RowKit
theorem Src.more {w : World} {B p N M : Nat} (h : Src w B p N) (k : N ≤ M) : Src w B p M := by
  obtain ⟨h1, h2, a, n, c, j, sd, hb, hj, r⟩ := h
  exact ⟨h1, h2, a, n, c, j, sd, hb, by omega, r⟩
/-- next is one of 0 to n - 1. -/
theorem next_any (B p N : Nat) (n : Int) (w : World) (hS : Src w B p N) (hN : N ≤ 2305843009213693952) (h1 : 2 ≤ n) (h2 : n ≤ 1000000000) :
    Calls Try.prog 69 #[.pointer (some ⟨p, 0, none⟩), .int .i64 n] w (SrcPost B p (N + 3) w 0 (n - 1)) := by
  have HS := Lib.hid hS
  have G0 := Lib.hid (World.grownBy.refl w (some p))
  clear hS
  by_cases h3 : n ≤ 256
  · go_enter Try.func69, Try.ntmps69
    go_wp2_with fail
    refine (byte_any B p N _ HS.out (by omega)).mono ?_
    rintro e w1 ⟨v1, rfl, lo1, hi1, hS1, hg1⟩
    have H1 := Lib.hid hS1
    have G1 := Lib.hid (grown_tr G0.out hg1)
    clear hS1 hg1
    go_wp2
    go_ret
    exact ⟨v1 % n, rfl, Int.emod_nonneg _ (by omega), by have := Int.emod_lt_of_pos v1 (b := n) (by omega); omega, H1.out.more (by omega), G1.out⟩
  · go_enter Try.func69, Try.ntmps69
    go_wp2_with fail
    refine (byte_any B p N _ HS.out (by omega)).mono ?_
    rintro e w1 ⟨v1, rfl, lo1, hi1, hS1, hg1⟩
    have H1 := Lib.hid hS1
    have G1 := Lib.hid (grown_tr G0.out hg1)
    clear hS1 hg1
    go_wp2_with fail
    refine (byte_any B p (N + 1) _ H1.out (by omega)).mono ?_
    rintro e w2 ⟨v2, rfl, lo2, hi2, hS2, hg2⟩
    have H2 := Lib.hid hS2
    have G2 := Lib.hid (grown_tr G1.out hg2)
    clear hS2 hg2
    go_wp2_with fail
    refine (byte_any B p (N + 1 + 1) _ H2.out (by omega)).mono ?_
    rintro e w3 ⟨v3, rfl, lo3, hi3, hS3, hg3⟩
    have H3 := Lib.hid hS3
    have G3 := Lib.hid (grown_tr G2.out hg3)
    clear hS3 hg3
    go_wp2
    go_ret
    exact ⟨(v1 * 65536 + v2 * 256 + v3) % n, rfl, Int.emod_nonneg _ (by omega), by have := Int.emod_lt_of_pos (v1 * 65536 + v2 * 256 + v3) (b := n) (by omega); omega, H3.out.more (by omega), G3.out⟩
end Go.Proofs.Ytgbnoaclklbjbaa
