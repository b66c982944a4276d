/- A walk of impl's verifier: else and end; the end of the code. -/
import Derived.Test.YtbbhoaljldgjeaaDoorWalk3
namespace Go.Proofs.YtbbhoaljldgjeaaDoor
open Go.ChangeShapes Go.WideShapes Go.ChangeAt Go.RowKit
set_option linter.unusedVariables false
theorem nest_none (p c' : Nat) (a' : Option Addr) (o i : Int) (ho : o = 22 ∨ o = 23) (w : World) (h2 : w.cell? ⟨p, 2, none⟩ = some (.int .i64 i)) (h4 : w.cell? ⟨p, 4, none⟩ = some (.slice a' 0 c')) :
    Calls Tryd.prog 95 #[.pointer (some ⟨p, 0, none⟩), .int .i64 o] w fun e w' => e = Off i 14 ∧ w = w' := by
  rcases ho with rfl | rfl
  all_goals
    go_enter Tryd.func95, Tryd.ntmps95
    go_wp2_with fail
    refine Calls.mono (innermost_no p c' a' i _ h4 h2) ?_
    rintro e w' ⟨rfl, rfl⟩
    exact ⟨rfl, rfl, rfl⟩
theorem else_not (p g m c : Nat) (i : Int) (hm : m + 1 ≤ 100) (w : World) (h2 : ∀ q, (w.drewN q).cell? ⟨p, 2, none⟩ = some (.int .i64 i)) (h4 : w.cell? ⟨p, 4, none⟩ = some (.slice (some ⟨g, 0, none⟩) (m + 1) c)) (hb : w.cell? ⟨g, m * 3 + 2, none⟩ = some (.bool false)) :
    Calls Tryd.prog 95 #[.pointer (some ⟨p, 0, none⟩), .int .i64 22] w fun e w' => e = Off i 14 ∧ ∃ q, w' = w.drewN q := by
  have H2 := Lib.hid h2
  clear h2
  go_enter Tryd.func95, Tryd.ntmps95
  go_wp2_with fail
  refine Calls.mono (innermost_ok p g m c hm _ h4) ?_
  rintro e w' ⟨rfl, q, rfl⟩
  go_wp2_with fail
  refine Calls.mono (require_no _ _ i _ (H2.out _)) ?_
  rintro e w' ⟨rfl, rfl⟩
  exact ⟨rfl, rfl, _, rfl⟩
theorem else_level (p g m c n cs : Nat) (a : Option Addr) (i k : Int) (hm : m + 1 ≤ 100) (hk : (n : Int) ≠ k) (w : World) (h2 : ∀ q, (w.drewN q).cell? ⟨p, 2, none⟩ = some (.int .i64 i)) (h3 : ∀ q, (w.drewN q).cell? ⟨p, 3, none⟩ = some (.slice a n cs))
    (h4 : w.cell? ⟨p, 4, none⟩ = some (.slice (some ⟨g, 0, none⟩) (m + 1) c)) (hb : w.cell? ⟨g, m * 3 + 2, none⟩ = some (.bool true)) (hh : ∀ q, (w.drewN q).cell? ⟨g, m * 3 + 1, none⟩ = some (.int .i64 k)) :
    Calls Tryd.prog 95 #[.pointer (some ⟨p, 0, none⟩), .int .i64 22] w fun e w' => e = Off i 13 ∧ ∃ q, w' = w.drewN q := by
  have HL := Lib.hid (fun q => level_no p g (m * 3) n cs a k i hk (w.drewN q) (h3 q) (hh q) (h2 q))
  clear h2 h3 hk hh
  go_enter Tryd.func95, Tryd.ntmps95
  go_wp2_with fail
  refine Calls.mono (innermost_ok p g m c hm _ h4) ?_
  rintro e w' ⟨rfl, q, rfl⟩
  go_wp2_with fail
  refine Calls.mono (require_ok _ _ _) ?_
  rintro e w' ⟨rfl, rfl⟩
  go_wp2_with fail
  refine Calls.mono (HL.out q) ?_
  rintro e w' ⟨rfl, q2, rfl⟩
  exact ⟨rfl, rfl, q + q2, by simp⟩
theorem else_ok (p g m c n cs : Nat) (a : Option Addr) (hm : m + 1 ≤ 100) (w : World) (h3 : ∀ q, (w.drewN q).cell? ⟨p, 3, none⟩ = some (.slice a n cs))
    (h4 : w.cell? ⟨p, 4, none⟩ = some (.slice (some ⟨g, 0, none⟩) (m + 1) c)) (hb : w.cell? ⟨g, m * 3 + 2, none⟩ = some (.bool true)) (fb : w.frozen? ⟨g, m * 3 + 2, none⟩ = false) (hh : ∀ q, (w.drewN q).cell? ⟨g, m * 3 + 1, none⟩ = some (.int .i64 n)) :
    Calls Tryd.prog 95 #[.pointer (some ⟨p, 0, none⟩), .int .i64 22] w fun e w' => e = .returned (.tuple #[]) ∧ ∃ q, w' = (w.drewN q).setCell ⟨g, m * 3 + 2, none⟩ (.bool false) := by
  have HL := Lib.hid (fun q => level_ok p g (m * 3) n cs a (w.drewN q) (h3 q) (hh q))
  clear h3 hh
  go_enter Tryd.func95, Tryd.ntmps95
  go_wp2_with fail
  refine Calls.mono (innermost_ok p g m c hm _ h4) ?_
  rintro e w' ⟨rfl, q, rfl⟩
  go_wp2_with fail
  refine Calls.mono (require_ok _ _ _) ?_
  rintro e w' ⟨rfl, rfl⟩
  go_wp2_with fail
  refine Calls.mono (HL.out q) ?_
  rintro e w' ⟨rfl, q2, rfl⟩
  go_wp2
  go_end0
  exact ⟨rfl, q + q2, by simp⟩
theorem end_level (p g m c n cs : Nat) (a : Option Addr) (i k : Int) (hm : m + 1 ≤ 100) (hk : (n : Int) ≠ k) (w : World) (h2 : ∀ q, (w.drewN q).cell? ⟨p, 2, none⟩ = some (.int .i64 i)) (h3 : ∀ q, (w.drewN q).cell? ⟨p, 3, none⟩ = some (.slice a n cs))
    (h4 : w.cell? ⟨p, 4, none⟩ = some (.slice (some ⟨g, 0, none⟩) (m + 1) c)) (hh : ∀ q, (w.drewN q).cell? ⟨g, m * 3 + 1, none⟩ = some (.int .i64 k)) :
    Calls Tryd.prog 95 #[.pointer (some ⟨p, 0, none⟩), .int .i64 23] w fun e w' => e = Off i 13 ∧ ∃ q, w' = w.drewN q := by
  have HL := Lib.hid (fun q => level_no p g (m * 3) n cs a k i hk (w.drewN q) (h3 q) (hh q) (h2 q))
  clear h2 h3 hk hh
  go_enter Tryd.func95, Tryd.ntmps95
  go_wp2_with fail
  refine Calls.mono (innermost_ok p g m c hm _ h4) ?_
  rintro e w' ⟨rfl, q, rfl⟩
  go_wp2_with fail
  refine Calls.mono (HL.out q) ?_
  rintro e w' ⟨rfl, q2, rfl⟩
  exact ⟨rfl, rfl, q + q2, by simp⟩
theorem end_ok (p g m c n cs : Nat) (a : Option Addr) (hm : m + 1 ≤ 100) (hmc : m + 1 ≤ c) (w : World) (h3 : ∀ q, (w.drewN q).cell? ⟨p, 3, none⟩ = some (.slice a n cs))
    (h4 : w.cell? ⟨p, 4, none⟩ = some (.slice (some ⟨g, 0, none⟩) (m + 1) c)) (f4 : w.frozen? ⟨p, 4, none⟩ = false) (hh : ∀ q, (w.drewN q).cell? ⟨g, m * 3 + 1, none⟩ = some (.int .i64 n)) :
    Calls Tryd.prog 95 #[.pointer (some ⟨p, 0, none⟩), .int .i64 23] w fun e w' => e = .returned (.tuple #[]) ∧ ∃ q, w' = (w.drewN q).setCell ⟨p, 4, none⟩ (.slice (some ⟨g, 0, none⟩) m c) := by
  have HL := Lib.hid (fun q => level_ok p g (m * 3) n cs a (w.drewN q) (h3 q) (hh q))
  clear h3 hh
  go_enter Tryd.func95, Tryd.ntmps95
  go_wp2_with fail
  refine Calls.mono (innermost_ok p g m c hm _ h4) ?_
  rintro e w' ⟨rfl, q, rfl⟩
  go_wp2_with fail
  refine Calls.mono (HL.out q) ?_
  rintro e w' ⟨rfl, q2, rfl⟩
  go_wp2
  go_region
  all_goals go_wp2
  all_goals go_end0
  all_goals exact ⟨rfl, q + q2 + 1, by simp⟩
end Go.Proofs.YtbbhoaljldgjeaaDoor
