/- A walk of impl's verifier: what an instruction opens and closes. -/
import Derived.Test.YtpdnkcfphjbbfaaGreatDoorWalk
namespace Go.Proofs.YtpdnkcfphjbbfaaGreatDoor
open Go.ChangeShapes Go.WideShapes Go.ChangeAt Go.RowKit
set_option linter.unusedVariables false
/-- What a structure's opening leaves. -/
def Opened (B p n' c' : Nat) (a' : Option Addr) (xs : List Value) (z : List Value) (w w' : World) : Prop :=
  ∃ a2 c2 w1 O, w1.ownsRow B 223 3 (.slice a2 (n' + 1) c2) (n' + 1) (xs ++ z) ∧ (w.alloc O).grownBy w1 (Value.ownBlock (.slice a' n' c')) ∧ w' = w1.setCell ⟨p, 4, none⟩ (.slice a2 (n' + 1) c2)
theorem nest_plain (p : Nat) (o : Int) (w : World) (h1 : (o == 21) = false) (h2 : (o == 24) = false) (h3 : (o == 22) = false) (h4 : (o == 23) = false) :
    Calls Tryz.prog 203 #[.pointer (some ⟨p, 0, none⟩), .int .i64 o] w fun e w' => e = .returned (.tuple #[]) ∧ w = w' := by
  go_enter Tryz.func203, Tryz.ntmps203
  go_wp2
  go_end0
  exact ⟨rfl, rfl⟩
theorem nest_deep (p c' : Nat) (a' : Option Addr) (o i : Int) (ho : o = 21 ∨ o = 24) (w : World) (h2 : w.cell? ⟨p, 2, none⟩ = some (.int .i64 i)) (h4 : w.cell? ⟨p, 4, none⟩ = some (.slice a' 4 c')) :
    Calls Tryz.prog 203 #[.pointer (some ⟨p, 0, none⟩), .int .i64 o] w fun e w' => e = Off i 17 ∧ w = w' := by
  rcases ho with rfl | rfl
  all_goals
    go_enter Tryz.func203, Tryz.ntmps203
    go_wp2_with fail
    refine Calls.mono (require_no _ _ i _ h2) ?_
    rintro e w' ⟨rfl, rfl⟩
    exact ⟨rfl, rfl, rfl⟩
theorem three_cells (w : World) (a b c : Value) (t : TypeId) : ∀ j u, [a, b, c][j]? = some u → (w.alloc (.cells #[a, b, c] t)).cell? ((⟨w.heap.size, 0, none⟩ : Addr).add j) = some u := by
  intro j u hj
  match j, hj with
  | 0, hj => simp at hj; subst hj; simp [Addr.add]
  | 1, hj => simp at hj; subst hj; simp [Addr.add]
  | 2, hj => simp at hj; subst hj; simp [Addr.add]
  | j + 3, hj => simp at hj
set_option maxHeartbeats 4000000 in
theorem nest_open (B p n c n' c' : Nat) (a a' : Option Addr) (xs : List Value) (i o : Int) (ho : o = 21 ∨ o = 24) (hn' : n' + 1 ≤ 4) (hn : n ≤ 8) (w : World) (hB : B ≤ w.heap.size) (hp : p < w.heap.size)
    (h2 : w.cell? ⟨p, 2, none⟩ = some (.int .i64 i)) (h3 : w.cell? ⟨p, 3, none⟩ = some (.slice a n c)) (h4 : w.cell? ⟨p, 4, none⟩ = some (.slice a' n' c')) (f4 : w.frozen? ⟨p, 4, none⟩ = false)
    (hown : w.ownsRow B 223 3 (.slice a' n' c') n' xs) (hne : some p ≠ Value.ownBlock (.slice a' n' c')) :
    Calls Tryz.prog 203 #[.pointer (some ⟨p, 0, none⟩), .int .i64 o] w fun e w' => e = .returned (.tuple #[]) ∧ Opened B p n' c' a' xs [.int .i64 i, .int .i64 n, .bool (o == 21)] w w' := by
  obtain ⟨i0, hi, hz0, hz1, hz2⟩ := info_parts (show (Tryz.prog.info? 223).map (fun i => (i.zero, i.size, i.bytes)) = some (some (.agg #[.int .i64 0, .int .i64 0, .bool false]), 3, 24) by kernel_rfl)
  have HI := Lib.hid (And.intro hi (And.intro hz0 (And.intro hz1 hz2)))
  have Ho := Lib.hid hown
  have HN := Lib.hid hne
  have HF := Lib.hid f4
  have HB := Lib.hid hB
  have hk : ∀ O w1, (w.alloc O).grownBy w1 (Value.ownBlock (.slice a' n' c')) → w1.heap[p]? = w.heap[p]? := fun O w1 g =>
    (g.block p (by simp; omega) HN.out).trans (Below.heap_alloc w O p hp)
  have HK := Lib.hid hk
  have hd : decide ((n' : Int) < 4) = true := decide_eq_true (by omega)
  have HBB : Hid (∀ O, B ≤ (w.alloc O).heap.size) := Lib.hid (fun O => by simp; omega)
  have H1c : Hid (∀ q : Bool, ∀ u ∈ [Value.int .i64 i, .int .i64 (n : Int), .bool q], u.oneCell' = true) := Lib.hid (fun q => by simp [Value.oneCell'])
  have HM1 : Hid (n' + 1 ≤ maxLen) := Lib.hid (by unfold maxLen; omega)
  have HM2 : Hid ((n' + 1) * 24 ≤ 140737488355328) := Lib.hid (by omega)
  have H03 : Hid (0 < 3) := Lib.hid (by decide)
  clear hi hz0 hz1 hz2 hown hne hk f4 hB
  obtain ⟨H1, H2, H3, H4⟩ := HI.out
  rcases ho with rfl | rfl
  · go_enter Tryz.func203, Tryz.ntmps203
    go_wp2_with fail
    refine (require_ok _ _ _).mono ?_
    rintro e w' ⟨rfl, rfl⟩
    go_wp2_with fail
    go_region_law (refine step_append_own rfl (.tmp 21) (.tmp 34) _ rfl B 223 i0 _ 3 24 Tryz.underlying201 H1 H2 H3 H4 rfl H03.out (.slice a' n' c') n' xs rfl (Ho.out.alloc _) ⟨w.heap.size, 0, none⟩ 1 1 [.int .i64 i, .int .i64 n, .bool true] rfl rfl (three_cells _ (.int .i64 i) (.int .i64 n) (.bool true) _) (H1c.out true) HM1.out HM2.out (HBB.out (.cells #[.int .i64 i, .int .i64 n, .bool true] 223)) (fun v' w' g1 g2 _ => ?_); obtain ⟨a2, c2, rfl⟩ := wk_slice g1; have G1 := Lib.hid g1; have g2 : (w.alloc (.cells #[.int .i64 i, .int .i64 n, .bool true] 223)).grownBy w' (Value.ownBlock (.slice a' n' c')) := ⟨g2.os, g2.tape, g2.output, g2.size, g2.block⟩; have G2 := Lib.hid g2; have k4 := (World.frozen?_of_block (a := ⟨p, 4, none⟩) (HK.out _ _ g2)).trans HF.out; have k3 := (World.cell?_of_block (a := ⟨p, 4, none⟩) (HK.out _ _ g2)).trans h4; clear g1 g2)
    all_goals go_wp2
    all_goals go_end0
    all_goals exact ⟨rfl, a2, c2, _, _, G1.out, G2.out, rfl⟩
  · go_enter Tryz.func203, Tryz.ntmps203
    go_wp2_with fail
    refine (require_ok _ _ _).mono ?_
    rintro e w' ⟨rfl, rfl⟩
    go_wp2_with fail
    go_region_law (refine step_append_own rfl (.tmp 21) (.tmp 34) _ rfl B 223 i0 _ 3 24 Tryz.underlying201 H1 H2 H3 H4 rfl H03.out (.slice a' n' c') n' xs rfl (Ho.out.alloc _) ⟨w.heap.size, 0, none⟩ 1 1 [.int .i64 i, .int .i64 n, .bool false] rfl rfl (three_cells _ (.int .i64 i) (.int .i64 n) (.bool false) _) (H1c.out false) HM1.out HM2.out (HBB.out (.cells #[.int .i64 i, .int .i64 n, .bool false] 223)) (fun v' w' g1 g2 _ => ?_); obtain ⟨a2, c2, rfl⟩ := wk_slice g1; have G1 := Lib.hid g1; have g2 : (w.alloc (.cells #[.int .i64 i, .int .i64 n, .bool false] 223)).grownBy w' (Value.ownBlock (.slice a' n' c')) := ⟨g2.os, g2.tape, g2.output, g2.size, g2.block⟩; have G2 := Lib.hid g2; have k4 := (World.frozen?_of_block (a := ⟨p, 4, none⟩) (HK.out _ _ g2)).trans HF.out; have k3 := (World.cell?_of_block (a := ⟨p, 4, none⟩) (HK.out _ _ g2)).trans h4; clear g1 g2)
    all_goals go_wp2
    all_goals go_end0
    all_goals exact ⟨rfl, a2, c2, _, _, G1.out, G2.out, rfl⟩
end Go.Proofs.YtpdnkcfphjbbfaaGreatDoor
namespace Go.Proofs.YtpdnkcfphjbbfaaGreatDoor
open Go.ChangeShapes Go.WideShapes Go.ChangeAt Go.RowKit
set_option linter.unusedVariables false
theorem nest_none (p c' : Nat) (a' : Option Addr) (o i : Int) (ho : o = 22 ∨ o = 23) (w : World) (h2 : w.cell? ⟨p, 2, none⟩ = some (.int .i64 i)) (h4 : w.cell? ⟨p, 4, none⟩ = some (.slice a' 0 c')) :
    Calls Tryz.prog 203 #[.pointer (some ⟨p, 0, none⟩), .int .i64 o] w fun e w' => e = Off i 14 ∧ w = w' := by
  rcases ho with rfl | rfl
  all_goals
    go_enter Tryz.func203, Tryz.ntmps203
    go_wp2_with fail
    refine Calls.mono (innermost_no p c' a' i _ h4 h2) ?_
    rintro e w' ⟨rfl, rfl⟩
    exact ⟨rfl, rfl, rfl⟩
theorem else_not (p g m c : Nat) (i : Int) (hm : m + 1 ≤ 100) (w : World) (h2 : ∀ q, (w.drewN q).cell? ⟨p, 2, none⟩ = some (.int .i64 i)) (h4 : w.cell? ⟨p, 4, none⟩ = some (.slice (some ⟨g, 0, none⟩) (m + 1) c)) (hb : w.cell? ⟨g, m * 3 + 2, none⟩ = some (.bool false)) :
    Calls Tryz.prog 203 #[.pointer (some ⟨p, 0, none⟩), .int .i64 22] w fun e w' => e = Off i 14 ∧ ∃ q, w' = w.drewN q := by
  have H2 := Lib.hid h2
  clear h2
  go_enter Tryz.func203, Tryz.ntmps203
  go_wp2_with fail
  refine Calls.mono (innermost_ok p g m c hm _ h4) ?_
  rintro e w' ⟨rfl, q, rfl⟩
  go_wp2_with fail
  refine Calls.mono (require_no _ _ i _ (H2.out _)) ?_
  rintro e w' ⟨rfl, rfl⟩
  exact ⟨rfl, rfl, _, rfl⟩
theorem else_level (p g m c n cs : Nat) (a : Option Addr) (i k : Int) (hm : m + 1 ≤ 100) (hk : (n : Int) ≠ k) (w : World) (h2 : ∀ q, (w.drewN q).cell? ⟨p, 2, none⟩ = some (.int .i64 i)) (h3 : ∀ q, (w.drewN q).cell? ⟨p, 3, none⟩ = some (.slice a n cs))
    (h4 : w.cell? ⟨p, 4, none⟩ = some (.slice (some ⟨g, 0, none⟩) (m + 1) c)) (hb : w.cell? ⟨g, m * 3 + 2, none⟩ = some (.bool true)) (hh : ∀ q, (w.drewN q).cell? ⟨g, m * 3 + 1, none⟩ = some (.int .i64 k)) :
    Calls Tryz.prog 203 #[.pointer (some ⟨p, 0, none⟩), .int .i64 22] w fun e w' => e = Off i 13 ∧ ∃ q, w' = w.drewN q := by
  have HL := Lib.hid (fun q => level_no p g (m * 3) n cs a k i hk (w.drewN q) (h3 q) (hh q) (h2 q))
  clear h2 h3 hk hh
  go_enter Tryz.func203, Tryz.ntmps203
  go_wp2_with fail
  refine Calls.mono (innermost_ok p g m c hm _ h4) ?_
  rintro e w' ⟨rfl, q, rfl⟩
  go_wp2_with fail
  refine Calls.mono (require_ok _ _ _) ?_
  rintro e w' ⟨rfl, rfl⟩
  go_wp2_with fail
  refine Calls.mono (HL.out q) ?_
  rintro e w' ⟨rfl, q2, rfl⟩
  exact ⟨rfl, rfl, q + q2, by simp⟩
theorem else_ok (p g m c n cs : Nat) (a : Option Addr) (hm : m + 1 ≤ 100) (w : World) (h3 : ∀ q, (w.drewN q).cell? ⟨p, 3, none⟩ = some (.slice a n cs))
    (h4 : w.cell? ⟨p, 4, none⟩ = some (.slice (some ⟨g, 0, none⟩) (m + 1) c)) (hb : w.cell? ⟨g, m * 3 + 2, none⟩ = some (.bool true)) (fb : w.frozen? ⟨g, m * 3 + 2, none⟩ = false) (hh : ∀ q, (w.drewN q).cell? ⟨g, m * 3 + 1, none⟩ = some (.int .i64 n)) :
    Calls Tryz.prog 203 #[.pointer (some ⟨p, 0, none⟩), .int .i64 22] w fun e w' => e = .returned (.tuple #[]) ∧ ∃ q, w' = (w.drewN q).setCell ⟨g, m * 3 + 2, none⟩ (.bool false) := by
  have HL := Lib.hid (fun q => level_ok p g (m * 3) n cs a (w.drewN q) (h3 q) (hh q))
  clear h3 hh
  go_enter Tryz.func203, Tryz.ntmps203
  go_wp2_with fail
  refine Calls.mono (innermost_ok p g m c hm _ h4) ?_
  rintro e w' ⟨rfl, q, rfl⟩
  go_wp2_with fail
  refine Calls.mono (require_ok _ _ _) ?_
  rintro e w' ⟨rfl, rfl⟩
  go_wp2_with fail
  refine Calls.mono (HL.out q) ?_
  rintro e w' ⟨rfl, q2, rfl⟩
  go_wp2
  go_end0
  exact ⟨rfl, q + q2, by simp⟩
theorem end_level (p g m c n cs : Nat) (a : Option Addr) (i k : Int) (hm : m + 1 ≤ 100) (hk : (n : Int) ≠ k) (w : World) (h2 : ∀ q, (w.drewN q).cell? ⟨p, 2, none⟩ = some (.int .i64 i)) (h3 : ∀ q, (w.drewN q).cell? ⟨p, 3, none⟩ = some (.slice a n cs))
    (h4 : w.cell? ⟨p, 4, none⟩ = some (.slice (some ⟨g, 0, none⟩) (m + 1) c)) (hh : ∀ q, (w.drewN q).cell? ⟨g, m * 3 + 1, none⟩ = some (.int .i64 k)) :
    Calls Tryz.prog 203 #[.pointer (some ⟨p, 0, none⟩), .int .i64 23] w fun e w' => e = Off i 13 ∧ ∃ q, w' = w.drewN q := by
  have HL := Lib.hid (fun q => level_no p g (m * 3) n cs a k i hk (w.drewN q) (h3 q) (hh q) (h2 q))
  clear h2 h3 hk hh
  go_enter Tryz.func203, Tryz.ntmps203
  go_wp2_with fail
  refine Calls.mono (innermost_ok p g m c hm _ h4) ?_
  rintro e w' ⟨rfl, q, rfl⟩
  go_wp2_with fail
  refine Calls.mono (HL.out q) ?_
  rintro e w' ⟨rfl, q2, rfl⟩
  exact ⟨rfl, rfl, q + q2, by simp⟩
theorem end_ok (p g m c n cs : Nat) (a : Option Addr) (hm : m + 1 ≤ 100) (hmc : m + 1 ≤ c) (w : World) (h3 : ∀ q, (w.drewN q).cell? ⟨p, 3, none⟩ = some (.slice a n cs))
    (h4 : w.cell? ⟨p, 4, none⟩ = some (.slice (some ⟨g, 0, none⟩) (m + 1) c)) (f4 : w.frozen? ⟨p, 4, none⟩ = false) (hh : ∀ q, (w.drewN q).cell? ⟨g, m * 3 + 1, none⟩ = some (.int .i64 n)) :
    Calls Tryz.prog 203 #[.pointer (some ⟨p, 0, none⟩), .int .i64 23] w fun e w' => e = .returned (.tuple #[]) ∧ ∃ q, w' = (w.drewN q).setCell ⟨p, 4, none⟩ (.slice (some ⟨g, 0, none⟩) m c) := by
  have HL := Lib.hid (fun q => level_ok p g (m * 3) n cs a (w.drewN q) (h3 q) (hh q))
  clear h3 hh
  go_enter Tryz.func203, Tryz.ntmps203
  go_wp2_with fail
  refine Calls.mono (innermost_ok p g m c hm _ h4) ?_
  rintro e w' ⟨rfl, q, rfl⟩
  go_wp2_with fail
  refine Calls.mono (HL.out q) ?_
  rintro e w' ⟨rfl, q2, rfl⟩
  go_wp2
  go_region
  all_goals go_wp2
  all_goals go_end0
  all_goals exact ⟨rfl, q + q2 + 1, by simp⟩
end Go.Proofs.YtpdnkcfphjbbfaaGreatDoor
