/- Summaries in memory: one instruction, one behind the other, either of two, so many times: of impl and of spec. -/
import Derived.Test.YtppgknjpbfopjaaGreatDoorRows
import Derived.WalkKit
import Derived.ProofKit
import Derived.OpenShut
import Derived.Handy
import Derived.Below
import Derived.Laws.NewBlocks
import Derived.Lib.Hide
import Derived.IntWalk
import Derived.StillTailTactics
import Derived.Outline
import Derived.Test.YtppgknjpbfopjaaGreatDoorCostT
import Derived.Deep.QuietTactic
import Derived.BigQuiet
import Derived.Laws.StructEq
namespace Go.Proofs.YtppgknjpbfopjaaGreatDoor
open Go.ChangeShapes Go.WideShapes Go.ChangeAt Go.RowKit
/-- A summary as a value, as a block. -/
abbrev smV (a : SM) : Value := .agg #[.int .i64 a.t, .int .i64 a.n, .int .i64 a.h, .int .i64 a.l, .int .i64 a.i]
abbrev sm5 (a b c d e : Int) : Value := .agg #[.int .i64 a, .int .i64 b, .int .i64 c, .int .i64 d, .int .i64 e]
abbrev smO (a : SM) : Obj := .cells #[.int .i64 a.t, .int .i64 a.n, .int .i64 a.h, .int .i64 a.l, .int .i64 a.i] 81
theorem ret_sm {a b : SM} (h : a = b) : Ending.returned (smV a) = .returned (smV b) := by rw [h]
theorem ret_si {k : IntKind} {a b : Int} (h : a = b) : Ending.returned (.int k a) = .returned (.int k b) := by rw [h]
/-- The greater and the lesser as the walk has them. -/
theorem wmax (x y : Int) : (if x < y then y else x) = max x y := by omega
theorem wmin (x y : Int) : (if y < x then y else x) = min x y := by omega
theorem wmax3 {P : Program} (w : World) (ts : Array TypeId) (t : TypeId) (x y z : Int) : (Builtin.max_ ts t #[.int .i64 x, .int .i64 y, .int .i64 z]).run P w = .ok (.int .i64 (max (max x y) z)) w := by
  rw [← wmax (max x y) z, ← wmax x y]
  simp [Builtin.max_, Builtin.max2, go_sem]
theorem wmax4 {P : Program} (w : World) (ts : Array TypeId) (t : TypeId) (x y z u : Int) : (Builtin.max_ ts t #[.int .i64 x, .int .i64 y, .int .i64 z, .int .i64 u]).run P w = .ok (.int .i64 (max (max (max x y) z) u)) w := by
  rw [← wmax (max (max x y) z) u, ← wmax (max x y) z, ← wmax x y]
  simp [Builtin.max_, Builtin.max2, go_sem]
theorem pls_no {a b : Int} (h : a < 0 ∨ b < 0) : pls a b = -1 := if_pos h
theorem pls_yes {a b : Int} (h : 0 ≤ a) (g : 0 ≤ b) : pls a b = min (a + b) 2147483647 := if_neg (by omega)
theorem plus_any (a b : Int) (ha : -1 ≤ a ∧ a ≤ 2147483647) (hb : -1 ≤ b ∧ b ≤ 2147483647) (w : World) : Calls Tryz.prog 190 #[.int .i64 a, .int .i64 b] w fun e w' => e = .returned (.int .i64 (pls a b)) ∧ w' = w := by
  by_cases h1 : a = -1
  · subst h1
    have H := Lib.hid (pls_no (a := -1) (b := b) (.inl (by omega)))
    go_enter Tryz.func190, Tryz.ntmps190
    go_wp2
    go_ret
    exact ⟨ret_si H.out.symm, rfl⟩
  by_cases h2 : b = -1
  · subst h2
    have H := Lib.hid (pls_no (a := a) (b := -1) (.inr (by omega)))
    have e1 : (a == -1) = false := beq_eq_false_iff_ne.2 h1
    clear h1
    go_enter Tryz.func190, Tryz.ntmps190
    go_wp2
    go_ret
    exact ⟨ret_si H.out.symm, rfl⟩
  have H := Lib.hid (pls_yes (a := a) (b := b) (by omega) (by omega))
  have e1 : (a == -1) = false := beq_eq_false_iff_ne.2 h1
  have e2 : (b == -1) = false := beq_eq_false_iff_ne.2 h2
  have hm := wmin
  clear h1 h2
  go_enter Tryz.func190, Tryz.ntmps190
  go_wp2
  go_ret
  exact ⟨ret_si H.out.symm, rfl⟩
theorem l05Plus_any (a b : Int) (ha : -1 ≤ a ∧ a ≤ 2147483647) (hb : -1 ≤ b ∧ b ≤ 2147483647) (w : World) : Calls Tryz.prog 150 #[.int .i64 a, .int .i64 b] w fun e w' => e = .returned (.int .i64 (pls a b)) ∧ w' = w := by
  by_cases h1 : a < 0
  · have H := Lib.hid (pls_no (a := a) (b := b) (.inl h1))
    go_enter Tryz.func150, Tryz.ntmps150
    go_wp2
    go_ret
    exact ⟨ret_si H.out.symm, rfl⟩
  by_cases h2 : b < 0
  · have H := Lib.hid (pls_no (a := a) (b := b) (.inr h2))
    go_enter Tryz.func150, Tryz.ntmps150
    go_wp2
    go_ret
    exact ⟨ret_si H.out.symm, rfl⟩
  have H := Lib.hid (pls_yes (a := a) (b := b) (by omega) (by omega))
  have hm := wmin
  go_enter Tryz.func150, Tryz.ntmps150
  go_wp2
  go_ret
  exact ⟨ret_si H.out.symm, rfl⟩
theorem one_true (n : Int) : one n true = ⟨n, -1, n, 0, -1⟩ := rfl
theorem one_false (n : Int) : one n false = ⟨n, n, -1, -1, -1⟩ := rfl
theorem oneCost_any (n : Int) (c : Bool) (w : World) : Calls Tryz.prog 153 #[.int .i64 n, .bool c] w fun e w' => e = .returned (smV (one n c)) ∧ Below w.heap.size w w' := by
  cases c
  all_goals
    go_enter Tryz.func153, Tryz.ntmps153
    go_wp2
    first
      | exact bodyPost_ret (v := smV (one n true)) (by simp [results, Tryz.results153, go_sem, one_true]) rfl ⟨rfl, (Below.refl _ _).alloc (Nat.le_refl _) _⟩
      | exact bodyPost_ret (v := smV (one n false)) (by simp [results, Tryz.results153, go_sem, one_false]) rfl ⟨rfl, (Below.refl _ _).alloc (Nat.le_refl _) _⟩
theorem l05One_any (n : Int) (c : Bool) (w : World) : Calls Tryz.prog 95 #[.int .i64 n, .bool c] w fun e w' => e = .returned (smV (one n c)) ∧ Below w.heap.size w w' := by
  cases c
  all_goals
    go_enter Tryz.func95, Tryz.ntmps95
    go_wp2
    first
      | exact bodyPost_ret (v := smV (one n true)) (by simp [results, Tryz.results95, go_sem, one_true]) rfl ⟨rfl, (Below.refl _ _).alloc (Nat.le_refl _) _⟩
      | exact bodyPost_ret (v := smV (one n false)) (by simp [results, Tryz.results95, go_sem, one_false]) rfl ⟨rfl, (Below.refl _ _).alloc (Nat.le_refl _) _⟩
theorem sm_al (w : World) (O : Obj) : Below w.heap.size w (w.alloc O) := (Below.refl _ _).alloc (Nat.le_refl _) _
theorem sm_dr {B : Nat} {a w : World} (h : Below B a w) : Below B a w.drew := ⟨h.os, h.tape, h.output, h.size, h.block⟩
theorem sm_al2 (w : World) (O O' : Obj) : Below w.heap.size w ((w.alloc O).alloc O') := (sm_al w O).alloc (sm_al w O).size _
theorem sm_al3 (w : World) (O O' O'' : Obj) : Below w.heap.size w (((w.alloc O).alloc O').alloc O'') := (sm_al2 w O O').alloc (sm_al2 w O O').size _
theorem ret_5 {a b c d e a' b' c' d' e' : Int} (h1 : a = a') (h2 : b = b') (h3 : c = c') (h4 : d = d') (h5 : e = e') : Ending.returned (sm5 a b c d e) = .returned (sm5 a' b' c' d' e') := by rw [h1, h2, h3, h4, h5]
set_option maxRecDepth 100000 in
set_option maxHeartbeats 1000000 in
theorem behind_any (a b : SM) (ha : a.ok) (hb : b.ok) (w : World) : Calls Tryz.prog 154 #[smV a, smV b] w fun e w' => e = .returned (smV (beh a b)) ∧ Below w.heap.size w w' := by
  obtain ⟨at', an, ah, al, ai⟩ := a
  obtain ⟨bt, bn, bh, bl, bi⟩ := b
  obtain ⟨a1, a2, a3, a4, a5, -⟩ := ha
  obtain ⟨b1, b2, b3, b4, b5, -⟩ := hb
  dsimp only at a1 a2 a3 a4 a5 b1 b2 b3 b4 b5
  have P := fun (x y : Int) (hx : -1 ≤ x ∧ x ≤ 2147483647) (hy : -1 ≤ y ∧ y ≤ 2147483647) (w : World) => plus_any x y hx hy w
  go_enter Tryz.func154, Tryz.ntmps154
  have hm := wmax
  have hm3 := @wmax3 Tryz.prog
  go_wp2
  refine wp_region_still_tail 37 (by kernel_rfl) (by kernel_rfl) ?_
  change wpStill _ _ (World.drew _) (fun a' => wpList _ _ _ _ a' (World.drew _)) _ _
  simp only [List.take_succ_cons, List.take_zero, List.drop_succ_cons, List.drop_zero]
  repeat still_step
  still_call (P _ _ ⟨by omega, by omega⟩ ⟨by omega, by omega⟩ _)
  repeat still_step
  still_call (P _ _ ⟨by omega, by omega⟩ ⟨by omega, by omega⟩ _)
  repeat still_step
  still_call (P _ _ ⟨by omega, by omega⟩ ⟨by omega, by omega⟩ _)
  repeat still_step
  still_call (P _ _ ⟨by omega, by omega⟩ ⟨by omega, by omega⟩ _)
  repeat still_step
  still_call (P _ _ ⟨by omega, by omega⟩ ⟨by omega, by omega⟩ _)
  repeat still_step
  refine wpStill_nil ?_
  clear P
  go_wp2
  exact bodyPost_ret (v := sm5 (pls at' bt) (pls an bn) (max ah (pls an bh)) (max bl (pls al bn)) (max ai (max bi (pls al bh)))) (by simp [results, Tryz.results154, go_sem]) rfl ⟨ret_5 rfl rfl rfl rfl (by show max ai (max bi (pls al bh)) = max (max ai bi) (pls al bh); omega), sm_dr (sm_al3 w _ _ _)⟩
set_option maxRecDepth 100000 in
set_option maxHeartbeats 1000000 in
theorem l05Behind_any (a b : SM) (ha : a.ok) (hb : b.ok) (w : World) : Calls Tryz.prog 94 #[smV a, smV b] w fun e w' => e = .returned (smV (beh a b)) ∧ Below w.heap.size w w' := by
  obtain ⟨at', an, ah, al, ai⟩ := a
  obtain ⟨bt, bn, bh, bl, bi⟩ := b
  obtain ⟨a1, a2, a3, a4, a5, -⟩ := ha
  obtain ⟨b1, b2, b3, b4, b5, -⟩ := hb
  dsimp only at a1 a2 a3 a4 a5 b1 b2 b3 b4 b5
  have P := fun (x y : Int) (hx : -1 ≤ x ∧ x ≤ 2147483647) (hy : -1 ≤ y ∧ y ≤ 2147483647) (w : World) => l05Plus_any x y hx hy w
  go_enter Tryz.func94, Tryz.ntmps94
  have hm := wmax
  have hm3 := @wmax3 Tryz.prog
  go_wp2
  refine wp_region_still_tail 37 (by kernel_rfl) (by kernel_rfl) ?_
  change wpStill _ _ (World.drew _) (fun a' => wpList _ _ _ _ a' (World.drew _)) _ _
  simp only [List.take_succ_cons, List.take_zero, List.drop_succ_cons, List.drop_zero]
  repeat still_step
  still_call (P _ _ ⟨by omega, by omega⟩ ⟨by omega, by omega⟩ _)
  repeat still_step
  still_call (P _ _ ⟨by omega, by omega⟩ ⟨by omega, by omega⟩ _)
  repeat still_step
  still_call (P _ _ ⟨by omega, by omega⟩ ⟨by omega, by omega⟩ _)
  repeat still_step
  still_call (P _ _ ⟨by omega, by omega⟩ ⟨by omega, by omega⟩ _)
  repeat still_step
  still_call (P _ _ ⟨by omega, by omega⟩ ⟨by omega, by omega⟩ _)
  repeat still_step
  refine wpStill_nil ?_
  clear P
  go_wp2
  exact bodyPost_ret (v := sm5 (pls at' bt) (pls an bn) (max ah (pls an bh)) (max bl (pls al bn)) (max ai (max bi (pls al bh)))) (by simp [results, Tryz.results94, go_sem]) rfl ⟨ret_5 rfl rfl rfl rfl (by show max ai (max bi (pls al bh)) = max (max ai bi) (pls al bh); omega), sm_dr (sm_al3 w _ _ _)⟩
set_option maxHeartbeats 1000000 in
theorem either_any (a b : SM) (w : World) : Calls Tryz.prog 233 #[smV a, smV b] w fun e w' => e = .returned (smV (eith a b)) ∧ Below w.heap.size w w' := by
  obtain ⟨at', an, ah, al, ai⟩ := a
  obtain ⟨bt, bn, bh, bl, bi⟩ := b
  have hm := wmax
  go_enter Tryz.func233, Tryz.ntmps233
  go_wp2
  exact bodyPost_ret (v := sm5 (max at' bt) (max an bn) (max ah bh) (max al bl) (max ai bi)) (by simp [results, Tryz.results233, go_sem]) rfl ⟨rfl, sm_al3 w _ _ _⟩
set_option maxHeartbeats 1000000 in
theorem l05Either_any (a b : SM) (w : World) : Calls Tryz.prog 148 #[smV a, smV b] w fun e w' => e = .returned (smV (eith a b)) ∧ Below w.heap.size w w' := by
  obtain ⟨at', an, ah, al, ai⟩ := a
  obtain ⟨bt, bn, bh, bl, bi⟩ := b
  have hm := wmax
  go_enter Tryz.func148, Tryz.ntmps148
  go_wp2
  exact bodyPost_ret (v := sm5 (max at' bt) (max an bn) (max ah bh) (max al bl) (max ai bi)) (by simp [results, Tryz.results148, go_sem]) rfl ⟨rfl, sm_al3 w _ _ _⟩
theorem sm_cells {w : World} {b : Nat} {x0 x1 x2 x3 x4 : Value} {t : TypeId} (h : w.heap[b]? = some (.cells #[x0, x1, x2, x3, x4] t (0, 0))) :
    (w.cell? ⟨b, 0, none⟩ = some x0 ∧ w.cell? ⟨b, 1, none⟩ = some x1 ∧ w.cell? ⟨b, 2, none⟩ = some x2 ∧ w.cell? ⟨b, 3, none⟩ = some x3 ∧ w.cell? ⟨b, 4, none⟩ = some x4) ∧
    (w.frozen? ⟨b, 0, none⟩ = false ∧ w.frozen? ⟨b, 1, none⟩ = false ∧ w.frozen? ⟨b, 2, none⟩ = false ∧ w.frozen? ⟨b, 3, none⟩ = false ∧ w.frozen? ⟨b, 4, none⟩ = false) ∧ b < w.heap.size :=
  ⟨⟨cell_of_row _ _ 0 _ _ _ h, cell_of_row _ _ 1 _ _ _ h, cell_of_row _ _ 2 _ _ _ h, cell_of_row _ _ 3 _ _ _ h, cell_of_row _ _ 4 _ _ _ h⟩,
    ⟨frozen_of_row _ _ 0 _ _ h, frozen_of_row _ _ 1 _ _ h, frozen_of_row _ _ 2 _ _ h, frozen_of_row _ _ 3 _ _ h, frozen_of_row _ _ 4 _ _ h⟩, (Array.getElem?_eq_some_iff.1 h).1⟩
/-- A block of one's own behind a call. -/
theorem sm_keep {w w1 : World} {O : Obj} (h : Below (w.alloc O).heap.size (w.alloc O) w1) (hO : (w.alloc O).heap[w.heap.size]? = some O) : w1.heap[w.heap.size]? = some O := (h.block w.heap.size (by simp)).trans hO
/-- A summary stored into a block. -/
abbrev set5 (w : World) (b : Nat) (x : SM) : World := ((((w.setCell ⟨b, 0, none⟩ (.int .i64 x.t)).setCell ⟨b, 1, none⟩ (.int .i64 x.n)).setCell ⟨b, 2, none⟩ (.int .i64 x.h)).setCell ⟨b, 3, none⟩ (.int .i64 x.l)).setCell ⟨b, 4, none⟩ (.int .i64 x.i)
theorem sm_set5 {B : Nat} {a w : World} (h : Below B a w) (b : Nat) (hb : B ≤ b) (x : SM) : Below B a (set5 w b x) :=
  ((((h.setCell (p := ⟨b, 0, none⟩) hb _).setCell (p := ⟨b, 1, none⟩) hb _).setCell (p := ⟨b, 2, none⟩) hb _).setCell (p := ⟨b, 3, none⟩) hb _).setCell (p := ⟨b, 4, none⟩) hb _
theorem nothing_any (w : World) : Calls Tryz.prog 210 #[] w fun e w' => e = .returned (smV (one 0 false)) ∧ Below w.heap.size w w' := by
  go_enter Tryz.func210, Tryz.ntmps210
  go_wp2_with fail
  refine (oneCost_any 0 false _).mono ?_
  rintro e w1 ⟨rfl, hb1⟩
  obtain ⟨⟨c0, c1, c2, c3, c4⟩, ⟨f0, f1, f2, f3, f4⟩, hz⟩ := sm_cells (sm_keep hb1 (heap_alloc_new w _))
  have Hb1 := Lib.hid ((sm_al w _).trans (hb1.mono (sm_al w _).size))
  clear hb1
  go_wp2
  exact bodyPost_ret (v := smV (one 0 false)) (by simp [results, Tryz.results210, go_sem, c0, c1, c2, c3, c4]) rfl ⟨rfl, sm_set5 Hb1.out _ (Nat.le_refl _) (one 0 false)⟩
theorem bl_al {w : World} {b : Nat} {O : Obj} (h : w.heap[b]? = some O) (O' : Obj) : (w.alloc O').heap[b]? = some O := by
  rw [Below.heap_alloc w O' b (Array.getElem?_eq_some_iff.1 h).1]
  exact h
theorem bl_set5 {w : World} {c : Nat} {O : Obj} (h : w.heap[c]? = some O) (b : Nat) (hc : c ≠ b) (x : SM) : (set5 w b x).heap[c]? = some O := by
  unfold set5
  rw [heap_setCell_other _ _ _ _ hc, heap_setCell_other _ _ _ _ hc, heap_setCell_other _ _ _ _ hc, heap_setCell_other _ _ _ _ hc, heap_setCell_other _ _ _ _ hc]
  exact h
theorem sm_put1 {w : World} {p : Nat} {cs : Array Value} {t : TypeId} (h : w.heap[p]? = some (.cells cs t (0, 0))) (i : Nat) (u : Value) : (w.setCell ⟨p, i, none⟩ u).heap[p]? = some (.cells (cs.setIfInBounds i u) t (0, 0)) := by
  simp [World.setCell, Array.getElem?_modify, h]
theorem sm_put5 {w : World} {b : Nat} {y : SM} (h : w.heap[b]? = some (smO y)) (x : SM) : (set5 w b x).heap[b]? = some (smO x) := by
  have := sm_put1 (sm_put1 (sm_put1 (sm_put1 (sm_put1 h 0 (.int .i64 x.t)) 1 (.int .i64 x.n)) 2 (.int .i64 x.h)) 3 (.int .i64 x.l)) 4 (.int .i64 x.i)
  simpa using this
set_option maxHeartbeats 1000000 in
theorem times_any (a : SM) (n : Nat) (ha : a.ok) (hn : n ≤ 20) (w : World) : Calls Tryz.prog 232 #[smV a, .int .i64 (n : Int)] w fun e w' => e = .returned (smV (tims a n)) ∧ Below w.heap.size w w' := by
  have HK := Lib.hid (fun k => tims_ok ha k)
  have HA := Lib.hid ha
  clear ha
  go_enter Tryz.func232, Tryz.ntmps232
  go_wp2_with fail
  refine (nothing_any _).mono ?_
  rintro e w1 ⟨rfl, hb1⟩
  have Hb1 := Lib.hid ((sm_al2 w (smO a) (smO ⟨0, 0, 0, 0, 0⟩)).trans (hb1.mono (sm_al2 w _ _).size))
  have hz : w.heap.size + 1 < w1.heap.size := by have := hb1.size; simp at this; omega
  have A1 : w1.heap[w.heap.size]? = some (smO a) := (hb1.block w.heap.size (by simp; omega)).trans ((Below.heap_alloc _ _ _ (by simp)).trans (heap_alloc_new w _))
  have R1 : w1.heap[w.heap.size + 1]? = some (smO ⟨0, 0, 0, 0, 0⟩) := (hb1.block (w.heap.size + 1) (by simp)).trans (by have := heap_alloc_new (w.alloc (smO a)) (smO ⟨0, 0, 0, 0, 0⟩); simpa using this)
  have HS := Lib.hid (And.intro (bl_al A1 (smO (tims a 0))) (And.intro (bl_al R1 (smO (tims a 0))) (And.intro (heap_alloc_new w1 (smO (tims a 0))) (Hb1.out.alloc Hb1.out.size (smO (tims a 0))))))
  clear hb1 A1 R1
  go_wp2
  go_loopw [8] (fun i wr => ∃ k : Nat, k ≤ n ∧ i = .int .i64 k ∧ Hid (wr.heap[w.heap.size]? = some (smO a) ∧ wr.heap[w.heap.size + 1]? = some (smO ⟨0, 0, 0, 0, 0⟩) ∧ wr.heap[w1.heap.size]? = some (smO (tims a k)) ∧ Below w.heap.size w wr)) (fun i _ => n - (intOf i).toNat)
  case atStart => exact ⟨0, Nat.zero_le _, rfl, HS⟩
  case round =>
    obtain ⟨k, hk, rfl, hs⟩ := hrel
    obtain ⟨⟨a0, a1, a2, a3, a4⟩, -, -⟩ := sm_cells hs.out.1
    obtain ⟨⟨t0, t1, t2, t3, t4⟩, -, hz1⟩ := sm_cells hs.out.2.2.1
    by_cases hlt : k < n
    · have HB := Lib.hid (fun w => behind_any (tims a k) a (HK.out k) HA.out w)
      generalize hT : tims a k = T at *
      have HT := Lib.hid hT
      clear hT
      go_wp2_with fail
      refine Calls.mono (HB.out _) ?_
      rintro e w2 ⟨rfl, hb2⟩
      have HS2 := Lib.hid (And.intro ((hb2.block _ (by omega)).trans hs.out.1) (And.intro ((hb2.block _ (by omega)).trans hs.out.2.1) (And.intro ((hb2.block _ hz1).trans hs.out.2.2.1) (hs.out.2.2.2.trans (hb2.mono hs.out.2.2.2.size)))))
      have hz2 : w.heap.size + 1 < w2.heap.size := by have := hb2.size; omega
      clear a0 a1 a2 a3 a4 t0 t1 t2 t3 t4 hb2
      obtain ⟨⟨t0, t1, t2, t3, t4⟩, ⟨f0, f1, f2, f3, f4⟩, -⟩ := sm_cells HS2.out.2.2.1
      go_wp2
      have HS3 : Hid ((set5 w2 w1.heap.size (beh T a)).heap[w.heap.size]? = some (smO a) ∧ (set5 w2 w1.heap.size (beh T a)).heap[w.heap.size + 1]? = some (smO ⟨0, 0, 0, 0, 0⟩) ∧ (set5 w2 w1.heap.size (beh T a)).heap[w1.heap.size]? = some (smO (tims a (k + 1))) ∧ Below w.heap.size w (set5 w2 w1.heap.size (beh T a))) :=
        Lib.hid ⟨bl_set5 HS2.out.1 w1.heap.size (by omega) (beh T a), bl_set5 HS2.out.2.1 w1.heap.size (by omega) (beh T a), by rw [show tims a (k + 1) = beh T a from by rw [tims, HT.out]]; exact sm_put5 HS2.out.2.2.1 (beh T a), sm_set5 HS2.out.2.2.2 w1.heap.size (by omega) (beh T a)⟩
      clear t0 t1 t2 t3 t4 f0 f1 f2 f3 f4
      go_roundw
      case rel => exact ⟨k + 1, by omega, by go_num, HS3⟩
      case measure => simp [intOf]; omega
    · obtain rfl : k = n := by omega
      obtain ⟨⟨r0, r1, r2, r3, r4⟩, ⟨f0, f1, f2, f3, f4⟩, -⟩ := sm_cells hs.out.2.1
      go_wp2
      exact bodyPost_ret (v := smV (tims a k)) (by simp [results, Tryz.results232, go_sem, r0, r1, r2, r3, r4]) rfl ⟨rfl, sm_set5 hs.out.2.2.2 (w.heap.size + 1) (by omega) (tims a k)⟩
set_option maxHeartbeats 1000000 in
theorem l05Times_any (a : SM) (n : Nat) (ha : a.ok) (hn : n ≤ 20) (w : World) : Calls Tryz.prog 149 #[smV a, .int .i64 (n : Int)] w fun e w' => e = .returned (smV (tims a n)) ∧ Below w.heap.size w w' := by
  have HK := Lib.hid (fun k => tims_ok ha k)
  have HA := Lib.hid ha
  clear ha
  go_enter Tryz.func149, Tryz.ntmps149
  go_wp2_with fail
  refine (l05One_any 0 false _).mono ?_
  rintro e w1 ⟨rfl, hb1⟩
  have Hb1 := Lib.hid ((sm_al2 w (smO a) (smO ⟨0, 0, 0, 0, 0⟩)).trans (hb1.mono (sm_al2 w _ _).size))
  have hz : w.heap.size + 1 < w1.heap.size := by have := hb1.size; simp at this; omega
  have A1 : w1.heap[w.heap.size]? = some (smO a) := (hb1.block w.heap.size (by simp; omega)).trans ((Below.heap_alloc _ _ _ (by simp)).trans (heap_alloc_new w _))
  have R1 : w1.heap[w.heap.size + 1]? = some (smO ⟨0, 0, 0, 0, 0⟩) := (hb1.block (w.heap.size + 1) (by simp)).trans (by have := heap_alloc_new (w.alloc (smO a)) (smO ⟨0, 0, 0, 0, 0⟩); simpa using this)
  have HS := Lib.hid (And.intro (bl_al A1 (smO (tims a 0))) (And.intro (bl_al R1 (smO (tims a 0))) (And.intro (heap_alloc_new w1 (smO (tims a 0))) (Hb1.out.alloc Hb1.out.size (smO (tims a 0))))))
  clear hb1 A1 R1
  go_wp2
  go_loopw [6] (fun i wr => ∃ k : Nat, k ≤ n ∧ i = .int .i64 k ∧ Hid (wr.heap[w.heap.size]? = some (smO a) ∧ wr.heap[w.heap.size + 1]? = some (smO ⟨0, 0, 0, 0, 0⟩) ∧ wr.heap[w1.heap.size]? = some (smO (tims a k)) ∧ Below w.heap.size w wr)) (fun i _ => n - (intOf i).toNat)
  case atStart => exact ⟨0, Nat.zero_le _, rfl, HS⟩
  case round =>
    obtain ⟨k, hk, rfl, hs⟩ := hrel
    obtain ⟨⟨a0, a1, a2, a3, a4⟩, -, -⟩ := sm_cells hs.out.1
    obtain ⟨⟨t0, t1, t2, t3, t4⟩, -, hz1⟩ := sm_cells hs.out.2.2.1
    by_cases hlt : k < n
    · have HB := Lib.hid (fun w => l05Behind_any (tims a k) a (HK.out k) HA.out w)
      generalize hT : tims a k = T at *
      have HT := Lib.hid hT
      clear hT
      go_wp2_with fail
      refine Calls.mono (HB.out _) ?_
      rintro e w2 ⟨rfl, hb2⟩
      have HS2 := Lib.hid (And.intro ((hb2.block _ (by omega)).trans hs.out.1) (And.intro ((hb2.block _ (by omega)).trans hs.out.2.1) (And.intro ((hb2.block _ hz1).trans hs.out.2.2.1) (hs.out.2.2.2.trans (hb2.mono hs.out.2.2.2.size)))))
      have hz2 : w.heap.size + 1 < w2.heap.size := by have := hb2.size; omega
      clear a0 a1 a2 a3 a4 t0 t1 t2 t3 t4 hb2
      obtain ⟨⟨t0, t1, t2, t3, t4⟩, ⟨f0, f1, f2, f3, f4⟩, -⟩ := sm_cells HS2.out.2.2.1
      go_wp2
      have HS3 : Hid ((set5 w2 w1.heap.size (beh T a)).heap[w.heap.size]? = some (smO a) ∧ (set5 w2 w1.heap.size (beh T a)).heap[w.heap.size + 1]? = some (smO ⟨0, 0, 0, 0, 0⟩) ∧ (set5 w2 w1.heap.size (beh T a)).heap[w1.heap.size]? = some (smO (tims a (k + 1))) ∧ Below w.heap.size w (set5 w2 w1.heap.size (beh T a))) :=
        Lib.hid ⟨bl_set5 HS2.out.1 w1.heap.size (by omega) (beh T a), bl_set5 HS2.out.2.1 w1.heap.size (by omega) (beh T a), by rw [show tims a (k + 1) = beh T a from by rw [tims, HT.out]]; exact sm_put5 HS2.out.2.2.1 (beh T a), sm_set5 HS2.out.2.2.2 w1.heap.size (by omega) (beh T a)⟩
      clear t0 t1 t2 t3 t4 f0 f1 f2 f3 f4
      go_roundw
      case rel => exact ⟨k + 1, by omega, by go_num, HS3⟩
      case measure => simp [intOf]; omega
    · obtain rfl : k = n := by omega
      obtain ⟨⟨r0, r1, r2, r3, r4⟩, ⟨f0, f1, f2, f3, f4⟩, -⟩ := sm_cells hs.out.2.1
      go_wp2
      exact bodyPost_ret (v := smV (tims a k)) (by simp [results, Tryz.results149, go_sem, r0, r1, r2, r3, r4]) rfl ⟨rfl, sm_set5 hs.out.2.2.2 (w.heap.size + 1) (by omega) (tims a k)⟩
end Go.Proofs.YtppgknjpbfopjaaGreatDoor
namespace Go.Proofs.YtppgknjpbfopjaaGreatDoor
open Go.ChangeShapes Go.WideShapes Go.ChangeAt Go.RowKit
def inZ (n a b : Int) : Bool := decide (a ≤ n ∧ n ≤ b)
theorem ret_bo {a b : Bool} (h : a = b) : Ending.returned (.bool a) = .returned (.bool b) := by rw [h]
theorem bel_dn1 {B : Nat} {a w : World} (h : Below B a w) (q : Nat) : Below B a (w.drewN q) := ⟨h.os, h.tape, h.output, h.size, h.block⟩
theorem isTime_is {n : Int} {q : Bool} (h : inZ n 0 2147483647 = q) (w : World) : Calls Tryz.prog 191 #[.int .i64 n] w fun e w' => e = .returned (.bool q) ∧ w' = w := by
  have H := Lib.hid h
  clear h
  go_enter Tryz.func191, Tryz.ntmps191
  go_wp2
  all_goals (go_ret; refine ⟨ret_bo ?_, rfl⟩; rw [← H.out]; simp only [inZ]; rw [Bool.eq_iff_iff]; first | (simp; omega) | (simp; done))
theorem in_is {n a b : Int} {q : Bool} (h : inZ n a b = q) (w : World) : Calls Tryz.prog 166 #[.int .i64 n, .int .i64 a, .int .i64 b] w fun e w' => e = .returned (.bool q) ∧ w' = w := by
  have H := Lib.hid h
  clear h
  go_enter Tryz.func166, Tryz.ntmps166
  go_wp2
  all_goals (go_ret; refine ⟨ret_bo ?_, rfl⟩; rw [← H.out]; simp only [inZ]; rw [Bool.eq_iff_iff]; first | (simp; omega) | (simp; done))
theorem eqA3 (a b c d e f : Int) (w : World) : (Op.equalIn 10000 221 (.agg #[.int .i64 a, .int .i64 b, .int .i64 c]) (.agg #[.int .i64 d, .int .i64 e, .int .i64 f])).run Tryz.prog w = .ok (decide (a = d ∧ b = e ∧ c = f)) w := by
  have u3 := Tryz.underlying3
  have a3 := Tryz.isAgg3
  have z3 := Tryz.sizeOf3
  rw [show (10000 : Nat) = 9999 + 1 from rfl, Op.equalIn]
  simp only [Sem.run_bind, run_underlying Tryz.underlying221, Result.andThen_ok]
  simp only [Std.Legacy.Range.forIn_eq_forIn_range', Std.Legacy.Range.size, Nat.sub_zero, Nat.add_sub_cancel, Nat.div_one, List.range'_succ, List.range'_zero, List.forIn_cons, List.forIn_nil]
  go_simp
  by_cases h1 : a = d <;> by_cases h2 : b = e <;> by_cases h3 : c = f <;> simp [h1, h2, h3]
theorem sm_leaf {OK : Prop} {R : Bool} (HN : ¬ OK → R = false) (HY : OK → R = true) (b : Bool) (h : b = true ↔ OK) : b = R := by
  by_cases q : OK
  · rw [HY q]; exact h.2 q
  · rw [HN q]; cases b
    · rfl
    · exact absurd (h.1 rfl) q
theorem smOK_no {a : SM} (h : ¬ a.ok) : smOK a = false := decide_eq_false h
theorem smOK_yes {a : SM} (h : a.ok) : smOK a = true := decide_eq_true h
set_option maxHeartbeats 1000000 in
theorem summaryOK_any (a : SM) (w : World) : Calls Tryz.prog 155 #[smV a] w fun e w' => e = .returned (.bool (smOK a)) ∧ Below w.heap.size w w' := by
  have HB := Lib.hid (sm_al w (smO a))
  have HN := Lib.hid (smOK_no (a := a))
  have HY := Lib.hid (smOK_yes (a := a))
  obtain ⟨t, n, h, l, i⟩ := a
  have HP : Hid ((⟨t, n, h, l, i⟩ : SM).ok ↔ ((0 ≤ t ∧ t ≤ 2147483647) ∧ (-1 ≤ n ∧ n ≤ t) ∧ (-1 ≤ h ∧ h ≤ t) ∧ (-1 ≤ l ∧ l ≤ t) ∧ (-1 ≤ i ∧ i ≤ t) ∧ (h < 0 ↔ l < 0) ∧ (h < 0 → 0 ≤ n ∧ i < 0))) := Lib.hid Iff.rfl
  generalize smOK (⟨t, n, h, l, i⟩ : SM) = R at *
  generalize SM.ok (⟨t, n, h, l, i⟩ : SM) = OK at *
  have ea := eqA3
  have i0 : ∀ w, (Instr.index 220 (.agg #[.int .i64 n, .int .i64 h, .int .i64 l, .int .i64 i]) (.int .i64 0)).run Tryz.prog w = .ok (.int .i64 n) w := fun _ => by kernel_rfl
  have i1 : ∀ w, (Instr.index 220 (.agg #[.int .i64 n, .int .i64 h, .int .i64 l, .int .i64 i]) (.int .i64 1)).run Tryz.prog w = .ok (.int .i64 h) w := fun _ => by kernel_rfl
  have i2 : ∀ w, (Instr.index 220 (.agg #[.int .i64 n, .int .i64 h, .int .i64 l, .int .i64 i]) (.int .i64 2)).run Tryz.prog w = .ok (.int .i64 l) w := fun _ => by kernel_rfl
  have i3 : ∀ w, (Instr.index 220 (.agg #[.int .i64 n, .int .i64 h, .int .i64 l, .int .i64 i]) (.int .i64 3)).run Tryz.prog w = .ok (.int .i64 i) w := fun _ => by kernel_rfl
  cases ht : inZ t 0 2147483647
  · have HR : Hid (R = false) := Lib.hid (HN.out (fun q => by have := of_decide_eq_false ht; have := HP.out.1 q; omega))
    have HT := Lib.hid ht
    clear ht ea i0 i1 i2 i3
    go_enter Tryz.func155, Tryz.ntmps155
    go_wp2_with (go_at_call 191; refine (isTime_is HT.out _).mono ?_; rintro e w' ⟨rfl, rfl⟩)
    go_ret
    exact ⟨ret_bo HR.out.symm, HB.out⟩
  have h0 := of_decide_eq_true ht
  have HT := Lib.hid ht
  clear ht
  go_enter Tryz.func155, Tryz.ntmps155
  go_wp2_with (go_at_call 191; refine (isTime_is HT.out _).mono ?_; rintro e w' ⟨rfl, rfl⟩)
  go_rounds 5
  all_goals first
    | (go_ret; exact ⟨ret_bo (HN.out (fun q => by have := HP.out.1 q; omega)).symm, HB.out⟩)
    | (go_wp2
       all_goals
         go_ret
         refine ⟨ret_bo (sm_leaf HN.out HY.out _ (Iff.trans ?_ HP.out.symm)), sm_al w _⟩
         simp only [bne_iff_ne, ne_eq, bne_eq_false_iff_eq, reduceCtorEq, false_iff, true_iff] at *
         omega)
end Go.Proofs.YtppgknjpbfopjaaGreatDoor
namespace Go.Proofs.YtppgknjpbfopjaaGreatDoor
open Go.ChangeShapes Go.WideShapes Go.ChangeAt Go.RowKit
abbrev sm0 : SM := ⟨0, 0, 0, 0, 0⟩
def behF (a b : SM) : SM × Int := if (smOK a && smOK b) = true then (beh a b, 0) else (sm0, 1)
def eithF (a b : SM) : SM × Int := if (smOK a && smOK b) = true then (eith a b, 0) else (sm0, 1)
def timsF (a : SM) (n : Int) : SM × Int := if smOK a = true then (if 0 ≤ n ∧ n ≤ 20 then (tims a n.toNat, 0) else (sm0, 4)) else (sm0, 1)
def longF (a : SM) : Int × Int := if smOK a = true then (longest a, 0) else (0, 1)
def oneF (n : Int) (c : Bool) : SM × Int := if inZ n 0 2147483647 = true then (one n c, 0) else (sm0, 4)
/-- A summary and a code, as two results. -/
abbrev smR (r : SM × Int) : Value := .tuple #[smV r.1, .int .i64 r.2]
/-- Three blocks of a call's own; what is older is as it was. -/
def Trio (w : World) (O O' O'' : Obj) (w' : World) : Prop := w'.heap[w.heap.size]? = some O ∧ w'.heap[w.heap.size + 1]? = some O' ∧ w'.heap[w.heap.size + 1 + 1]? = some O'' ∧ Below w.heap.size w w'
theorem bl_new (w : World) (cs : Array Value) (t : TypeId) : (w.alloc (.cells cs t)).heap[w.heap.size]? = some (.cells cs t (0, 0)) := heap_alloc_new w _
theorem trio_new (w : World) (a b c : Array Value) (t u v : TypeId) : Trio w (.cells a t) (.cells b u) (.cells c v) (((w.alloc (.cells a t)).alloc (.cells b u)).alloc (.cells c v)) :=
  ⟨bl_al (bl_al (heap_alloc_new w _) _) _, bl_al (by have := heap_alloc_new (w.alloc (.cells a t)) (.cells b u); simpa using this) _, by have := heap_alloc_new ((w.alloc (.cells a t)).alloc (.cells b u)) (.cells c v); simpa using this, sm_al3 w _ _ _⟩
theorem Trio.bel {w w1 w2 : World} {O O' O'' : Obj} (h : Trio w O O' O'' w1) (g : Below w1.heap.size w1 w2) : Trio w O O' O'' w2 :=
  have lt : ∀ {k : Nat} {Q : Obj}, w1.heap[k]? = some Q → w2.heap[k]? = some Q := fun hk => (g.block _ (Array.getElem?_eq_some_iff.1 hk).1).trans hk
  ⟨lt h.1, lt h.2.1, lt h.2.2.1, h.2.2.2.trans (g.mono h.2.2.2.size)⟩
/-- Two blocks. -/
def Duo (w : World) (O O' : Obj) (w' : World) : Prop := w'.heap[w.heap.size]? = some O ∧ w'.heap[w.heap.size + 1]? = some O' ∧ Below w.heap.size w w'
theorem duo_new (w : World) (a b : Array Value) (t u : TypeId) : Duo w (.cells a t) (.cells b u) ((w.alloc (.cells a t)).alloc (.cells b u)) :=
  ⟨bl_al (heap_alloc_new w _) _, by have := heap_alloc_new (w.alloc (.cells a t)) (.cells b u); simpa using this, sm_al2 w _ _⟩
theorem Duo.bel {w w1 w2 : World} {O O' : Obj} (h : Duo w O O' w1) (g : Below w1.heap.size w1 w2) : Duo w O O' w2 :=
  have lt : ∀ {k : Nat} {Q : Obj}, w1.heap[k]? = some Q → w2.heap[k]? = some Q := fun hk => (g.block _ (Array.getElem?_eq_some_iff.1 hk).1).trans hk
  ⟨lt h.1, lt h.2.1, h.2.2.trans (g.mono h.2.2.size)⟩
theorem ok_of {a : SM} (h : smOK a = true) : a.ok := of_decide_eq_true h
theorem ret_ij {a b c d : Int} (h : a = b) (g : c = d) : Ending.returned (.tuple #[.int .i64 a, .int .i64 c]) = .returned (.tuple #[.int .i64 b, .int .i64 d]) := by rw [h, g]
theorem longest_eq (a : SM) : longest a = max (max (max a.n a.h) a.l) a.i := by unfold longest; omega
theorem l05Longest_any (a : SM) (w : World) : Calls Tryz.prog 82 #[smV a] w fun e w' => e = .returned (.int .i64 (longest a)) ∧ Below w.heap.size w w' := by
  have H := Lib.hid (longest_eq a)
  have hm4 := @wmax4 Tryz.prog
  go_enter Tryz.func82, Tryz.ntmps82
  go_wp2
  go_ret
  exact ⟨ret_si (by rw [H.out]; omega), sm_al w _⟩
set_option maxHeartbeats 1000000 in
theorem LongestOf_any (a : SM) (w : World) : Calls Tryz.prog 98 #[smV a] w fun e w' => e = .returned (.tuple #[.int .i64 (longF a).1, .int .i64 (longF a).2]) ∧ Below w.heap.size w w' := by
  have HA := Lib.hid (summaryOK_any a)
  cases ha : smOK a
  · have HR : Hid (longF a = (0, 1)) := Lib.hid (by unfold longF; rw [ha]; rfl)
    rw [ha] at HA
    clear ha
    go_enter Tryz.func98, Tryz.ntmps98
    go_wp2_with fail
    refine Calls.mono (HA.out _) ?_
    rintro e w1 ⟨rfl, hb1⟩
    have Hb1 := Lib.hid ((sm_al w (smO a)).trans (hb1.mono (sm_al w (smO a)).size))
    clear hb1
    go_wp2
    go_ret2
    exact ⟨ret_ij (by rw [HR.out]) (by rw [HR.out]), Hb1.out⟩
  have HR : Hid (longF a = (longest a, 0)) := Lib.hid (by unfold longF; rw [ha]; rfl)
  rw [ha] at HA
  clear ha
  go_enter Tryz.func98, Tryz.ntmps98
  go_wp2_with fail
  refine Calls.mono (HA.out _) ?_
  rintro e w1 ⟨rfl, hb1⟩
  have Hb1 := Lib.hid ((sm_al w (smO a)).trans (hb1.mono (sm_al w (smO a)).size))
  obtain ⟨⟨c0, c1, c2, c3, c4⟩, -, -⟩ := sm_cells (sm_keep hb1 (heap_alloc_new w _))
  clear hb1
  have hm4 := @wmax4 Tryz.prog
  go_wp2
  go_ret2
  exact ⟨ret_ij (by rw [HR.out, longest_eq]; omega) (by rw [HR.out]), Hb1.out⟩
end Go.Proofs.YtppgknjpbfopjaaGreatDoor
