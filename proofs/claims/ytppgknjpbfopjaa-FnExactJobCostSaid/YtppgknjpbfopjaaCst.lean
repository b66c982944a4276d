/- Summaries in memory: one instruction, one behind the other, either of two, so many times: of impl and of spec. -/
import Derived.Test.YtppgknjpbfopjaaRows
import Derived.WalkKit
import Derived.ProofKit
import Derived.OpenShut
import Derived.Handy
import Derived.Below
import Derived.Laws.NewBlocks
import Derived.Lib.Hide
import Derived.IntWalk
import Derived.StillTailTactics
import Derived.Outline
import Derived.Test.YtppgknjpbfopjaaCost
namespace Go.Proofs.Ytppgknjpbfopjaa
open Go.ChangeShapes Go.WideShapes Go.ChangeAt Go.RowKit
/-- A summary as a value, as a block. -/
abbrev smV (a : SM) : Value := .agg #[.int .i64 a.t, .int .i64 a.n, .int .i64 a.h, .int .i64 a.l, .int .i64 a.i]
abbrev sm5 (a b c d e : Int) : Value := .agg #[.int .i64 a, .int .i64 b, .int .i64 c, .int .i64 d, .int .i64 e]
abbrev smO (a : SM) : Obj := .cells #[.int .i64 a.t, .int .i64 a.n, .int .i64 a.h, .int .i64 a.l, .int .i64 a.i] 24
theorem ret_sm {a b : SM} (h : a = b) : Ending.returned (smV a) = .returned (smV b) := by rw [h]
theorem ret_si {k : IntKind} {a b : Int} (h : a = b) : Ending.returned (.int k a) = .returned (.int k b) := by rw [h]
/-- The greater and the lesser as the walk has them. -/
theorem wmax (x y : Int) : (if x < y then y else x) = max x y := by omega
theorem wmin (x y : Int) : (if y < x then y else x) = min x y := by omega
theorem wmax3 {P : Program} (w : World) (ts : Array TypeId) (t : TypeId) (x y z : Int) : (Builtin.max_ ts t #[.int .i64 x, .int .i64 y, .int .i64 z]).run P w = .ok (.int .i64 (max (max x y) z)) w := by
  rw [← wmax (max x y) z, ← wmax x y]
  simp [Builtin.max_, Builtin.max2, go_sem]
theorem wmax4 {P : Program} (w : World) (ts : Array TypeId) (t : TypeId) (x y z u : Int) : (Builtin.max_ ts t #[.int .i64 x, .int .i64 y, .int .i64 z, .int .i64 u]).run P w = .ok (.int .i64 (max (max (max x y) z) u)) w := by
  rw [← wmax (max (max x y) z) u, ← wmax (max x y) z, ← wmax x y]
  simp [Builtin.max_, Builtin.max2, go_sem]
theorem pls_no {a b : Int} (h : a < 0 ∨ b < 0) : pls a b = -1 := if_pos h
theorem pls_yes {a b : Int} (h : 0 ≤ a) (g : 0 ≤ b) : pls a b = min (a + b) 2147483647 := if_neg (by omega)
theorem plus_any (a b : Int) (ha : -1 ≤ a ∧ a ≤ 2147483647) (hb : -1 ≤ b ∧ b ≤ 2147483647) (w : World) : Calls Try.prog 34 #[.int .i64 a, .int .i64 b] w fun e w' => e = .returned (.int .i64 (pls a b)) ∧ w' = w := by
  by_cases h1 : a = -1
  · subst h1
    have H := Lib.hid (pls_no (a := -1) (b := b) (.inl (by omega)))
    go_enter Try.func34, Try.ntmps34
    go_wp2
    go_ret
    exact ⟨ret_si H.out.symm, rfl⟩
  by_cases h2 : b = -1
  · subst h2
    have H := Lib.hid (pls_no (a := a) (b := -1) (.inr (by omega)))
    have e1 : (a == -1) = false := beq_eq_false_iff_ne.2 h1
    clear h1
    go_enter Try.func34, Try.ntmps34
    go_wp2
    go_ret
    exact ⟨ret_si H.out.symm, rfl⟩
  have H := Lib.hid (pls_yes (a := a) (b := b) (by omega) (by omega))
  have e1 : (a == -1) = false := beq_eq_false_iff_ne.2 h1
  have e2 : (b == -1) = false := beq_eq_false_iff_ne.2 h2
  have hm := wmin
  clear h1 h2
  go_enter Try.func34, Try.ntmps34
  go_wp2
  go_ret
  exact ⟨ret_si H.out.symm, rfl⟩
theorem l05Plus_any (a b : Int) (ha : -1 ≤ a ∧ a ≤ 2147483647) (hb : -1 ≤ b ∧ b ≤ 2147483647) (w : World) : Calls Try.prog 33 #[.int .i64 a, .int .i64 b] w fun e w' => e = .returned (.int .i64 (pls a b)) ∧ w' = w := by
  by_cases h1 : a < 0
  · have H := Lib.hid (pls_no (a := a) (b := b) (.inl h1))
    go_enter Try.func33, Try.ntmps33
    go_wp2
    go_ret
    exact ⟨ret_si H.out.symm, rfl⟩
  by_cases h2 : b < 0
  · have H := Lib.hid (pls_no (a := a) (b := b) (.inr h2))
    go_enter Try.func33, Try.ntmps33
    go_wp2
    go_ret
    exact ⟨ret_si H.out.symm, rfl⟩
  have H := Lib.hid (pls_yes (a := a) (b := b) (by omega) (by omega))
  have hm := wmin
  go_enter Try.func33, Try.ntmps33
  go_wp2
  go_ret
  exact ⟨ret_si H.out.symm, rfl⟩
theorem one_true (n : Int) : one n true = ⟨n, -1, n, 0, -1⟩ := rfl
theorem one_false (n : Int) : one n false = ⟨n, n, -1, -1, -1⟩ := rfl
theorem oneCost_any (n : Int) (c : Bool) (w : World) : Calls Try.prog 26 #[.int .i64 n, .bool c] w fun e w' => e = .returned (smV (one n c)) ∧ Below w.heap.size w w' := by
  cases c
  all_goals
    go_enter Try.func26, Try.ntmps26
    go_wp2
    first
      | exact bodyPost_ret (v := smV (one n true)) (by simp [results, Try.results26, go_sem, one_true]) rfl ⟨rfl, (Below.refl _ _).alloc (Nat.le_refl _) _⟩
      | exact bodyPost_ret (v := smV (one n false)) (by simp [results, Try.results26, go_sem, one_false]) rfl ⟨rfl, (Below.refl _ _).alloc (Nat.le_refl _) _⟩
theorem l05One_any (n : Int) (c : Bool) (w : World) : Calls Try.prog 24 #[.int .i64 n, .bool c] w fun e w' => e = .returned (smV (one n c)) ∧ Below w.heap.size w w' := by
  cases c
  all_goals
    go_enter Try.func24, Try.ntmps24
    go_wp2
    first
      | exact bodyPost_ret (v := smV (one n true)) (by simp [results, Try.results24, go_sem, one_true]) rfl ⟨rfl, (Below.refl _ _).alloc (Nat.le_refl _) _⟩
      | exact bodyPost_ret (v := smV (one n false)) (by simp [results, Try.results24, go_sem, one_false]) rfl ⟨rfl, (Below.refl _ _).alloc (Nat.le_refl _) _⟩
theorem sm_al (w : World) (O : Obj) : Below w.heap.size w (w.alloc O) := (Below.refl _ _).alloc (Nat.le_refl _) _
theorem sm_dr {B : Nat} {a w : World} (h : Below B a w) : Below B a w.drew := ⟨h.os, h.tape, h.output, h.size, h.block⟩
theorem sm_al2 (w : World) (O O' : Obj) : Below w.heap.size w ((w.alloc O).alloc O') := (sm_al w O).alloc (sm_al w O).size _
theorem sm_al3 (w : World) (O O' O'' : Obj) : Below w.heap.size w (((w.alloc O).alloc O').alloc O'') := (sm_al2 w O O').alloc (sm_al2 w O O').size _
theorem ret_5 {a b c d e a' b' c' d' e' : Int} (h1 : a = a') (h2 : b = b') (h3 : c = c') (h4 : d = d') (h5 : e = e') : Ending.returned (sm5 a b c d e) = .returned (sm5 a' b' c' d' e') := by rw [h1, h2, h3, h4, h5]
set_option maxRecDepth 100000 in
set_option maxHeartbeats 1000000 in
theorem behind_any (a b : SM) (ha : a.ok) (hb : b.ok) (w : World) : Calls Try.prog 27 #[smV a, smV b] w fun e w' => e = .returned (smV (beh a b)) ∧ Below w.heap.size w w' := by
  obtain ⟨at', an, ah, al, ai⟩ := a
  obtain ⟨bt, bn, bh, bl, bi⟩ := b
  obtain ⟨a1, a2, a3, a4, a5, -⟩ := ha
  obtain ⟨b1, b2, b3, b4, b5, -⟩ := hb
  dsimp only at a1 a2 a3 a4 a5 b1 b2 b3 b4 b5
  have P := fun (x y : Int) (hx : -1 ≤ x ∧ x ≤ 2147483647) (hy : -1 ≤ y ∧ y ≤ 2147483647) (w : World) => plus_any x y hx hy w
  go_enter Try.func27, Try.ntmps27
  have hm := wmax
  have hm3 := @wmax3 Try.prog
  go_wp2
  refine wp_region_still_tail 37 (by kernel_rfl) (by kernel_rfl) ?_
  change wpStill _ _ (World.drew _) (fun a' => wpList _ _ _ _ a' (World.drew _)) _ _
  simp only [List.take_succ_cons, List.take_zero, List.drop_succ_cons, List.drop_zero]
  repeat still_step
  still_call (P _ _ ⟨by omega, by omega⟩ ⟨by omega, by omega⟩ _)
  repeat still_step
  still_call (P _ _ ⟨by omega, by omega⟩ ⟨by omega, by omega⟩ _)
  repeat still_step
  still_call (P _ _ ⟨by omega, by omega⟩ ⟨by omega, by omega⟩ _)
  repeat still_step
  still_call (P _ _ ⟨by omega, by omega⟩ ⟨by omega, by omega⟩ _)
  repeat still_step
  still_call (P _ _ ⟨by omega, by omega⟩ ⟨by omega, by omega⟩ _)
  repeat still_step
  refine wpStill_nil ?_
  clear P
  go_wp2
  exact bodyPost_ret (v := sm5 (pls at' bt) (pls an bn) (max ah (pls an bh)) (max bl (pls al bn)) (max ai (max bi (pls al bh)))) (by simp [results, Try.results27, go_sem]) rfl ⟨ret_5 rfl rfl rfl rfl (by show max ai (max bi (pls al bh)) = max (max ai bi) (pls al bh); omega), sm_dr (sm_al3 w _ _ _)⟩
set_option maxRecDepth 100000 in
set_option maxHeartbeats 1000000 in
theorem l05Behind_any (a b : SM) (ha : a.ok) (hb : b.ok) (w : World) : Calls Try.prog 23 #[smV a, smV b] w fun e w' => e = .returned (smV (beh a b)) ∧ Below w.heap.size w w' := by
  obtain ⟨at', an, ah, al, ai⟩ := a
  obtain ⟨bt, bn, bh, bl, bi⟩ := b
  obtain ⟨a1, a2, a3, a4, a5, -⟩ := ha
  obtain ⟨b1, b2, b3, b4, b5, -⟩ := hb
  dsimp only at a1 a2 a3 a4 a5 b1 b2 b3 b4 b5
  have P := fun (x y : Int) (hx : -1 ≤ x ∧ x ≤ 2147483647) (hy : -1 ≤ y ∧ y ≤ 2147483647) (w : World) => l05Plus_any x y hx hy w
  go_enter Try.func23, Try.ntmps23
  have hm := wmax
  have hm3 := @wmax3 Try.prog
  go_wp2
  refine wp_region_still_tail 37 (by kernel_rfl) (by kernel_rfl) ?_
  change wpStill _ _ (World.drew _) (fun a' => wpList _ _ _ _ a' (World.drew _)) _ _
  simp only [List.take_succ_cons, List.take_zero, List.drop_succ_cons, List.drop_zero]
  repeat still_step
  still_call (P _ _ ⟨by omega, by omega⟩ ⟨by omega, by omega⟩ _)
  repeat still_step
  still_call (P _ _ ⟨by omega, by omega⟩ ⟨by omega, by omega⟩ _)
  repeat still_step
  still_call (P _ _ ⟨by omega, by omega⟩ ⟨by omega, by omega⟩ _)
  repeat still_step
  still_call (P _ _ ⟨by omega, by omega⟩ ⟨by omega, by omega⟩ _)
  repeat still_step
  still_call (P _ _ ⟨by omega, by omega⟩ ⟨by omega, by omega⟩ _)
  repeat still_step
  refine wpStill_nil ?_
  clear P
  go_wp2
  exact bodyPost_ret (v := sm5 (pls at' bt) (pls an bn) (max ah (pls an bh)) (max bl (pls al bn)) (max ai (max bi (pls al bh)))) (by simp [results, Try.results23, go_sem]) rfl ⟨ret_5 rfl rfl rfl rfl (by show max ai (max bi (pls al bh)) = max (max ai bi) (pls al bh); omega), sm_dr (sm_al3 w _ _ _)⟩
theorem sm_cells {w : World} {b : Nat} {x0 x1 x2 x3 x4 : Value} {t : TypeId} (h : w.heap[b]? = some (.cells #[x0, x1, x2, x3, x4] t (0, 0))) :
    (w.cell? ⟨b, 0, none⟩ = some x0 ∧ w.cell? ⟨b, 1, none⟩ = some x1 ∧ w.cell? ⟨b, 2, none⟩ = some x2 ∧ w.cell? ⟨b, 3, none⟩ = some x3 ∧ w.cell? ⟨b, 4, none⟩ = some x4) ∧
    (w.frozen? ⟨b, 0, none⟩ = false ∧ w.frozen? ⟨b, 1, none⟩ = false ∧ w.frozen? ⟨b, 2, none⟩ = false ∧ w.frozen? ⟨b, 3, none⟩ = false ∧ w.frozen? ⟨b, 4, none⟩ = false) ∧ b < w.heap.size :=
  ⟨⟨cell_of_row _ _ 0 _ _ _ h, cell_of_row _ _ 1 _ _ _ h, cell_of_row _ _ 2 _ _ _ h, cell_of_row _ _ 3 _ _ _ h, cell_of_row _ _ 4 _ _ _ h⟩,
    ⟨frozen_of_row _ _ 0 _ _ h, frozen_of_row _ _ 1 _ _ h, frozen_of_row _ _ 2 _ _ h, frozen_of_row _ _ 3 _ _ h, frozen_of_row _ _ 4 _ _ h⟩, (Array.getElem?_eq_some_iff.1 h).1⟩
/-- A block of one's own behind a call. -/
theorem sm_keep {w w1 : World} {O : Obj} (h : Below (w.alloc O).heap.size (w.alloc O) w1) (hO : (w.alloc O).heap[w.heap.size]? = some O) : w1.heap[w.heap.size]? = some O := (h.block w.heap.size (by simp)).trans hO
/-- A summary stored into a block. -/
abbrev set5 (w : World) (b : Nat) (x : SM) : World := ((((w.setCell ⟨b, 0, none⟩ (.int .i64 x.t)).setCell ⟨b, 1, none⟩ (.int .i64 x.n)).setCell ⟨b, 2, none⟩ (.int .i64 x.h)).setCell ⟨b, 3, none⟩ (.int .i64 x.l)).setCell ⟨b, 4, none⟩ (.int .i64 x.i)
theorem sm_set5 {B : Nat} {a w : World} (h : Below B a w) (b : Nat) (hb : B ≤ b) (x : SM) : Below B a (set5 w b x) :=
  ((((h.setCell (p := ⟨b, 0, none⟩) hb _).setCell (p := ⟨b, 1, none⟩) hb _).setCell (p := ⟨b, 2, none⟩) hb _).setCell (p := ⟨b, 3, none⟩) hb _).setCell (p := ⟨b, 4, none⟩) hb _
theorem bl_al {w : World} {b : Nat} {O : Obj} (h : w.heap[b]? = some O) (O' : Obj) : (w.alloc O').heap[b]? = some O := by
  rw [Below.heap_alloc w O' b (Array.getElem?_eq_some_iff.1 h).1]
  exact h
theorem bl_set5 {w : World} {c : Nat} {O : Obj} (h : w.heap[c]? = some O) (b : Nat) (hc : c ≠ b) (x : SM) : (set5 w b x).heap[c]? = some O := by
  unfold set5
  rw [heap_setCell_other _ _ _ _ hc, heap_setCell_other _ _ _ _ hc, heap_setCell_other _ _ _ _ hc, heap_setCell_other _ _ _ _ hc, heap_setCell_other _ _ _ _ hc]
  exact h
theorem sm_put1 {w : World} {p : Nat} {cs : Array Value} {t : TypeId} (h : w.heap[p]? = some (.cells cs t (0, 0))) (i : Nat) (u : Value) : (w.setCell ⟨p, i, none⟩ u).heap[p]? = some (.cells (cs.setIfInBounds i u) t (0, 0)) := by
  simp [World.setCell, Array.getElem?_modify, h]
theorem sm_put5 {w : World} {b : Nat} {y : SM} (h : w.heap[b]? = some (smO y)) (x : SM) : (set5 w b x).heap[b]? = some (smO x) := by
  have := sm_put1 (sm_put1 (sm_put1 (sm_put1 (sm_put1 h 0 (.int .i64 x.t)) 1 (.int .i64 x.n)) 2 (.int .i64 x.h)) 3 (.int .i64 x.l)) 4 (.int .i64 x.i)
  simpa using this
end Go.Proofs.Ytppgknjpbfopjaa
