/- add and whole of a region. -/
import Derived.Test.YtnehaidkhpjpbaaDoorReg
namespace Go.Proofs.YtnehaidkhpjpbaaDoor
open Go.ChangeShapes Go.WideShapes Go.ChangeAt Go.RowKit
set_option linter.unusedVariables false
/-- A region as it lies at an address. -/
def RgAt (w : World) (g o : Nat) (r : RG) : Prop := (w.cell? ⟨g, o, none⟩ = some (.int .i64 r.x.1) ∧ w.cell? ⟨g, o + 1, none⟩ = some (.int .i64 r.x.2)) ∧
    (w.cell? ⟨g, o + 2, none⟩ = some (.int .i64 r.own.t) ∧ w.cell? ⟨g, o + 3, none⟩ = some (.int .i64 r.own.n) ∧ w.cell? ⟨g, o + 4, none⟩ = some (.int .i64 r.own.h) ∧ w.cell? ⟨g, o + 5, none⟩ = some (.int .i64 r.own.l) ∧ w.cell? ⟨g, o + 6, none⟩ = some (.int .i64 r.own.i)) ∧
    (w.cell? ⟨g, o + 7, none⟩ = some (.int .i64 r.oth.t) ∧ w.cell? ⟨g, o + 8, none⟩ = some (.int .i64 r.oth.n) ∧ w.cell? ⟨g, o + 9, none⟩ = some (.int .i64 r.oth.h) ∧ w.cell? ⟨g, o + 10, none⟩ = some (.int .i64 r.oth.l) ∧ w.cell? ⟨g, o + 11, none⟩ = some (.int .i64 r.oth.i)) ∧ ∀ k, w.frozen? ⟨g, k, none⟩ = false
theorem RgAt.lt {w : World} {g o : Nat} {r : RG} (h : RgAt w g o r) : g < w.heap.size := cells_lt h.1.1
theorem RgAt.bel {w w' : World} {g o : Nat} {r : RG} (h : RgAt w g o r) (hb : Below w.heap.size w w') : RgAt w' g o r := by
  have hl := h.lt
  have c : ∀ k, w'.cell? ⟨g, k, none⟩ = w.cell? ⟨g, k, none⟩ := fun k => hb.cell (p := ⟨g, k, none⟩) hl
  have f : ∀ k, w'.frozen? ⟨g, k, none⟩ = w.frozen? ⟨g, k, none⟩ := fun k => hb.frozen (p := ⟨g, k, none⟩) hl
  unfold RgAt
  simp only [c, f]
  exact h
/-- A summary stored at an address. -/
abbrev set5o (w : World) (g o : Nat) (x : SM) : World := ((((w.setCell ⟨g, o, none⟩ (.int .i64 x.t)).setCell ⟨g, o + 1, none⟩ (.int .i64 x.n)).setCell ⟨g, o + 2, none⟩ (.int .i64 x.h)).setCell ⟨g, o + 3, none⟩ (.int .i64 x.l)).setCell ⟨g, o + 4, none⟩ (.int .i64 x.i)
def AddPost (g o : Nat) (S : SM) (w : World) (e : Ending) (w' : World) : Prop := e = .returned (.tuple #[]) ∧ ∃ w1, Below w.heap.size w w1 ∧ w' = set5o w1 g (o + 2) S
set_option maxRecDepth 100000 in
set_option maxHeartbeats 1000000 in
theorem add_any (g o : Nat) (r : RG) (a : SM) (hr : r.own.ok) (ha : a.ok) (w : World) (h : RgAt w g o r) :
    Calls Tryd.prog 163 #[.pointer (some ⟨g, o, none⟩), smV a] w (AddPost g o (beh r.own a) w) := by
  have hl := h.lt
  have HC := Lib.hid (fun w => behind_any r.own a hr ha w)
  have HR := Lib.hid (h.bel (sm_al w (smO a)))
  have HB : Hid (∀ w1, Below (w.alloc (smO a)).drew.heap.size (w.alloc (smO a)).drew w1 → Below w.heap.size w w1) := Lib.hid (fun w1 hb => bel_tr (sm_dr (sm_al w (smO a))) (sm_al w (smO a)).size hb)
  obtain ⟨⟨c0, c1⟩, ⟨c2, c3, c4, c5, c6⟩, ⟨c7, c8, c9, c10, c11⟩, hf⟩ := h
  clear hr ha
  go_enter Tryd.func163, Tryd.ntmps163
  go_wp2
  go_region_with (go_at_call 173; (with_reducible refine (HC.out _).mono ?_); rintro e wn ⟨rfl, hbn⟩; have kr := RgAt.bel (w := (w.alloc (smO a)).drew) HR.out hbn; have k2 := kr; unfold RgAt at k2; go_split_ands)
  all_goals
    have HW := Lib.hid (HB.out _ hbn)
    go_wp2
    go_end0
    exact ⟨rfl, _, HW.out, rfl⟩
set_option maxRecDepth 100000 in
set_option maxHeartbeats 1000000 in
theorem whole_any (g o : Nat) (r : RG) (hr : r.good) (w : World) (h : RgAt w g o r) :
    Calls Tryd.prog 166 #[.pointer (some ⟨g, o, none⟩)] w fun e w' => e = .returned (smV r.whole) ∧ Below w.heap.size w w' := by
  have hl := h.lt
  have HB : Hid (∀ w1, Below (w.alloc (smO ⟨0, 0, 0, 0, 0⟩)).drew.heap.size (w.alloc (smO ⟨0, 0, 0, 0, 0⟩)).drew w1 → Below w.heap.size w w1 ∧ w1.heap[w.heap.size]? = some (smO ⟨0, 0, 0, 0, 0⟩)) := Lib.hid (fun w1 hb => ⟨bel_tr (sm_dr (sm_al w (smO ⟨0, 0, 0, 0, 0⟩))) (sm_al w (smO ⟨0, 0, 0, 0, 0⟩)).size hb, blk_belR (w1 := (w.alloc (smO ⟨0, 0, 0, 0, 0⟩)).drew) (heap_alloc_new w (smO ⟨0, 0, 0, 0, 0⟩)) hb⟩)
  obtain ⟨⟨c0, c1⟩, ⟨c2, c3, c4, c5, c6⟩, ⟨c7, c8, c9, c10, c11⟩, hf⟩ := h
  by_cases h24 : r.x.1 = 24
  · have h20 := hr.2.2 h24
    obtain ⟨n, hn⟩ := Int.eq_ofNat_of_zero_le (show 0 ≤ r.x.2 by omega)
    have HC := Lib.hid (fun w => times_any r.own n hr.1 (by omega) w)
    have HE : Hid (r.whole = tims r.own n) := Lib.hid (by unfold RG.whole; rw [if_pos h24, hn]; rfl)
    rw [h24] at c0
    rw [hn] at c1
    clear hr h20 h24 hn
    go_enter Tryd.func166, Tryd.ntmps166
    go_wp2
    go_region_with (go_at_call 174; (with_reducible refine (HC.out _).mono ?_); rintro e wn ⟨rfl, hbn⟩; have kr := HB.out _ hbn; have k2 := sm_cells kr.2; go_split_ands)
    all_goals
      have HW := Lib.hid (HB.out _ hbn)
      obtain ⟨⟨d0, d1, d2, d3, d4⟩, -, -⟩ := sm_cells HW.out.2
      go_wp2
      exact bodyPost_ret (v := smV (tims r.own n)) (by simp [results, Tryd.results166, go_sem, d0, d1, d2, d3, d4]) rfl ⟨by rw [HE.out], sm_set5 HW.out.1 w.heap.size (Nat.le_refl _) (tims r.own n)⟩
  · have HC := Lib.hid (fun w => either_any r.oth r.own w)
    have HE : Hid (r.whole = eith r.oth r.own) := Lib.hid (by unfold RG.whole; rw [if_neg h24])
    have e24 : (r.x.1 == 24) = false := beq_eq_false_iff_ne.2 h24
    clear hr h24
    go_enter Tryd.func166, Tryd.ntmps166
    go_wp2
    go_region_with (go_at_call 175; (with_reducible refine (HC.out _).mono ?_); rintro e wn ⟨rfl, hbn⟩; have kr := HB.out _ hbn; have k2 := sm_cells kr.2; go_split_ands)
    all_goals
      have HW := Lib.hid (HB.out _ hbn)
      obtain ⟨⟨d0, d1, d2, d3, d4⟩, -, -⟩ := sm_cells HW.out.2
      go_wp2
      exact bodyPost_ret (v := smV (eith r.oth r.own)) (by simp [results, Tryd.results166, go_sem, d0, d1, d2, d3, d4]) rfl ⟨by rw [HE.out], sm_set5 HW.out.1 w.heap.size (Nat.le_refl _) (eith r.oth r.own)⟩
end Go.Proofs.YtnehaidkhpjpbaaDoor
