/- Regions in memory: newRegion, add, whole of impl. -/
import Derived.Test.YtnehaidkhpjpbaaDoorCst
import Derived.Test.YtnehaidkhpjpbaaDoorRegs
import Derived.Test.YtnehaidkhpjpbaaDoorRow
import Derived.Test.YtnehaidkhpjpbaaDoorIns
import Derived.Deep.RegionHeld3
import Derived.Deep.RegionWith
import Derived.Deep.DeepCutAuto
namespace Go.Proofs.YtnehaidkhpjpbaaDoor
open Go.ChangeShapes Go.WideShapes Go.ChangeAt Go.RowKit
set_option linter.unusedVariables false
/-- A region's cells. -/
def rgC (r : RG) : List Value := [.int .i64 r.x.1, .int .i64 r.x.2, .int .i64 r.own.t, .int .i64 r.own.n, .int .i64 r.own.h, .int .i64 r.own.l, .int .i64 r.own.i, .int .i64 r.oth.t, .int .i64 r.oth.n, .int .i64 r.oth.h, .int .i64 r.oth.l, .int .i64 r.oth.i]
theorem rgC_len (r : RG) : (rgC r).length = 12 := rfl
abbrev rgV (r : RG) : Value := .agg #[.int .i64 r.x.1, .int .i64 r.x.2, .int .i64 r.own.t, .int .i64 r.own.n, .int .i64 r.own.h, .int .i64 r.own.l, .int .i64 r.own.i, .int .i64 r.oth.t, .int .i64 r.oth.n, .int .i64 r.oth.h, .int .i64 r.oth.l, .int .i64 r.oth.i]
abbrev rgO (r : RG) : Obj := .cells #[.int .i64 r.x.1, .int .i64 r.x.2, .int .i64 r.own.t, .int .i64 r.own.n, .int .i64 r.own.h, .int .i64 r.own.l, .int .i64 r.own.i, .int .i64 r.oth.t, .int .i64 r.oth.n, .int .i64 r.oth.h, .int .i64 r.oth.l, .int .i64 r.oth.i] 193
abbrev inO (x y : Int) : Obj := .cells #[.int .i64 x, .int .i64 y] 77
theorem rg_cells {w : World} {b : Nat} {x0 x1 x2 x3 x4 x5 x6 x7 x8 x9 x10 x11 : Value} {t : TypeId} (h : w.heap[b]? = some (.cells #[x0, x1, x2, x3, x4, x5, x6, x7, x8, x9, x10, x11] t (0, 0))) :
    (w.cell? ⟨b, 0, none⟩ = some x0 ∧ w.cell? ⟨b, 1, none⟩ = some x1 ∧ w.cell? ⟨b, 2, none⟩ = some x2 ∧ w.cell? ⟨b, 3, none⟩ = some x3 ∧ w.cell? ⟨b, 4, none⟩ = some x4 ∧ w.cell? ⟨b, 5, none⟩ = some x5 ∧ w.cell? ⟨b, 6, none⟩ = some x6 ∧ w.cell? ⟨b, 7, none⟩ = some x7 ∧ w.cell? ⟨b, 8, none⟩ = some x8 ∧ w.cell? ⟨b, 9, none⟩ = some x9 ∧ w.cell? ⟨b, 10, none⟩ = some x10 ∧ w.cell? ⟨b, 11, none⟩ = some x11) ∧
    (w.frozen? ⟨b, 0, none⟩ = false ∧ w.frozen? ⟨b, 1, none⟩ = false ∧ w.frozen? ⟨b, 2, none⟩ = false ∧ w.frozen? ⟨b, 3, none⟩ = false ∧ w.frozen? ⟨b, 4, none⟩ = false ∧ w.frozen? ⟨b, 5, none⟩ = false ∧ w.frozen? ⟨b, 6, none⟩ = false ∧ w.frozen? ⟨b, 7, none⟩ = false ∧ w.frozen? ⟨b, 8, none⟩ = false ∧ w.frozen? ⟨b, 9, none⟩ = false ∧ w.frozen? ⟨b, 10, none⟩ = false ∧ w.frozen? ⟨b, 11, none⟩ = false) ∧ b < w.heap.size :=
  ⟨⟨cell_of_row _ _ 0 _ _ _ h, cell_of_row _ _ 1 _ _ _ h, cell_of_row _ _ 2 _ _ _ h, cell_of_row _ _ 3 _ _ _ h, cell_of_row _ _ 4 _ _ _ h, cell_of_row _ _ 5 _ _ _ h, cell_of_row _ _ 6 _ _ _ h, cell_of_row _ _ 7 _ _ _ h, cell_of_row _ _ 8 _ _ _ h, cell_of_row _ _ 9 _ _ _ h, cell_of_row _ _ 10 _ _ _ h, cell_of_row _ _ 11 _ _ _ h⟩,
    ⟨frozen_of_row _ _ 0 _ _ h, frozen_of_row _ _ 1 _ _ h, frozen_of_row _ _ 2 _ _ h, frozen_of_row _ _ 3 _ _ h, frozen_of_row _ _ 4 _ _ h, frozen_of_row _ _ 5 _ _ h, frozen_of_row _ _ 6 _ _ h, frozen_of_row _ _ 7 _ _ h, frozen_of_row _ _ 8 _ _ h, frozen_of_row _ _ 9 _ _ h, frozen_of_row _ _ 10 _ _ h, frozen_of_row _ _ 11 _ _ h⟩, (Array.getElem?_eq_some_iff.1 h).1⟩
theorem blk_belR {w1 w2 : World} {k : Nat} {Q : Obj} (h : w1.heap[k]? = some Q) (g : Below w1.heap.size w1 w2) : w2.heap[k]? = some Q := (g.block _ (Array.getElem?_eq_some_iff.1 h).1).trans h
theorem bel_tr {B : Nat} {W w w' : World} (h : Below B W w) (hB : B ≤ w.heap.size) (hb : Below w.heap.size w w') : Below B W w' := h.trans (hb.mono hB)
/-- A region stored into a block. -/
abbrev set12 (w : World) (b : Nat) (r : RG) : World := ((((((((((((w.setCell ⟨b, 0, none⟩ (.int .i64 r.x.1)).setCell ⟨b, 1, none⟩ (.int .i64 r.x.2)).setCell ⟨b, 2, none⟩ (.int .i64 r.own.t)).setCell ⟨b, 3, none⟩ (.int .i64 r.own.n)).setCell ⟨b, 4, none⟩ (.int .i64 r.own.h)).setCell ⟨b, 5, none⟩ (.int .i64 r.own.l)).setCell ⟨b, 6, none⟩ (.int .i64 r.own.i)).setCell ⟨b, 7, none⟩ (.int .i64 r.oth.t)).setCell ⟨b, 8, none⟩ (.int .i64 r.oth.n)).setCell ⟨b, 9, none⟩ (.int .i64 r.oth.h)).setCell ⟨b, 10, none⟩ (.int .i64 r.oth.l)).setCell ⟨b, 11, none⟩ (.int .i64 r.oth.i))
theorem rg_put1 {w : World} {p : Nat} {cs : Array Value} {t : TypeId} (h : w.heap[p]? = some (.cells cs t (0, 0))) (i : Nat) (u : Value) : (w.setCell ⟨p, i, none⟩ u).heap[p]? = some (.cells (cs.setIfInBounds i u) t (0, 0)) := by
  simp [World.setCell, Array.getElem?_modify, h]
set_option maxRecDepth 100000 in
theorem rg_put {w : World} {b : Nat} {r0 : RG} (h : w.heap[b]? = some (rgO r0)) (r : RG) : (set12 w b r).heap[b]? = some (rgO r) := by
  have := rg_put1 (rg_put1 (rg_put1 (rg_put1 (rg_put1 (rg_put1 (rg_put1 (rg_put1 (rg_put1 (rg_put1 (rg_put1 (rg_put1 h 0 (.int .i64 r.x.1)) 1 (.int .i64 r.x.2)) 2 (.int .i64 r.own.t)) 3 (.int .i64 r.own.n)) 4 (.int .i64 r.own.h)) 5 (.int .i64 r.own.l)) 6 (.int .i64 r.own.i)) 7 (.int .i64 r.oth.t)) 8 (.int .i64 r.oth.n)) 9 (.int .i64 r.oth.h)) 10 (.int .i64 r.oth.l)) 11 (.int .i64 r.oth.i)
  simpa using this
theorem rg_set {B : Nat} {a w : World} (h : Below B a w) (b : Nat) (hb : B ≤ b) (r : RG) : Below B a (set12 w b r) :=
  (((((((((((h.setCell (p := ⟨b, 0, none⟩) hb _).setCell (p := ⟨b, 1, none⟩) hb _).setCell (p := ⟨b, 2, none⟩) hb _).setCell (p := ⟨b, 3, none⟩) hb _).setCell (p := ⟨b, 4, none⟩) hb _).setCell (p := ⟨b, 5, none⟩) hb _).setCell (p := ⟨b, 6, none⟩) hb _).setCell (p := ⟨b, 7, none⟩) hb _).setCell (p := ⟨b, 8, none⟩) hb _).setCell (p := ⟨b, 9, none⟩) hb _).setCell (p := ⟨b, 10, none⟩) hb _).setCell (p := ⟨b, 11, none⟩) hb _
/-- The instruction and the region that newRegion makes of it, as they lie. -/
structure NR (w : World) (x y : Int) (X : World) : Prop where
  i : X.heap[w.heap.size]? = some (inO x y)
  r : X.heap[w.heap.size + 1]? = some (rgO ⟨(0, 0), ⟨0, 0, 0, 0, 0⟩, ⟨0, 0, 0, 0, 0⟩⟩)
  b : Below w.heap.size w X
theorem nr_mk {w : World} {x y : Int} {X : World} (h1 : X.heap[w.heap.size]? = some (inO x y)) (h2 : X.heap[w.heap.size + 1]? = some (rgO ⟨(0, 0), ⟨0, 0, 0, 0, 0⟩, ⟨0, 0, 0, 0, 0⟩⟩)) (h3 : Below w.heap.size w X) : NR w x y X.drew := ⟨h1, h2, sm_dr h3⟩
theorem nr_next {w : World} {x y : Int} {X wn : World} (h : NR w x y X) (hb : Below X.heap.size X wn) : NR w x y wn := ⟨blk_belR h.i hb, blk_belR h.r hb, bel_tr h.b h.b.size hb⟩
theorem nr_in {w : World} {x y : Int} {X : World} (h : NR w x y X) : (X.cell? ⟨w.heap.size, 0, none⟩ = some (.int .i64 x) ∧ X.cell? ⟨w.heap.size, 1, none⟩ = some (.int .i64 y)) ∧
    (w.heap.size + 1 < X.heap.size) ∧ (X.cell? ⟨w.heap.size + 1, 0, none⟩ = some (.int .i64 0) ∧ X.cell? ⟨w.heap.size + 1, 1, none⟩ = some (.int .i64 0) ∧ X.cell? ⟨w.heap.size + 1, 2, none⟩ = some (.int .i64 0) ∧ X.cell? ⟨w.heap.size + 1, 3, none⟩ = some (.int .i64 0) ∧ X.cell? ⟨w.heap.size + 1, 4, none⟩ = some (.int .i64 0) ∧ X.cell? ⟨w.heap.size + 1, 5, none⟩ = some (.int .i64 0) ∧ X.cell? ⟨w.heap.size + 1, 6, none⟩ = some (.int .i64 0) ∧ X.cell? ⟨w.heap.size + 1, 7, none⟩ = some (.int .i64 0) ∧ X.cell? ⟨w.heap.size + 1, 8, none⟩ = some (.int .i64 0) ∧ X.cell? ⟨w.heap.size + 1, 9, none⟩ = some (.int .i64 0) ∧ X.cell? ⟨w.heap.size + 1, 10, none⟩ = some (.int .i64 0) ∧ X.cell? ⟨w.heap.size + 1, 11, none⟩ = some (.int .i64 0)) ∧ ∀ k, X.frozen? ⟨w.heap.size + 1, k, none⟩ = false := by
  obtain ⟨c, f, hz⟩ := rg_cells h.r
  exact ⟨⟨cell_of_row _ _ 0 _ _ _ h.i, cell_of_row _ _ 1 _ _ _ h.i⟩, hz, c, fun k => frozen_of_row _ _ k _ _ h.r⟩
set_option maxRecDepth 100000 in
set_option maxHeartbeats 2000000 in
theorem newRegion_any (x y : Int) (w : World) : Calls Tryd.prog 146 #[.agg #[.int .i64 x, .int .i64 y]] w fun e w' => e = .returned (rgV (rgNew (x, y))) ∧ Below w.heap.size w w' := by
  have HB := Lib.hid (sm_al2 w (inO x y) (rgO ⟨(0, 0), ⟨0, 0, 0, 0, 0⟩, ⟨0, 0, 0, 0, 0⟩⟩))
  have hR0 := heap_alloc_new (w.alloc (inO x y)) (rgO ⟨(0, 0), ⟨0, 0, 0, 0, 0⟩, ⟨0, 0, 0, 0, 0⟩⟩)
  have hI0 := bl_al (heap_alloc_new w (inO x y)) (rgO ⟨(0, 0), ⟨0, 0, 0, 0, 0⟩, ⟨0, 0, 0, 0, 0⟩⟩)
  have HH := Lib.hid (And.intro hI0 hR0)
  clear hR0 hI0
  go_enter Tryd.func146, Tryd.ntmps146
  go_wp2
  generalize (w.alloc (inO x y)).alloc (rgO ⟨(0, 0), ⟨0, 0, 0, 0, 0⟩, ⟨0, 0, 0, 0, 0⟩⟩) = W at *
  have kd : NR w x y W.drew := nr_mk HH.out.1 (by have := HH.out.2; simpa using this) HB.out
  have kk := nr_in kd
  clear HH
  go_split_ands
  go_region_with (go_at_call 162; (with_reducible refine (nothing_any _).mono ?_); rintro e wn ⟨rfl, hbn⟩; have kd := nr_next kd hbn; have kk := nr_in kd; go_split_ands)
  all_goals
    have HW := Lib.hid (And.intro (rg_put kd.r (rgNew (x, y))) (rg_set kd.b (w.heap.size + 1) (by omega) (rgNew (x, y))))
    go_wp2
    exact bodyPost_ret (v := rgV (rgNew (x, y))) (by simp [results, Tryd.results146, go_sem, nr_in kd, rgNew]) rfl ⟨rfl, HW.out.2⟩
end Go.Proofs.YtnehaidkhpjpbaaDoor
