/- The verifier of spec: a walk's memory; its floor; structures. -/
import Derived.Test.YtbbhoaljldgjeaaDoorSpec
namespace Go.Proofs.YtbbhoaljldgjeaaDoor
open Go.ChangeShapes Go.WideShapes Go.ChangeAt Go.RowKit
set_option linter.unusedVariables false
def spC (o : VO) : List Value := [.int .i64 o.pos, .int .i64 o.op, .string (bs o.stk)]
theorem spC_len (o : VO) : (spC o).length = 3 := rfl
abbrev swO (S : ByteArray) (a : Option Addr) (n c : Nat) : Obj := .cells #[.string S, .slice a n c] 73
structure SAt (B p : Nat) (a : Option Addr) (n c : Nat) (v : VW) (w : World) : Prop where
  base : B ≤ p
  blk : w.heap[p]? = some (swO (bs v.stk) a n c)
  opens : w.ownsRow B 102 3 (.slice a n c) n (flat spC v.opn)
def SStat (B p : Nat) (v : VW) (w : World) : Prop := ∃ a n c, SAt B p a n c v w
section
variable {B p : Nat} {a : Option Addr} {n c : Nat} {v : VW} {w w' : World}
theorem SAt.olen (h : SAt B p a n c v w) : v.opn.length = n := by
  have := h.opens.1
  rw [flat_len spC_len] at this
  omega
theorem SAt.plt (h : SAt B p a n c v w) : p < w.heap.size := (Array.getElem?_eq_some_iff.1 h.blk).1
theorem SAt.low (h : SAt B p a n c v w) : B ≤ w.heap.size := Nat.le_of_lt (Nat.lt_of_le_of_lt h.base h.plt)
theorem SAt.cells (h : SAt B p a n c v w) : w.cell? ⟨p, 0, none⟩ = some (.string (bs v.stk)) ∧ w.cell? ⟨p, 1, none⟩ = some (.slice a n c) := ⟨cell_of_row _ _ 0 _ _ _ h.blk, cell_of_row _ _ 1 _ _ _ h.blk⟩
theorem SAt.frozen (h : SAt B p a n c v w) (k : Nat) : w.frozen? ⟨p, k, none⟩ = false := frozen_of_row _ _ k _ _ h.blk
theorem SAt.neo (h : SAt B p a n c v w) : Value.ownBlock (.slice a n c) ≠ some p := own_ne h.opens h.blk (by decide)
theorem SAt.bel (h : SAt B p a n c v w) (hb : Below w.heap.size w w') : SAt B p a n c v w' := ⟨h.base, (hb.block p h.plt).trans h.blk, own_bl h.opens hb⟩
theorem SAt.dn (h : SAt B p a n c v w) (q : Nat) : SAt B p a n c v (w.drewN q) := ⟨h.base, h.blk, h.opens⟩
theorem SAt.row {st : List UInt8} {os : List VO} {o : VO} (h : SAt B p a n c ⟨st, os ++ [o]⟩ w) : ∃ g m, a = some ⟨g, 0, none⟩ ∧ n = m + 1 ∧ os.length = m ∧ m + 1 ≤ c := by
  have hl := h.olen
  simp only [List.length_append, List.length_singleton] at hl
  rcases h.opens.2 with ⟨_, h0⟩ | ⟨g, cap, cur, e, _, _, hc, _⟩
  · omega
  · simp only [Value.slice.injEq] at e
    obtain ⟨rfl, _, rfl⟩ := e
    exact ⟨g, os.length, rfl, hl.symm, rfl, by omega⟩
theorem SAt.last {st : List UInt8} {os : List VO} {o : VO} {g m : Nat} (h : SAt B p (some ⟨g, 0, none⟩) (m + 1) c ⟨st, os ++ [o]⟩ w) :
    w.cell? ⟨g, m * 3, none⟩ = some (.int .i64 o.pos) ∧ w.cell? ⟨g, m * 3 + 1, none⟩ = some (.int .i64 o.op) ∧ w.cell? ⟨g, m * 3 + 2, none⟩ = some (.string (bs o.stk)) ∧ ∀ k, w.frozen? ⟨g, k, none⟩ = false := by
  have hl : os.length = m := by have := h.olen; simp at this; omega
  have hat : ∀ j, j < 3 → w.cell? ⟨g, m * 3 + j, none⟩ = (spC o)[j]? := fun j hj => by
    rw [h.opens.cellAt _ (by omega)]
    exact flat_at spC_len (show (os ++ [o])[m]? = some o by rw [← hl]; simp) hj
  exact ⟨hat 0 (by omega), hat 1 (by omega), hat 2 (by omega), fun k => h.opens.frozenAt k⟩
/-- The stack is another. -/
theorem SAt.stacked (h : SAt B p a n c v w) (st : List UInt8) (q : Nat) : SAt B p a n c ⟨st, v.opn⟩ ((w.drewN q).setCell ⟨p, 0, none⟩ (.string (bs st))) ∧ Below B w ((w.drewN q).setCell ⟨p, 0, none⟩ (.string (bs st))) :=
  ⟨⟨h.base, by simpa using wk_set (h.dn q).blk 0 (.string (bs st)), ownsRow_setCell_other (h.dn q).opens h.neo _⟩, (bel_dn (Below.refl B w) q).setCell (p := ⟨p, 0, none⟩) h.base _⟩
theorem SAt.closed {st : List UInt8} {os : List VO} {o : VO} {g m : Nat} (h : SAt B p (some ⟨g, 0, none⟩) (m + 1) c ⟨st, os ++ [o]⟩ w) (q : Nat) :
    SAt B p (some ⟨g, 0, none⟩) m c ⟨st, os⟩ ((w.drewN q).setCell ⟨p, 1, none⟩ (.slice (some ⟨g, 0, none⟩) m c)) ∧ Below B w ((w.drewN q).setCell ⟨p, 1, none⟩ (.slice (some ⟨g, 0, none⟩) m c)) := by
  have hl := h.olen
  have ho : w.ownsRow B 102 3 (.slice (some ⟨g, 0, none⟩) (m + 1) c) (m + 1) (flat spC os ++ spC o) := by
    have := h.opens
    rwa [flat_snoc] at this
  refine ⟨⟨h.base, by simpa using wk_set (h.dn q).blk 1 (.slice (some ⟨g, 0, none⟩) m c), ownsRow_setCell_other (a := ⟨p, 1, none⟩) (own_dn (own_less ho (by rw [flat_len spC_len]; simp at hl; omega)) q) (show Value.ownBlock (.slice (some ⟨g, 0, none⟩) m c) ≠ some p from h.neo) _⟩, ?_⟩
  exact (bel_dn (Below.refl B w) q).setCell (p := ⟨p, 1, none⟩) h.base _
theorem sp_last {os : List VO} {o : VO} {m : Nat} (hm : os.length = m) (k : Int) : (flat spC (os ++ [o])).set (m * 3 + 1) (.int .i64 k) = flat spC (os ++ [⟨o.pos, k, o.stk⟩]) := by
  rw [flat_snoc, flat_snoc, List.set_append_right _ _ (by rw [flat_len spC_len]; omega), flat_len spC_len, hm, show m * 3 + 1 - m * 3 = 1 by omega]
  rfl
theorem SAt.elsed {st : List UInt8} {os : List VO} {o : VO} {g m : Nat} (h : SAt B p (some ⟨g, 0, none⟩) (m + 1) c ⟨st, os ++ [o]⟩ w) (q : Nat) (k : Int) :
    SAt B p (some ⟨g, 0, none⟩) (m + 1) c ⟨st, os ++ [⟨o.pos, k, o.stk⟩]⟩ ((w.drewN q).setCell ⟨g, m * 3 + 1, none⟩ (.int .i64 k)) ∧ Below B w ((w.drewN q).setCell ⟨g, m * 3 + 1, none⟩ (.int .i64 k)) := by
  have hl : os.length = m := by have := h.olen; simp at this; omega
  have hst := ((h.dn q).opens.stored (m * 3 + 1) (.int .i64 k)).1
  rw [sp_last hl] at hst
  have hgp : g ≠ p := fun e => h.neo (by simp [Value.ownBlock, e])
  refine ⟨⟨h.base, ?_, hst⟩, (bel_dn (Below.refl B w) q).setCell (p := ⟨g, m * 3 + 1, none⟩) (h.opens.lt g rfl).1 _⟩
  rw [heap_setCell_other _ _ _ _ (fun e => hgp e.symm)]
  exact (h.dn q).blk
/-- What an opening leaves. -/
def SOpened (B p n c : Nat) (a : Option Addr) (xs z : List Value) (w w' : World) : Prop :=
  ∃ a2 c2 w1 O O', w1.ownsRow B 102 3 (.slice a2 (n + 1) c2) (n + 1) (xs ++ z) ∧ ((w.alloc O).alloc O').grownBy w1 (Value.ownBlock (.slice a n c)) ∧ w' = w1.setCell ⟨p, 1, none⟩ (.slice a2 (n + 1) c2)
theorem SAt.opened {z : VO} (h : SAt B p a n c v w) (g : SOpened B p n c a (flat spC v.opn) (spC z) w w') : SStat B p ⟨v.stk, v.opn ++ [z]⟩ w' ∧ Below B w w' := by
  obtain ⟨a2, c2, w1, O, O', ho, hg, rfl⟩ := g
  have hp : w1.heap[p]? = some (swO (bs v.stk) a n c) := (hg.block p (by have := h.plt; simp; omega) (fun e => h.neo e.symm)).trans ((Below.heap_alloc _ O' p (by have := h.plt; simp; omega)).trans ((Below.heap_alloc w O p h.plt).trans h.blk))
  refine ⟨⟨a2, n + 1, c2, h.base, by simpa using wk_set hp 1 (.slice a2 (n + 1) c2), ?_⟩, ?_⟩
  · rw [← flat_snoc] at ho
    exact ownsRow_setCell_other ho (own_ne ho hp (by decide)) _
  · have hb := ((Below.refl B w).alloc h.low O).alloc (by have := h.low; simp; omega) O'
    exact (hb.grown hg (by have := h.low; simp; omega) (fun k hk => (h.opens.lt k hk).1)).setCell (p := ⟨p, 1, none⟩) h.base _
end
theorem sfloor_none (p c : Nat) (a : Option Addr) (w : World) (h : w.cell? ⟨p, 1, none⟩ = some (.slice a 0 c)) :
    Calls Tryd.prog 73 #[.pointer (some ⟨p, 0, none⟩)] w fun e w' => e = .returned (.int .i64 0) ∧ ∃ q, w' = w.drewN q := by
  go_enter Tryd.func73, Tryd.ntmps73
  go_wp2
  go_ret
  exact ⟨rfl, 0, rfl⟩
theorem sfloor_some (p g m c : Nat) (s : ByteArray) (hm : m + 1 ≤ 100) (w : World) (h : w.cell? ⟨p, 1, none⟩ = some (.slice (some ⟨g, 0, none⟩) (m + 1) c)) (hk : w.cell? ⟨g, m * 3 + 2, none⟩ = some (.string s)) :
    Calls Tryd.prog 73 #[.pointer (some ⟨p, 0, none⟩)] w fun e w' => e = .returned (.int .i64 s.size) ∧ ∃ q, w' = w.drewN q := by
  have h1 : ((m : Int) + 1 == 0) = false := by rw [beq_eq_false_iff_ne]; omega
  go_enter Tryd.func73, Tryd.ntmps73
  go_wp2
  go_quiet (fail)
  go_wp2
  go_ret
  exact ⟨rfl, _, rfl⟩
theorem sfloor_any {B p : Nat} {v : VW} {w : World} (h : SStat B p v w) (hp : v.pre) : Calls Tryd.prog 73 #[.pointer (some ⟨p, 0, none⟩)] w fun e w' => e = .returned (.int .i64 v.floor) ∧ ∃ q, w' = w.drewN q := by
  obtain ⟨a, n, c, h⟩ := h
  obtain ⟨st, opn⟩ := v
  rcases opn_cases opn with rfl | ⟨os, o, rfl⟩
  · have hl := h.olen
    simp at hl
    subst hl
    exact sfloor_none p c a w h.cells.2
  · obtain ⟨g, m, rfl, rfl, hm, hc⟩ := h.row
    have h4 := hp.o4
    simp at h4 hm
    have := sfloor_some p g m c (bs o.stk) (by omega) w h.cells.2 h.last.2.2.1
    rw [bs_size] at this
    rw [floor_snoc]
    exact this
end Go.Proofs.YtbbhoaljldgjeaaDoor
