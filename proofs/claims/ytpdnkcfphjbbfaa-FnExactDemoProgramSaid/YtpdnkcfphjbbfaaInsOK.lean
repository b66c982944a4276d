/- InstrOK of impl and of spec; the copies that the laws make of an instruction. -/
import Derived.Test.YtpdnkcfphjbbfaaIns
import Derived.Test.YtpdnkcfphjbbfaaCame
import Derived.Laws.NewBlocks
namespace Go.Proofs.Ytpdnkcfphjbbfaa
open Go.ChangeShapes Go.WideShapes Go.ChangeAt Go.RowKit
theorem below_dn {B : Nat} {a w : World} (h : Below B a w) (q : Nat) : Below B a (w.drewN q) := ⟨h.os, h.tape, h.output, h.size, h.block⟩
/-- A pair that was boxed still lies behind a call. -/
theorem keep_two {w w1 : World} {x y : Value} {t : TypeId} (hb : Below (w.alloc (.cells #[x, y] t)).heap.size (w.alloc (.cells #[x, y] t)) w1) : w1.cell? ⟨w.heap.size, 0, none⟩ = some x ∧ w1.cell? ⟨w.heap.size, 1, none⟩ = some y := by
  have hk : w1.heap[w.heap.size]? = some (.cells #[x, y] t (0, 0)) := (hb.block w.heap.size (by simp)).trans (heap_alloc_new w _)
  exact ⟨cell_of_row _ _ 0 _ _ _ hk, cell_of_row _ _ 1 _ _ _ hk⟩
theorem opLo_ge (k : Nat) : -2147483648 ≤ opLo k := by
  by_cases h : k < 27
  · exact op_cases (p := fun k => -2147483648 ≤ opLo k) (by decide) h
  · unfold opLo
    rw [List.getD, List.getElem?_eq_none (by show 27 ≤ k; omega)]
    decide
theorem opHi_le (k : Nat) : opHi k ≤ 2147483647 := by
  by_cases h : k < 27
  · exact op_cases (p := fun k => opHi k ≤ 2147483647) (by decide) h
  · unfold opHi
    rw [List.getD, List.getElem?_eq_none (by show 27 ≤ k; omega)]
    decide
def okB (n a : Int) : Bool := opB n && (decide (opLo n.toNat ≤ a) && decide (a ≤ opHi n.toNat))
theorem okB_yes {k : Nat} {a : Int} (h : okB (k : Int) a = true) : (1 ≤ k ∧ k ≤ 26) ∧ opLo k ≤ a ∧ a ≤ opHi k := by
  unfold okB at h
  simp only [Bool.and_eq_true, decide_eq_true_iff, Int.toNat_natCast] at h
  have := opB_yes h.1
  exact ⟨by omega, h.2⟩
theorem okB_nat {n a : Int} (h : okB n a = true) : ∃ k : Nat, n = (k : Int) ∧ 1 ≤ k ∧ k ≤ 26 ∧ opLo k ≤ a ∧ a ≤ opHi k := by
  have h1 : opB n = true := by unfold okB at h; simp only [Bool.and_eq_true] at h; exact h.1
  obtain ⟨k, rfl, _, _⟩ := opB_nat h1
  exact ⟨k, rfl, (okB_yes h).1.1, (okB_yes h).1.2, (okB_yes h).2⟩
theorem okB_in {k : Nat} {a : Int} (h1 : 1 ≤ k) (h2 : k ≤ 26) : okB (k : Int) a = (decide (opLo k ≤ a) && decide (a ≤ opHi k)) := by
  unfold okB
  rw [opB_in h1 h2, Bool.true_and, Int.toNat_natCast]
theorem okB_out {n a : Int} (h : opB n = false) : okB n a = false := by unfold okB; rw [h]; rfl
theorem pair_of {α : Type} {l : List α} (h : l.length = 2) : ∃ x y, l = [x, y] := by
  match l, h with
  | [x, y], _ => exact ⟨x, y, rfl⟩
theorem came_instr {W : World} {t : TypeId} {cs : Array Value} {f0 f1 : Field} (ht : Try.prog.underlying t = some (.struct #[f0, f1])) (hc : Try.prog.cellsOf t = 2) (o : f0.offset = 0 ∧ f1.offset = 1) (g : Try.prog.cellsOf f0.type = 1 ∧ Try.prog.cellsOf f1.type = 1) (u : Try.prog.underlying f0.type = some (.int .i64) ∧ Try.prog.underlying f1.type = some (.int .i64)) (h : Came Try.prog W t cs.toList) :
    ∃ n a : Int, cs = #[.int .i64 n, .int .i64 a] ∧ (Lit.int .i64 n).wf = true ∧ (Lit.int .i64 a).wf = true := by
  obtain ⟨hl, hf⟩ := came_struct ht h
  obtain ⟨l⟩ := cs
  obtain ⟨x, y, rfl⟩ := pair_of (hl.trans hc)
  have h0 := hf 0 f0 rfl
  have h1 := hf 1 f1 rfl
  rw [o.1, g.1] at h0
  rw [o.2, g.2] at h1
  obtain ⟨n, e0, w0⟩ := came_int u.1 h0
  obtain ⟨a, e1, w1⟩ := came_int u.2 h1
  simp at e0 e1
  subst e0 e1
  exact ⟨n, a, rfl, w0, w1⟩
end Go.Proofs.Ytpdnkcfphjbbfaa
