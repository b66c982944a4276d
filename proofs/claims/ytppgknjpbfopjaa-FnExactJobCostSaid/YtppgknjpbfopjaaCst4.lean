/- The exact laws of SummaryOK, OneCost, Behind, Either, Times, LongestOf. -/
import Derived.Test.YtppgknjpbfopjaaCst3
import Derived.Test.YtppgknjpbfopjaaCame
import Derived.Deep.RegionHeld3
import Derived.Deep.DeepCutAuto
namespace Go.Proofs.Ytppgknjpbfopjaa
open Go.ChangeShapes Go.WideShapes Go.ChangeAt Go.RowKit
set_option linter.unusedVariables false
abbrev lsO (a : SM) : Obj := .cells #[.int .i64 a.t, .int .i64 a.n, .int .i64 a.h, .int .i64 a.l, .int .i64 a.i] 23
theorem five_of {α : Type} {l : List α} (h : l.length = 5) : ∃ x y z u v, l = [x, y, z, u, v] := by
  match l, h with
  | [x, y, z, u, v], _ => exact ⟨x, y, z, u, v, rfl⟩
theorem cSum : Try.prog.cellsOf 23 = 5 := by kernel_rfl
theorem cSumI : Try.prog.cellsOf 3 = 1 := by kernel_rfl
theorem came_struct5 {P : Program} {W : World} {t : TypeId} {cs : Array Value} {f0 f1 f2 f3 f4 : Field} (ht : P.underlying t = some (.struct #[f0, f1, f2, f3, f4])) (hc : P.cellsOf t = 5)
    (o : f0.offset = 0 ∧ f1.offset = 1 ∧ f2.offset = 2 ∧ f3.offset = 3 ∧ f4.offset = 4) (g : P.cellsOf f0.type = 1 ∧ P.cellsOf f1.type = 1 ∧ P.cellsOf f2.type = 1 ∧ P.cellsOf f3.type = 1 ∧ P.cellsOf f4.type = 1) (h : Came P W t cs.toList) :
    ∃ x y z u v, cs = #[x, y, z, u, v] ∧ Came P W f0.type [x] ∧ Came P W f1.type [y] ∧ Came P W f2.type [z] ∧ Came P W f3.type [u] ∧ Came P W f4.type [v] := by
  obtain ⟨hl, hf⟩ := came_struct ht h
  obtain ⟨l⟩ := cs
  obtain ⟨x, y, z, u, v, rfl⟩ := five_of (hl.trans hc)
  have h0 := hf 0 f0 rfl
  have h1 := hf 1 f1 rfl
  have h2 := hf 2 f2 rfl
  have h3 := hf 3 f3 rfl
  have h4 := hf 4 f4 rfl
  rw [o.1, g.1] at h0
  rw [o.2.1, g.2.1] at h1
  rw [o.2.2.1, g.2.2.1] at h2
  rw [o.2.2.2.1, g.2.2.2.1] at h3
  rw [o.2.2.2.2, g.2.2.2.2] at h4
  exact ⟨x, y, z, u, v, rfl, h0, h1, h2, h3, h4⟩
theorem came_sm {W : World} {cs : Array Value} (h : Came Try.prog W 23 cs.toList) : ∃ a : SM, Value.agg cs = smV a := by
  obtain ⟨x, y, z, u, v, rfl, h0, h1, h2, h3, h4⟩ := came_struct5 Try.underlying23 cSum ⟨rfl, rfl, rfl, rfl, rfl⟩ ⟨cSumI, cSumI, cSumI, cSumI, cSumI⟩ h
  obtain ⟨t, e0, w0⟩ := came_int Try.underlying3 h0
  obtain ⟨n, e1, w1⟩ := came_int Try.underlying3 h1
  obtain ⟨hh, e2, w2⟩ := came_int Try.underlying3 h2
  obtain ⟨l, e3, w3⟩ := came_int Try.underlying3 h3
  obtain ⟨i, e4, w4⟩ := came_int Try.underlying3 h4
  simp only [List.cons.injEq, and_true] at e0 e1 e2 e3 e4
  subst e0 e1 e2 e3 e4
  exact ⟨⟨t, n, hh, l, i⟩, rfl⟩
/-- A block behind a call. -/
theorem blk_bel {w1 w2 : World} {k : Nat} {Q : Obj} (h : w1.heap[k]? = some Q) (g : Below w1.heap.size w1 w2) : w2.heap[k]? = some Q := (g.block _ (Array.getElem?_eq_some_iff.1 h).1).trans h
theorem blk_al {w : World} {k : Nat} {Q : Obj} (h : w.heap[k]? = some Q) (O : Obj) : (w.alloc O).heap[k]? = some Q := bl_al h O
theorem toSummary_any (a : SM) (w : World) : Calls Try.prog 7 #[smV a] w fun e w' => e = .returned (smV a) ∧ Below w.heap.size w w' := by
  go_enter Try.func7, Try.ntmps7
  go_wp2
  refine bodyPost_ret (v := smV a) (by simp [results, Try.results7, go_sem]) rfl ⟨rfl, sm_al3 w _ _ _⟩
theorem eqSummary_same (a : SM) (w : World) : Calls Try.prog 9 #[smV a, smV a] w fun e w' => e = .returned (.bool true) ∧ Below w.heap.size w w' := by
  have e1 : (a.t != a.t) = false := by simp
  have e2 : (a.n != a.n) = false := by simp
  have e3 : (a.h != a.h) = false := by simp
  have e4 : (a.l != a.l) = false := by simp
  have e5 : (a.i != a.i) = false := by simp
  go_enter Try.func9, Try.ntmps9
  go_wp2
  go_ret
  exact ⟨rfl, sm_al2 w _ _⟩
end Go.Proofs.Ytppgknjpbfopjaa
