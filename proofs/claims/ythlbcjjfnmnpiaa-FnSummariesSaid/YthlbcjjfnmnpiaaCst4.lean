/- The exact laws of SummaryOK, OneCost, Behind, Either, Times, LongestOf. -/
import Derived.Test.YthlbcjjfnmnpiaaCst3
import Derived.Test.YthlbcjjfnmnpiaaCame
import Derived.Deep.RegionHeld3
import Derived.Deep.DeepCutAuto
namespace Go.Proofs.Ythlbcjjfnmnpiaa
open Go.ChangeShapes Go.WideShapes Go.ChangeAt Go.RowKit
set_option linter.unusedVariables false
abbrev lsO (a : SM) : Obj := .cells #[.int .i64 a.t, .int .i64 a.n, .int .i64 a.h, .int .i64 a.l, .int .i64 a.i] 33
theorem five_of {α : Type} {l : List α} (h : l.length = 5) : ∃ x y z u v, l = [x, y, z, u, v] := by
  match l, h with
  | [x, y, z, u, v], _ => exact ⟨x, y, z, u, v, rfl⟩
theorem cSum : Try.prog.cellsOf 33 = 5 := by kernel_rfl
theorem cSumI : Try.prog.cellsOf 3 = 1 := by kernel_rfl
theorem came_struct5 {P : Program} {W : World} {t : TypeId} {cs : Array Value} {f0 f1 f2 f3 f4 : Field} (ht : P.underlying t = some (.struct #[f0, f1, f2, f3, f4])) (hc : P.cellsOf t = 5)
    (o : f0.offset = 0 ∧ f1.offset = 1 ∧ f2.offset = 2 ∧ f3.offset = 3 ∧ f4.offset = 4) (g : P.cellsOf f0.type = 1 ∧ P.cellsOf f1.type = 1 ∧ P.cellsOf f2.type = 1 ∧ P.cellsOf f3.type = 1 ∧ P.cellsOf f4.type = 1) (h : Came P W t cs.toList) :
    ∃ x y z u v, cs = #[x, y, z, u, v] ∧ Came P W f0.type [x] ∧ Came P W f1.type [y] ∧ Came P W f2.type [z] ∧ Came P W f3.type [u] ∧ Came P W f4.type [v] := by
  obtain ⟨hl, hf⟩ := came_struct ht h
  obtain ⟨l⟩ := cs
  obtain ⟨x, y, z, u, v, rfl⟩ := five_of (hl.trans hc)
  have h0 := hf 0 f0 rfl
  have h1 := hf 1 f1 rfl
  have h2 := hf 2 f2 rfl
  have h3 := hf 3 f3 rfl
  have h4 := hf 4 f4 rfl
  rw [o.1, g.1] at h0
  rw [o.2.1, g.2.1] at h1
  rw [o.2.2.1, g.2.2.1] at h2
  rw [o.2.2.2.1, g.2.2.2.1] at h3
  rw [o.2.2.2.2, g.2.2.2.2] at h4
  exact ⟨x, y, z, u, v, rfl, h0, h1, h2, h3, h4⟩
theorem came_sm {W : World} {cs : Array Value} (h : Came Try.prog W 33 cs.toList) : ∃ a : SM, Value.agg cs = smV a := by
  obtain ⟨x, y, z, u, v, rfl, h0, h1, h2, h3, h4⟩ := came_struct5 Try.underlying33 cSum ⟨rfl, rfl, rfl, rfl, rfl⟩ ⟨cSumI, cSumI, cSumI, cSumI, cSumI⟩ h
  obtain ⟨t, e0, w0⟩ := came_int Try.underlying3 h0
  obtain ⟨n, e1, w1⟩ := came_int Try.underlying3 h1
  obtain ⟨hh, e2, w2⟩ := came_int Try.underlying3 h2
  obtain ⟨l, e3, w3⟩ := came_int Try.underlying3 h3
  obtain ⟨i, e4, w4⟩ := came_int Try.underlying3 h4
  simp only [List.cons.injEq, and_true] at e0 e1 e2 e3 e4
  subst e0 e1 e2 e3 e4
  exact ⟨⟨t, n, hh, l, i⟩, rfl⟩
/-- A block behind a call. -/
theorem blk_bel {w1 w2 : World} {k : Nat} {Q : Obj} (h : w1.heap[k]? = some Q) (g : Below w1.heap.size w1 w2) : w2.heap[k]? = some Q := (g.block _ (Array.getElem?_eq_some_iff.1 h).1).trans h
theorem blk_al {w : World} {k : Nat} {Q : Obj} (h : w.heap[k]? = some Q) (O : Obj) : (w.alloc O).heap[k]? = some Q := bl_al h O
theorem toSummary_any (a : SM) (w : World) : Calls Try.prog 20 #[smV a] w fun e w' => e = .returned (smV a) ∧ Below w.heap.size w w' := by
  go_enter Try.func20, Try.ntmps20
  go_wp2
  refine bodyPost_ret (v := smV a) (by simp [results, Try.results20, go_sem]) rfl ⟨rfl, sm_al3 w _ _ _⟩
theorem eqSummary_same (a : SM) (w : World) : Calls Try.prog 22 #[smV a, smV a] w fun e w' => e = .returned (.bool true) ∧ Below w.heap.size w w' := by
  have e1 : (a.t != a.t) = false := by simp
  have e2 : (a.n != a.n) = false := by simp
  have e3 : (a.h != a.h) = false := by simp
  have e4 : (a.l != a.l) = false := by simp
  have e5 : (a.i != a.i) = false := by simp
  go_enter Try.func22, Try.ntmps22
  go_wp2
  go_ret
  exact ⟨rfl, sm_al2 w _ _⟩
theorem FnExactSummaryOK_walk (a : SM) (w : World) : Calls Try.prog 4 #[smV a] w fun e w' => e = .returned (.bool true) ∧ Below w.heap.size w w' := by
  have HI := Lib.hid (fun w => summaryOK_any a w)
  have HS := Lib.hid (fun w => specSummaryOK_any a w)
  have HT := Lib.hid (fun w => toSummary_any a w)
  have Hb := Lib.hid (sm_al w (lsO a))
  have K := Lib.hid (heap_alloc_new w (lsO a))
  generalize smOK a = q at *
  go_enter Try.func4, Try.ntmps4
  go_wp2_with fail
  refine Calls.mono (HT.out _) ?_
  rintro e w1 ⟨rfl, hb1⟩
  have K1 := Lib.hid (blk_bel K.out hb1)
  have Hb1 := Lib.hid (Hb.out.trans (hb1.mono Hb.out.size))
  clear hb1
  go_wp2_with fail
  refine Calls.mono (HS.out _) ?_
  rintro e w2 ⟨rfl, hb2⟩
  have K2 := Lib.hid (blk_bel K1.out hb2)
  have Hb2 := Lib.hid (Hb1.out.trans (hb2.mono Hb1.out.size))
  obtain ⟨⟨c0, c1, c2, c3, c4⟩, -, hz⟩ := sm_cells K2.out
  clear hb2
  go_wp2_with fail
  refine Calls.mono (HT.out _) ?_
  rintro e w3 ⟨rfl, hb3⟩
  have Hb3 := Lib.hid (Hb2.out.trans (hb3.mono Hb2.out.size))
  clear hb3 c0 c1 c2 c3 c4 hz
  go_wp2_with fail
  refine Calls.mono (HI.out _) ?_
  rintro e w4 ⟨rfl, hb4⟩
  have Hb4 := Lib.hid (Hb3.out.trans (hb4.mono Hb3.out.size))
  clear hb4
  have e1 : (q != q) = false := by simp
  go_wp2
  go_ret
  exact ⟨rfl, Hb4.out⟩
theorem FnExactSummaryOK_came (cs : Array Value) (W : World) (h : Came Try.prog W 33 cs.toList) : Calls Try.prog 4 #[.agg cs] W fun e w' => e = .returned (.bool true) ∧ Below W.heap.size W w' := by
  obtain ⟨a, e⟩ := came_sm h
  rw [e]
  exact FnExactSummaryOK_walk a W
theorem FnExactLongestOf_walk (a : SM) (w : World) : Calls Try.prog 9 #[smV a] w fun e w' => e = .returned (.bool true) ∧ Below w.heap.size w w' := by
  have HI := Lib.hid (fun w => LongestOf_any a w)
  have HS := Lib.hid (fun w => specLongestOf_any a w)
  have HT := Lib.hid (fun w => toSummary_any a w)
  have Hb := Lib.hid (sm_al w (lsO a))
  have K := Lib.hid (heap_alloc_new w (lsO a))
  generalize (longF a).1 = q at *
  generalize (longF a).2 = r at *
  go_enter Try.func9, Try.ntmps9
  go_wp2_with fail
  refine Calls.mono (HT.out _) ?_
  rintro e w1 ⟨rfl, hb1⟩
  have K1 := Lib.hid (blk_bel K.out hb1)
  have Hb1 := Lib.hid (Hb.out.trans (hb1.mono Hb.out.size))
  clear hb1
  go_wp2_with fail
  refine Calls.mono (HS.out _) ?_
  rintro e w2 ⟨rfl, hb2⟩
  have K2 := Lib.hid (blk_bel K1.out hb2)
  have Hb2 := Lib.hid (Hb1.out.trans (hb2.mono Hb1.out.size))
  obtain ⟨⟨c0, c1, c2, c3, c4⟩, -, hz⟩ := sm_cells K2.out
  clear hb2
  go_wp2_with fail
  refine Calls.mono (HT.out _) ?_
  rintro e w3 ⟨rfl, hb3⟩
  have Hb3 := Lib.hid (Hb2.out.trans (hb3.mono Hb2.out.size))
  clear hb3 c0 c1 c2 c3 c4 hz
  go_wp2_with fail
  refine Calls.mono (HI.out _) ?_
  rintro e w4 ⟨rfl, hb4⟩
  have Hb4 := Lib.hid (Hb3.out.trans (hb4.mono Hb3.out.size))
  clear hb4
  have e1 : (q != q) = false := by simp
  have e2 : (r != r) = false := by simp
  go_wp2
  go_ret
  exact ⟨rfl, Hb4.out⟩
theorem FnExactLongestOf_came (cs : Array Value) (W : World) (h : Came Try.prog W 33 cs.toList) : Calls Try.prog 9 #[.agg cs] W fun e w' => e = .returned (.bool true) ∧ Below W.heap.size W w' := by
  obtain ⟨a, e⟩ := came_sm h
  rw [e]
  exact FnExactLongestOf_walk a W
theorem FnExactOneCost_came (n : Int) (c : Bool) (W : World) (_ : (Lit.int .i64 n).wf = true) : Calls Try.prog 5 #[.int .i64 n, .bool c] W fun e w' => e = .returned (.bool true) ∧ Below W.heap.size W w' := by
  have HI := Lib.hid (fun w => OneCost_any n c w)
  have HS := Lib.hid (fun w => specOneCost_any n c w)
  generalize oneF n c = R at *
  obtain ⟨q, r⟩ := R
  have e2 : (r != r) = false := by simp
  go_enter Try.func5, Try.ntmps5
  go_wp2_with fail
  refine Calls.mono (HS.out _) ?_
  rintro e w1 ⟨rfl, hb1⟩
  have K1 := Lib.hid (heap_alloc_new w1 (smO q))
  have Hb1 := Lib.hid (hb1.alloc hb1.size (smO q))
  have hz1 : w1.heap.size < (w1.alloc (smO q)).heap.size := by simp
  clear hb1
  go_wp2_with fail
  refine Calls.mono (HI.out _) ?_
  rintro e w2 ⟨rfl, hb2⟩
  have K2 := Lib.hid (blk_bel K1.out hb2)
  have Hb2 := Lib.hid ((Hb1.out.trans (hb2.mono Hb1.out.size)))
  obtain ⟨⟨c0, c1, c2, c3, c4⟩, -, hz⟩ := sm_cells K2.out
  clear hb2 hz1
  go_wp2_with fail
  refine Calls.mono (eqSummary_same _ _) ?_
  rintro e w3 ⟨rfl, hb3⟩
  have Hb3 := Lib.hid ((Hb2.out.alloc Hb2.out.size (smO q)).trans (hb3.mono (Hb2.out.alloc Hb2.out.size (smO q)).size))
  clear hb3 c0 c1 c2 c3 c4 hz
  go_wp2
  go_ret
  exact ⟨rfl, Hb3.out⟩
theorem FnExactTimes_walk (a : SM) (n : Int) (w : World) : Calls Try.prog 8 #[smV a, .int .i64 n] w fun e w' => e = .returned (.bool true) ∧ Below w.heap.size w w' := by
  have HI := Lib.hid (fun w => Times_any a n w)
  have HS := Lib.hid (fun w => specTimes_any a n w)
  have HT := Lib.hid (fun w => toSummary_any a w)
  have Hb := Lib.hid (sm_al w (lsO a))
  have K := Lib.hid (heap_alloc_new w (lsO a))
  generalize timsF a n = R at *
  obtain ⟨q, r⟩ := R
  have e2 : (r != r) = false := by simp
  go_enter Try.func8, Try.ntmps8
  go_wp2_with fail
  refine Calls.mono (HT.out _) ?_
  rintro e w1 ⟨rfl, hb1⟩
  have K1 := Lib.hid (blk_bel K.out hb1)
  have Hb1 := Lib.hid (Hb.out.trans (hb1.mono Hb.out.size))
  clear hb1
  go_wp2_with fail
  refine Calls.mono (HS.out _) ?_
  rintro e w2 ⟨rfl, hb2⟩
  have K2 := Lib.hid (blk_al (blk_bel K1.out hb2) (smO q))
  have L2 := Lib.hid (heap_alloc_new w2 (smO q))
  have hb2' := (Hb1.out.trans (hb2.mono Hb1.out.size))
  have Hb2 := Lib.hid (hb2'.alloc hb2'.size (smO q))
  obtain ⟨⟨c0, c1, c2, c3, c4⟩, -, hz⟩ := sm_cells (blk_bel K1.out hb2)
  clear hb2 hb2'
  go_wp2_with fail
  refine Calls.mono (HT.out _) ?_
  rintro e w3 ⟨rfl, hb3⟩
  have L3 := Lib.hid (blk_bel L2.out hb3)
  have Hb3 := Lib.hid (Hb2.out.trans (hb3.mono Hb2.out.size))
  clear hb3 c0 c1 c2 c3 c4 hz
  go_wp2_with fail
  refine Calls.mono (HI.out _) ?_
  rintro e w4 ⟨rfl, hb4⟩
  have L4 := Lib.hid (blk_bel L3.out hb4)
  have Hb4 := Lib.hid (Hb3.out.trans (hb4.mono Hb3.out.size))
  obtain ⟨⟨c0, c1, c2, c3, c4⟩, -, hz⟩ := sm_cells L4.out
  clear hb4
  go_wp2_with fail
  refine Calls.mono (eqSummary_same _ _) ?_
  rintro e w5 ⟨rfl, hb5⟩
  have Hb5 := Lib.hid ((Hb4.out.alloc Hb4.out.size (smO q)).trans (hb5.mono (Hb4.out.alloc Hb4.out.size (smO q)).size))
  clear hb5 c0 c1 c2 c3 c4 hz
  go_wp2
  go_ret
  exact ⟨rfl, Hb5.out⟩
theorem FnExactTimes_came (cs : Array Value) (n : Int) (W : World) (h : Came Try.prog W 33 cs.toList) (_ : (Lit.int .i64 n).wf = true) : Calls Try.prog 8 #[.agg cs, .int .i64 n] W fun e w' => e = .returned (.bool true) ∧ Below W.heap.size W w' := by
  obtain ⟨a, e⟩ := came_sm h
  rw [e]
  exact FnExactTimes_walk a n W
end Go.Proofs.Ythlbcjjfnmnpiaa
