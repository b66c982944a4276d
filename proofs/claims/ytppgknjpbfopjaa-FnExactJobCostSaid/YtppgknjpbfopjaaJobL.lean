/- The exact law of JobCost. (Written by tools/gen_job.py.) -/
import Derived.Test.YtppgknjpbfopjaaCst4
import Derived.Test.YtppgknjpbfopjaaJob
namespace Go.Proofs.Ytppgknjpbfopjaa
open Go.ChangeShapes Go.WideShapes Go.ChangeAt Go.RowKit
theorem FnExactJobCost_walk (a : SM) (w : World) : Calls Try.prog 3 #[smV a] w fun e w' => e = .returned (.bool true) ∧ Below w.heap.size w w' := by
  have HI := Lib.hid (fun w => JobCost_any a w)
  have HS := Lib.hid (fun w => specJobCost_any a w)
  have HT := Lib.hid (fun w => toSummary_any a w)
  have Hb := Lib.hid (sm_al w (lsO a))
  have K := Lib.hid (heap_alloc_new w (lsO a))
  generalize jobF a = R at *
  obtain ⟨q, r⟩ := R
  have e2 : (r != r) = false := by simp
  go_enter Try.func3, Try.ntmps3
  go_wp2_with fail
  refine Calls.mono (HT.out _) ?_
  rintro e w1 ⟨rfl, hb1⟩
  have K1 := Lib.hid (blk_bel K.out hb1)
  have Hb1 := Lib.hid (Hb.out.trans (hb1.mono Hb.out.size))
  clear hb1
  go_wp2_with fail
  refine Calls.mono (HS.out _) ?_
  rintro e w2 ⟨rfl, hb2⟩
  have K2 := Lib.hid (blk_al (blk_bel K1.out hb2) (smO q))
  have L2 := Lib.hid (heap_alloc_new w2 (smO q))
  have hb2' := (Hb1.out.trans (hb2.mono Hb1.out.size))
  have Hb2 := Lib.hid (hb2'.alloc hb2'.size (smO q))
  obtain ⟨⟨c0, c1, c2, c3, c4⟩, -, hz⟩ := sm_cells (blk_bel K1.out hb2)
  clear hb2 hb2'
  go_wp2_with fail
  refine Calls.mono (HT.out _) ?_
  rintro e w3 ⟨rfl, hb3⟩
  have L3 := Lib.hid (blk_bel L2.out hb3)
  have Hb3 := Lib.hid (Hb2.out.trans (hb3.mono Hb2.out.size))
  clear hb3 c0 c1 c2 c3 c4 hz
  go_wp2_with fail
  refine Calls.mono (HI.out _) ?_
  rintro e w4 ⟨rfl, hb4⟩
  have L4 := Lib.hid (blk_bel L3.out hb4)
  have Hb4 := Lib.hid (Hb3.out.trans (hb4.mono Hb3.out.size))
  obtain ⟨⟨c0, c1, c2, c3, c4⟩, -, hz⟩ := sm_cells L4.out
  clear hb4
  go_wp2_with fail
  refine Calls.mono (eqSummary_same _ _) ?_
  rintro e w5 ⟨rfl, hb5⟩
  have Hb5 := Lib.hid ((Hb4.out.alloc Hb4.out.size (smO q)).trans (hb5.mono (Hb4.out.alloc Hb4.out.size (smO q)).size))
  clear hb5 c0 c1 c2 c3 c4 hz
  go_wp2
  go_ret
  exact ⟨rfl, Hb5.out⟩
theorem FnExactJobCost_came (cs : Array Value) (W : World) (h : Came Try.prog W 23 cs.toList) : Calls Try.prog 3 #[.agg cs] W fun e w' => e = .returned (.bool true) ∧ Below W.heap.size W w' := by
  obtain ⟨a, e⟩ := came_sm h
  rw [e]
  exact FnExactJobCost_walk a W
end Go.Proofs.Ytppgknjpbfopjaa
