/- Behind, Either, Times, LongestOf, OneCost of impl and of spec. -/
import Derived.Test.YthlbcjjfnmnpiaaCst2
namespace Go.Proofs.Ythlbcjjfnmnpiaa
open Go.ChangeShapes Go.WideShapes Go.ChangeAt Go.RowKit
abbrev sm0 : SM := ⟨0, 0, 0, 0, 0⟩
def behF (a b : SM) : SM × Int := if (smOK a && smOK b) = true then (beh a b, 0) else (sm0, 1)
def eithF (a b : SM) : SM × Int := if (smOK a && smOK b) = true then (eith a b, 0) else (sm0, 1)
def timsF (a : SM) (n : Int) : SM × Int := if smOK a = true then (if 0 ≤ n ∧ n ≤ 20 then (tims a n.toNat, 0) else (sm0, 4)) else (sm0, 1)
def longF (a : SM) : Int × Int := if smOK a = true then (longest a, 0) else (0, 1)
def oneF (n : Int) (c : Bool) : SM × Int := if inZ n 0 2147483647 = true then (one n c, 0) else (sm0, 4)
/-- A summary and a code, as two results. -/
abbrev smR (r : SM × Int) : Value := .tuple #[smV r.1, .int .i64 r.2]
/-- Three blocks of a call's own; what is older is as it was. -/
def Trio (w : World) (O O' O'' : Obj) (w' : World) : Prop := w'.heap[w.heap.size]? = some O ∧ w'.heap[w.heap.size + 1]? = some O' ∧ w'.heap[w.heap.size + 1 + 1]? = some O'' ∧ Below w.heap.size w w'
theorem bl_new (w : World) (cs : Array Value) (t : TypeId) : (w.alloc (.cells cs t)).heap[w.heap.size]? = some (.cells cs t (0, 0)) := heap_alloc_new w _
theorem trio_new (w : World) (a b c : Array Value) (t u v : TypeId) : Trio w (.cells a t) (.cells b u) (.cells c v) (((w.alloc (.cells a t)).alloc (.cells b u)).alloc (.cells c v)) :=
  ⟨bl_al (bl_al (heap_alloc_new w _) _) _, bl_al (by have := heap_alloc_new (w.alloc (.cells a t)) (.cells b u); simpa using this) _, by have := heap_alloc_new ((w.alloc (.cells a t)).alloc (.cells b u)) (.cells c v); simpa using this, sm_al3 w _ _ _⟩
theorem Trio.bel {w w1 w2 : World} {O O' O'' : Obj} (h : Trio w O O' O'' w1) (g : Below w1.heap.size w1 w2) : Trio w O O' O'' w2 :=
  have lt : ∀ {k : Nat} {Q : Obj}, w1.heap[k]? = some Q → w2.heap[k]? = some Q := fun hk => (g.block _ (Array.getElem?_eq_some_iff.1 hk).1).trans hk
  ⟨lt h.1, lt h.2.1, lt h.2.2.1, h.2.2.2.trans (g.mono h.2.2.2.size)⟩
/-- Two blocks. -/
def Duo (w : World) (O O' : Obj) (w' : World) : Prop := w'.heap[w.heap.size]? = some O ∧ w'.heap[w.heap.size + 1]? = some O' ∧ Below w.heap.size w w'
theorem duo_new (w : World) (a b : Array Value) (t u : TypeId) : Duo w (.cells a t) (.cells b u) ((w.alloc (.cells a t)).alloc (.cells b u)) :=
  ⟨bl_al (heap_alloc_new w _) _, by have := heap_alloc_new (w.alloc (.cells a t)) (.cells b u); simpa using this, sm_al2 w _ _⟩
theorem Duo.bel {w w1 w2 : World} {O O' : Obj} (h : Duo w O O' w1) (g : Below w1.heap.size w1 w2) : Duo w O O' w2 :=
  have lt : ∀ {k : Nat} {Q : Obj}, w1.heap[k]? = some Q → w2.heap[k]? = some Q := fun hk => (g.block _ (Array.getElem?_eq_some_iff.1 hk).1).trans hk
  ⟨lt h.1, lt h.2.1, h.2.2.trans (g.mono h.2.2.size)⟩
theorem ok_of {a : SM} (h : smOK a = true) : a.ok := of_decide_eq_true h
set_option maxHeartbeats 1000000 in
theorem Behind_any (a b : SM) (w : World) : Calls Try.prog 11 #[smV a, smV b] w fun e w' => e = .returned (smR (behF a b)) ∧ Below w.heap.size w w' := by
  have HQ := Lib.hid (trio_new w #[.int .i64 a.t, .int .i64 a.n, .int .i64 a.h, .int .i64 a.l, .int .i64 a.i] #[.int .i64 b.t, .int .i64 b.n, .int .i64 b.h, .int .i64 b.l, .int .i64 b.i] #[.int .i64 0, .int .i64 0, .int .i64 0, .int .i64 0, .int .i64 0] 24 24 24)
  have HA := Lib.hid (summaryOK_any a)
  have HB := Lib.hid (summaryOK_any b)
  cases ha : smOK a
  · have HR : Hid (behF a b = (sm0, 1)) := Lib.hid (by unfold behF; rw [ha]; rfl)
    rw [ha] at HA
    clear ha HB
    go_enter Try.func11, Try.ntmps11
    go_wp2_with fail
    refine Calls.mono (HA.out _) ?_
    rintro e w1 ⟨rfl, hb1⟩
    have HQ1 := Lib.hid (HQ.out.bel hb1)
    obtain ⟨⟨c0, c1, c2, c3, c4⟩, ⟨f0, f1, f2, f3, f4⟩, -⟩ := sm_cells HQ1.out.2.2.1
    clear hb1
    go_wp2
    refine bodyPost_ret (v := smR (sm0, 1)) (by simp [results, Try.results11, go_sem, c0, c1, c2, c3, c4]) rfl ⟨by rw [HR.out], ?_⟩
    exact sm_set5 HQ1.out.2.2.2 (w.heap.size + 1 + 1) (by omega) sm0
  cases hb : smOK b
  · have HR : Hid (behF a b = (sm0, 1)) := Lib.hid (by unfold behF; rw [ha, hb]; rfl)
    rw [ha] at HA
    rw [hb] at HB
    clear ha hb
    go_enter Try.func11, Try.ntmps11
    go_wp2_with fail
    refine Calls.mono (HA.out _) ?_
    rintro e w1 ⟨rfl, hb1⟩
    have HQ1 := Lib.hid (HQ.out.bel hb1)
    obtain ⟨⟨b0, b1, b2, b3, b4⟩, -, -⟩ := sm_cells HQ1.out.2.1
    clear hb1
    go_wp2_with fail
    refine Calls.mono (HB.out _) ?_
    rintro e w2 ⟨rfl, hb2⟩
    have HQ2 := Lib.hid (HQ1.out.bel hb2)
    clear hb2 b0 b1 b2 b3 b4
    obtain ⟨⟨c0, c1, c2, c3, c4⟩, ⟨f0, f1, f2, f3, f4⟩, -⟩ := sm_cells HQ2.out.2.2.1
    go_wp2
    refine bodyPost_ret (v := smR (sm0, 1)) (by simp [results, Try.results11, go_sem, c0, c1, c2, c3, c4]) rfl ⟨by rw [HR.out], ?_⟩
    exact sm_set5 HQ2.out.2.2.2 (w.heap.size + 1 + 1) (by omega) sm0
  have HR : Hid (behF a b = (beh a b, 0)) := Lib.hid (by unfold behF; rw [ha, hb]; rfl)
  have HI := Lib.hid (fun w => behind_any a b (ok_of ha) (ok_of hb) w)
  rw [ha] at HA
  rw [hb] at HB
  clear ha hb
  go_enter Try.func11, Try.ntmps11
  go_wp2_with fail
  refine Calls.mono (HA.out _) ?_
  rintro e w1 ⟨rfl, hb1⟩
  have HQ1 := Lib.hid (HQ.out.bel hb1)
  obtain ⟨⟨b0, b1, b2, b3, b4⟩, -, -⟩ := sm_cells HQ1.out.2.1
  clear hb1
  go_wp2_with fail
  refine Calls.mono (HB.out _) ?_
  rintro e w2 ⟨rfl, hb2⟩
  have HQ2 := Lib.hid (HQ1.out.bel hb2)
  clear hb2 b0 b1 b2 b3 b4
  obtain ⟨⟨a0, a1, a2, a3, a4⟩, -, -⟩ := sm_cells HQ2.out.1
  obtain ⟨⟨b0, b1, b2, b3, b4⟩, -, -⟩ := sm_cells HQ2.out.2.1
  go_wp2_with fail
  refine Calls.mono (HI.out _) ?_
  rintro e w3 ⟨rfl, hb3⟩
  have HQ3 := Lib.hid (HQ2.out.bel hb3)
  clear hb3 b0 b1 b2 b3 b4 a0 a1 a2 a3 a4
  obtain ⟨⟨c0, c1, c2, c3, c4⟩, ⟨f0, f1, f2, f3, f4⟩, -⟩ := sm_cells HQ3.out.2.2.1
  go_wp2
  refine bodyPost_ret (v := smR (beh a b, 0)) (by simp [results, Try.results11, go_sem, c0, c1, c2, c3, c4]) rfl ⟨by rw [HR.out], ?_⟩
  exact sm_set5 HQ3.out.2.2.2 (w.heap.size + 1 + 1) (by omega) (beh a b)
set_option maxHeartbeats 1000000 in
theorem specBehind_any (a b : SM) (w : World) : Calls Try.prog 12 #[smV a, smV b] w fun e w' => e = .returned (smR (behF a b)) ∧ Below w.heap.size w w' := by
  have HQ := Lib.hid (trio_new w #[.int .i64 a.t, .int .i64 a.n, .int .i64 a.h, .int .i64 a.l, .int .i64 a.i] #[.int .i64 b.t, .int .i64 b.n, .int .i64 b.h, .int .i64 b.l, .int .i64 b.i] #[.int .i64 0, .int .i64 0, .int .i64 0, .int .i64 0, .int .i64 0] 24 24 24)
  have HA := Lib.hid (specSummaryOK_any a)
  have HB := Lib.hid (specSummaryOK_any b)
  cases ha : smOK a
  · have HR : Hid (behF a b = (sm0, 1)) := Lib.hid (by unfold behF; rw [ha]; rfl)
    rw [ha] at HA
    clear ha HB
    go_enter Try.func12, Try.ntmps12
    go_wp2_with fail
    refine Calls.mono (HA.out _) ?_
    rintro e w1 ⟨rfl, hb1⟩
    have HQ1 := Lib.hid (HQ.out.bel hb1)
    obtain ⟨⟨c0, c1, c2, c3, c4⟩, ⟨f0, f1, f2, f3, f4⟩, -⟩ := sm_cells HQ1.out.2.2.1
    clear hb1
    go_wp2
    refine bodyPost_ret (v := smR (sm0, 1)) (by simp [results, Try.results12, go_sem, c0, c1, c2, c3, c4]) rfl ⟨by rw [HR.out], ?_⟩
    exact sm_set5 HQ1.out.2.2.2 (w.heap.size + 1 + 1) (by omega) sm0
  cases hb : smOK b
  · have HR : Hid (behF a b = (sm0, 1)) := Lib.hid (by unfold behF; rw [ha, hb]; rfl)
    rw [ha] at HA
    rw [hb] at HB
    clear ha hb
    go_enter Try.func12, Try.ntmps12
    go_wp2_with fail
    refine Calls.mono (HA.out _) ?_
    rintro e w1 ⟨rfl, hb1⟩
    have HQ1 := Lib.hid (HQ.out.bel hb1)
    obtain ⟨⟨b0, b1, b2, b3, b4⟩, -, -⟩ := sm_cells HQ1.out.2.1
    clear hb1
    go_wp2_with fail
    refine Calls.mono (HB.out _) ?_
    rintro e w2 ⟨rfl, hb2⟩
    have HQ2 := Lib.hid (HQ1.out.bel hb2)
    clear hb2 b0 b1 b2 b3 b4
    obtain ⟨⟨c0, c1, c2, c3, c4⟩, ⟨f0, f1, f2, f3, f4⟩, -⟩ := sm_cells HQ2.out.2.2.1
    go_wp2
    refine bodyPost_ret (v := smR (sm0, 1)) (by simp [results, Try.results12, go_sem, c0, c1, c2, c3, c4]) rfl ⟨by rw [HR.out], ?_⟩
    exact sm_set5 HQ2.out.2.2.2 (w.heap.size + 1 + 1) (by omega) sm0
  have HR : Hid (behF a b = (beh a b, 0)) := Lib.hid (by unfold behF; rw [ha, hb]; rfl)
  have HI := Lib.hid (fun w => l05Behind_any a b (ok_of ha) (ok_of hb) w)
  rw [ha] at HA
  rw [hb] at HB
  clear ha hb
  go_enter Try.func12, Try.ntmps12
  go_wp2_with fail
  refine Calls.mono (HA.out _) ?_
  rintro e w1 ⟨rfl, hb1⟩
  have HQ1 := Lib.hid (HQ.out.bel hb1)
  obtain ⟨⟨b0, b1, b2, b3, b4⟩, -, -⟩ := sm_cells HQ1.out.2.1
  clear hb1
  go_wp2_with fail
  refine Calls.mono (HB.out _) ?_
  rintro e w2 ⟨rfl, hb2⟩
  have HQ2 := Lib.hid (HQ1.out.bel hb2)
  clear hb2 b0 b1 b2 b3 b4
  obtain ⟨⟨a0, a1, a2, a3, a4⟩, -, -⟩ := sm_cells HQ2.out.1
  obtain ⟨⟨b0, b1, b2, b3, b4⟩, -, -⟩ := sm_cells HQ2.out.2.1
  go_wp2_with fail
  refine Calls.mono (HI.out _) ?_
  rintro e w3 ⟨rfl, hb3⟩
  have HQ3 := Lib.hid (HQ2.out.bel hb3)
  clear hb3 b0 b1 b2 b3 b4 a0 a1 a2 a3 a4
  obtain ⟨⟨c0, c1, c2, c3, c4⟩, ⟨f0, f1, f2, f3, f4⟩, -⟩ := sm_cells HQ3.out.2.2.1
  go_wp2
  refine bodyPost_ret (v := smR (beh a b, 0)) (by simp [results, Try.results12, go_sem, c0, c1, c2, c3, c4]) rfl ⟨by rw [HR.out], ?_⟩
  exact sm_set5 HQ3.out.2.2.2 (w.heap.size + 1 + 1) (by omega) (beh a b)
set_option maxHeartbeats 1000000 in
theorem Either_any (a b : SM) (w : World) : Calls Try.prog 16 #[smV a, smV b] w fun e w' => e = .returned (smR (eithF a b)) ∧ Below w.heap.size w w' := by
  have HQ := Lib.hid (trio_new w #[.int .i64 a.t, .int .i64 a.n, .int .i64 a.h, .int .i64 a.l, .int .i64 a.i] #[.int .i64 b.t, .int .i64 b.n, .int .i64 b.h, .int .i64 b.l, .int .i64 b.i] #[.int .i64 0, .int .i64 0, .int .i64 0, .int .i64 0, .int .i64 0] 24 24 24)
  have HA := Lib.hid (summaryOK_any a)
  have HB := Lib.hid (summaryOK_any b)
  cases ha : smOK a
  · have HR : Hid (eithF a b = (sm0, 1)) := Lib.hid (by unfold eithF; rw [ha]; rfl)
    rw [ha] at HA
    clear ha HB
    go_enter Try.func16, Try.ntmps16
    go_wp2_with fail
    refine Calls.mono (HA.out _) ?_
    rintro e w1 ⟨rfl, hb1⟩
    have HQ1 := Lib.hid (HQ.out.bel hb1)
    obtain ⟨⟨c0, c1, c2, c3, c4⟩, ⟨f0, f1, f2, f3, f4⟩, -⟩ := sm_cells HQ1.out.2.2.1
    clear hb1
    go_wp2
    refine bodyPost_ret (v := smR (sm0, 1)) (by simp [results, Try.results16, go_sem, c0, c1, c2, c3, c4]) rfl ⟨by rw [HR.out], ?_⟩
    exact sm_set5 HQ1.out.2.2.2 (w.heap.size + 1 + 1) (by omega) sm0
  cases hb : smOK b
  · have HR : Hid (eithF a b = (sm0, 1)) := Lib.hid (by unfold eithF; rw [ha, hb]; rfl)
    rw [ha] at HA
    rw [hb] at HB
    clear ha hb
    go_enter Try.func16, Try.ntmps16
    go_wp2_with fail
    refine Calls.mono (HA.out _) ?_
    rintro e w1 ⟨rfl, hb1⟩
    have HQ1 := Lib.hid (HQ.out.bel hb1)
    obtain ⟨⟨b0, b1, b2, b3, b4⟩, -, -⟩ := sm_cells HQ1.out.2.1
    clear hb1
    go_wp2_with fail
    refine Calls.mono (HB.out _) ?_
    rintro e w2 ⟨rfl, hb2⟩
    have HQ2 := Lib.hid (HQ1.out.bel hb2)
    clear hb2 b0 b1 b2 b3 b4
    obtain ⟨⟨c0, c1, c2, c3, c4⟩, ⟨f0, f1, f2, f3, f4⟩, -⟩ := sm_cells HQ2.out.2.2.1
    go_wp2
    refine bodyPost_ret (v := smR (sm0, 1)) (by simp [results, Try.results16, go_sem, c0, c1, c2, c3, c4]) rfl ⟨by rw [HR.out], ?_⟩
    exact sm_set5 HQ2.out.2.2.2 (w.heap.size + 1 + 1) (by omega) sm0
  have HR : Hid (eithF a b = (eith a b, 0)) := Lib.hid (by unfold eithF; rw [ha, hb]; rfl)
  have HI := Lib.hid (fun w => either_any a b  w)
  rw [ha] at HA
  rw [hb] at HB
  clear ha hb
  go_enter Try.func16, Try.ntmps16
  go_wp2_with fail
  refine Calls.mono (HA.out _) ?_
  rintro e w1 ⟨rfl, hb1⟩
  have HQ1 := Lib.hid (HQ.out.bel hb1)
  obtain ⟨⟨b0, b1, b2, b3, b4⟩, -, -⟩ := sm_cells HQ1.out.2.1
  clear hb1
  go_wp2_with fail
  refine Calls.mono (HB.out _) ?_
  rintro e w2 ⟨rfl, hb2⟩
  have HQ2 := Lib.hid (HQ1.out.bel hb2)
  clear hb2 b0 b1 b2 b3 b4
  obtain ⟨⟨a0, a1, a2, a3, a4⟩, -, -⟩ := sm_cells HQ2.out.1
  obtain ⟨⟨b0, b1, b2, b3, b4⟩, -, -⟩ := sm_cells HQ2.out.2.1
  go_wp2_with fail
  refine Calls.mono (HI.out _) ?_
  rintro e w3 ⟨rfl, hb3⟩
  have HQ3 := Lib.hid (HQ2.out.bel hb3)
  clear hb3 b0 b1 b2 b3 b4 a0 a1 a2 a3 a4
  obtain ⟨⟨c0, c1, c2, c3, c4⟩, ⟨f0, f1, f2, f3, f4⟩, -⟩ := sm_cells HQ3.out.2.2.1
  go_wp2
  refine bodyPost_ret (v := smR (eith a b, 0)) (by simp [results, Try.results16, go_sem, c0, c1, c2, c3, c4]) rfl ⟨by rw [HR.out], ?_⟩
  exact sm_set5 HQ3.out.2.2.2 (w.heap.size + 1 + 1) (by omega) (eith a b)
set_option maxHeartbeats 1000000 in
theorem specEither_any (a b : SM) (w : World) : Calls Try.prog 17 #[smV a, smV b] w fun e w' => e = .returned (smR (eithF a b)) ∧ Below w.heap.size w w' := by
  have HQ := Lib.hid (trio_new w #[.int .i64 a.t, .int .i64 a.n, .int .i64 a.h, .int .i64 a.l, .int .i64 a.i] #[.int .i64 b.t, .int .i64 b.n, .int .i64 b.h, .int .i64 b.l, .int .i64 b.i] #[.int .i64 0, .int .i64 0, .int .i64 0, .int .i64 0, .int .i64 0] 24 24 24)
  have HA := Lib.hid (specSummaryOK_any a)
  have HB := Lib.hid (specSummaryOK_any b)
  cases ha : smOK a
  · have HR : Hid (eithF a b = (sm0, 1)) := Lib.hid (by unfold eithF; rw [ha]; rfl)
    rw [ha] at HA
    clear ha HB
    go_enter Try.func17, Try.ntmps17
    go_wp2_with fail
    refine Calls.mono (HA.out _) ?_
    rintro e w1 ⟨rfl, hb1⟩
    have HQ1 := Lib.hid (HQ.out.bel hb1)
    obtain ⟨⟨c0, c1, c2, c3, c4⟩, ⟨f0, f1, f2, f3, f4⟩, -⟩ := sm_cells HQ1.out.2.2.1
    clear hb1
    go_wp2
    refine bodyPost_ret (v := smR (sm0, 1)) (by simp [results, Try.results17, go_sem, c0, c1, c2, c3, c4]) rfl ⟨by rw [HR.out], ?_⟩
    exact sm_set5 HQ1.out.2.2.2 (w.heap.size + 1 + 1) (by omega) sm0
  cases hb : smOK b
  · have HR : Hid (eithF a b = (sm0, 1)) := Lib.hid (by unfold eithF; rw [ha, hb]; rfl)
    rw [ha] at HA
    rw [hb] at HB
    clear ha hb
    go_enter Try.func17, Try.ntmps17
    go_wp2_with fail
    refine Calls.mono (HA.out _) ?_
    rintro e w1 ⟨rfl, hb1⟩
    have HQ1 := Lib.hid (HQ.out.bel hb1)
    obtain ⟨⟨b0, b1, b2, b3, b4⟩, -, -⟩ := sm_cells HQ1.out.2.1
    clear hb1
    go_wp2_with fail
    refine Calls.mono (HB.out _) ?_
    rintro e w2 ⟨rfl, hb2⟩
    have HQ2 := Lib.hid (HQ1.out.bel hb2)
    clear hb2 b0 b1 b2 b3 b4
    obtain ⟨⟨c0, c1, c2, c3, c4⟩, ⟨f0, f1, f2, f3, f4⟩, -⟩ := sm_cells HQ2.out.2.2.1
    go_wp2
    refine bodyPost_ret (v := smR (sm0, 1)) (by simp [results, Try.results17, go_sem, c0, c1, c2, c3, c4]) rfl ⟨by rw [HR.out], ?_⟩
    exact sm_set5 HQ2.out.2.2.2 (w.heap.size + 1 + 1) (by omega) sm0
  have HR : Hid (eithF a b = (eith a b, 0)) := Lib.hid (by unfold eithF; rw [ha, hb]; rfl)
  have HI := Lib.hid (fun w => l05Either_any a b  w)
  rw [ha] at HA
  rw [hb] at HB
  clear ha hb
  go_enter Try.func17, Try.ntmps17
  go_wp2_with fail
  refine Calls.mono (HA.out _) ?_
  rintro e w1 ⟨rfl, hb1⟩
  have HQ1 := Lib.hid (HQ.out.bel hb1)
  obtain ⟨⟨b0, b1, b2, b3, b4⟩, -, -⟩ := sm_cells HQ1.out.2.1
  clear hb1
  go_wp2_with fail
  refine Calls.mono (HB.out _) ?_
  rintro e w2 ⟨rfl, hb2⟩
  have HQ2 := Lib.hid (HQ1.out.bel hb2)
  clear hb2 b0 b1 b2 b3 b4
  obtain ⟨⟨a0, a1, a2, a3, a4⟩, -, -⟩ := sm_cells HQ2.out.1
  obtain ⟨⟨b0, b1, b2, b3, b4⟩, -, -⟩ := sm_cells HQ2.out.2.1
  go_wp2_with fail
  refine Calls.mono (HI.out _) ?_
  rintro e w3 ⟨rfl, hb3⟩
  have HQ3 := Lib.hid (HQ2.out.bel hb3)
  clear hb3 b0 b1 b2 b3 b4 a0 a1 a2 a3 a4
  obtain ⟨⟨c0, c1, c2, c3, c4⟩, ⟨f0, f1, f2, f3, f4⟩, -⟩ := sm_cells HQ3.out.2.2.1
  go_wp2
  refine bodyPost_ret (v := smR (eith a b, 0)) (by simp [results, Try.results17, go_sem, c0, c1, c2, c3, c4]) rfl ⟨by rw [HR.out], ?_⟩
  exact sm_set5 HQ3.out.2.2.2 (w.heap.size + 1 + 1) (by omega) (eith a b)
set_option maxHeartbeats 1000000 in
theorem Times_any (a : SM) (n : Int) (w : World) : Calls Try.prog 15 #[smV a, .int .i64 n] w fun e w' => e = .returned (smR (timsF a n)) ∧ Below w.heap.size w w' := by
  have HQ := Lib.hid (duo_new w #[.int .i64 a.t, .int .i64 a.n, .int .i64 a.h, .int .i64 a.l, .int .i64 a.i] #[.int .i64 0, .int .i64 0, .int .i64 0, .int .i64 0, .int .i64 0] 24 24)
  have HA := Lib.hid (summaryOK_any a)
  cases ha : smOK a
  · have HR : Hid (timsF a n = (sm0, 1)) := Lib.hid (by unfold timsF; rw [ha]; rfl)
    rw [ha] at HA
    clear ha
    go_enter Try.func15, Try.ntmps15
    go_wp2_with fail
    refine Calls.mono (HA.out _) ?_
    rintro e w1 ⟨rfl, hb1⟩
    have HQ1 := Lib.hid (HQ.out.bel hb1)
    obtain ⟨⟨c0, c1, c2, c3, c4⟩, ⟨f0, f1, f2, f3, f4⟩, -⟩ := sm_cells HQ1.out.2.1
    clear hb1
    go_wp2
    refine bodyPost_ret (v := smR (sm0, 1)) (by simp [results, Try.results15, go_sem, c0, c1, c2, c3, c4]) rfl ⟨by rw [HR.out], ?_⟩
    exact sm_set5 HQ1.out.2.2 (w.heap.size + 1) (by omega) sm0
  by_cases hn : 0 ≤ n ∧ n ≤ 20
  · obtain ⟨m, rfl⟩ := Int.eq_ofNat_of_zero_le hn.1
    obtain ⟨n0, n1⟩ := hn
    have HR : Hid (timsF a (m : Int) = (tims a m, 0)) := Lib.hid (by unfold timsF; rw [ha, if_pos rfl, if_pos ⟨n0, n1⟩]; rfl)
    have HI := Lib.hid (fun w => times_any a m (ok_of ha) (by omega) w)
    have HV := Lib.hid (show inZ (m : Int) 0 20 = true from decide_eq_true ⟨n0, n1⟩)
    rw [ha] at HA
    clear ha
    go_enter Try.func15, Try.ntmps15
    go_wp2_with fail
    refine Calls.mono (HA.out _) ?_
    rintro e w1 ⟨rfl, hb1⟩
    have HQ1 := Lib.hid (HQ.out.bel hb1)
    obtain ⟨⟨a0, a1, a2, a3, a4⟩, -, -⟩ := sm_cells HQ1.out.1
    clear hb1
    go_wp2_with fail
    refine Calls.mono (HI.out _) ?_
    rintro e w3 ⟨rfl, hb3⟩
    have HQ3 := Lib.hid (HQ1.out.bel hb3)
    clear hb3 a0 a1 a2 a3 a4
    obtain ⟨⟨c0, c1, c2, c3, c4⟩, ⟨f0, f1, f2, f3, f4⟩, -⟩ := sm_cells HQ3.out.2.1
    go_wp2
    refine bodyPost_ret (v := smR (tims a m, 0)) (by simp [results, Try.results15, go_sem, c0, c1, c2, c3, c4]) rfl ⟨by rw [HR.out], ?_⟩
    exact sm_set5 HQ3.out.2.2 (w.heap.size + 1) (by omega) (tims a m)
  have HR : Hid (timsF a n = (sm0, 4)) := Lib.hid (by unfold timsF; rw [ha, if_pos rfl, if_neg hn])
  have HV := Lib.hid (show inZ n 0 20 = false from decide_eq_false hn)
  have hn' : n < 0 ∨ 20 < n := by omega
  rw [ha] at HA
  clear ha hn
  rcases hn' with hn | hn
  all_goals
    go_enter Try.func15, Try.ntmps15
    go_wp2_with fail
    refine Calls.mono (HA.out _) ?_
    rintro e w1 ⟨rfl, hb1⟩
    have HQ1 := Lib.hid (HQ.out.bel hb1)
    obtain ⟨⟨c0, c1, c2, c3, c4⟩, ⟨f0, f1, f2, f3, f4⟩, -⟩ := sm_cells HQ1.out.2.1
    clear hb1
    go_wp2
    refine bodyPost_ret (v := smR (sm0, 4)) (by simp [results, Try.results15, go_sem, c0, c1, c2, c3, c4]) rfl ⟨by rw [HR.out], ?_⟩
    exact sm_set5 HQ1.out.2.2 (w.heap.size + 1) (by omega) sm0
set_option maxHeartbeats 1000000 in
theorem specTimes_any (a : SM) (n : Int) (w : World) : Calls Try.prog 23 #[smV a, .int .i64 n] w fun e w' => e = .returned (smR (timsF a n)) ∧ Below w.heap.size w w' := by
  have HQ := Lib.hid (duo_new w #[.int .i64 a.t, .int .i64 a.n, .int .i64 a.h, .int .i64 a.l, .int .i64 a.i] #[.int .i64 0, .int .i64 0, .int .i64 0, .int .i64 0, .int .i64 0] 24 24)
  have HA := Lib.hid (specSummaryOK_any a)
  cases ha : smOK a
  · have HR : Hid (timsF a n = (sm0, 1)) := Lib.hid (by unfold timsF; rw [ha]; rfl)
    rw [ha] at HA
    clear ha
    go_enter Try.func23, Try.ntmps23
    go_wp2_with fail
    refine Calls.mono (HA.out _) ?_
    rintro e w1 ⟨rfl, hb1⟩
    have HQ1 := Lib.hid (HQ.out.bel hb1)
    obtain ⟨⟨c0, c1, c2, c3, c4⟩, ⟨f0, f1, f2, f3, f4⟩, -⟩ := sm_cells HQ1.out.2.1
    clear hb1
    go_wp2
    refine bodyPost_ret (v := smR (sm0, 1)) (by simp [results, Try.results23, go_sem, c0, c1, c2, c3, c4]) rfl ⟨by rw [HR.out], ?_⟩
    exact sm_set5 HQ1.out.2.2 (w.heap.size + 1) (by omega) sm0
  by_cases hn : 0 ≤ n ∧ n ≤ 20
  · obtain ⟨m, rfl⟩ := Int.eq_ofNat_of_zero_le hn.1
    obtain ⟨n0, n1⟩ := hn
    have HR : Hid (timsF a (m : Int) = (tims a m, 0)) := Lib.hid (by unfold timsF; rw [ha, if_pos rfl, if_pos ⟨n0, n1⟩]; rfl)
    have HI := Lib.hid (fun w => l05Times_any a m (ok_of ha) (by omega) w)
    have HV := Lib.hid (show inZ (m : Int) 0 20 = true from decide_eq_true ⟨n0, n1⟩)
    rw [ha] at HA
    clear ha
    go_enter Try.func23, Try.ntmps23
    go_wp2_with fail
    refine Calls.mono (HA.out _) ?_
    rintro e w1 ⟨rfl, hb1⟩
    have HQ1 := Lib.hid (HQ.out.bel hb1)
    obtain ⟨⟨a0, a1, a2, a3, a4⟩, -, -⟩ := sm_cells HQ1.out.1
    clear hb1
    go_wp2_with first | (go_at_call 35; refine (in_is HV.out _).mono ?_; rintro e w2 ⟨rfl, rfl⟩) | fail
    refine Calls.mono (HI.out _) ?_
    rintro e w3 ⟨rfl, hb3⟩
    have HQ3 := Lib.hid (HQ1.out.bel hb3)
    clear hb3 a0 a1 a2 a3 a4
    obtain ⟨⟨c0, c1, c2, c3, c4⟩, ⟨f0, f1, f2, f3, f4⟩, -⟩ := sm_cells HQ3.out.2.1
    go_wp2
    refine bodyPost_ret (v := smR (tims a m, 0)) (by simp [results, Try.results23, go_sem, c0, c1, c2, c3, c4]) rfl ⟨by rw [HR.out], ?_⟩
    exact sm_set5 HQ3.out.2.2 (w.heap.size + 1) (by omega) (tims a m)
  have HR : Hid (timsF a n = (sm0, 4)) := Lib.hid (by unfold timsF; rw [ha, if_pos rfl, if_neg hn])
  have HV := Lib.hid (show inZ n 0 20 = false from decide_eq_false hn)
  have hn' : n < 0 ∨ 20 < n := by omega
  rw [ha] at HA
  clear ha hn
  rcases hn' with hn | hn
  all_goals
    go_enter Try.func23, Try.ntmps23
    go_wp2_with fail
    refine Calls.mono (HA.out _) ?_
    rintro e w1 ⟨rfl, hb1⟩
    have HQ1 := Lib.hid (HQ.out.bel hb1)
    obtain ⟨⟨c0, c1, c2, c3, c4⟩, ⟨f0, f1, f2, f3, f4⟩, -⟩ := sm_cells HQ1.out.2.1
    clear hb1
    go_wp2_with (go_at_call 35; refine (in_is HV.out _).mono ?_; rintro e w2 ⟨rfl, rfl⟩)
    refine bodyPost_ret (v := smR (sm0, 4)) (by simp [results, Try.results23, go_sem, c0, c1, c2, c3, c4]) rfl ⟨by rw [HR.out], ?_⟩
    exact sm_set5 HQ1.out.2.2 (w.heap.size + 1) (by omega) sm0
theorem ret_ij {a b c d : Int} (h : a = b) (g : c = d) : Ending.returned (.tuple #[.int .i64 a, .int .i64 c]) = .returned (.tuple #[.int .i64 b, .int .i64 d]) := by rw [h, g]
theorem longest_eq (a : SM) : longest a = max (max (max a.n a.h) a.l) a.i := by unfold longest; omega
theorem l05Longest_any (a : SM) (w : World) : Calls Try.prog 38 #[smV a] w fun e w' => e = .returned (.int .i64 (longest a)) ∧ Below w.heap.size w w' := by
  have H := Lib.hid (longest_eq a)
  have hm4 := @wmax4 Try.prog
  go_enter Try.func38, Try.ntmps38
  go_wp2
  go_ret
  exact ⟨ret_si (by rw [H.out]; omega), sm_al w _⟩
set_option maxHeartbeats 1000000 in
theorem LongestOf_any (a : SM) (w : World) : Calls Try.prog 25 #[smV a] w fun e w' => e = .returned (.tuple #[.int .i64 (longF a).1, .int .i64 (longF a).2]) ∧ Below w.heap.size w w' := by
  have HA := Lib.hid (summaryOK_any a)
  cases ha : smOK a
  · have HR : Hid (longF a = (0, 1)) := Lib.hid (by unfold longF; rw [ha]; rfl)
    rw [ha] at HA
    clear ha
    go_enter Try.func25, Try.ntmps25
    go_wp2_with fail
    refine Calls.mono (HA.out _) ?_
    rintro e w1 ⟨rfl, hb1⟩
    have Hb1 := Lib.hid ((sm_al w (smO a)).trans (hb1.mono (sm_al w (smO a)).size))
    clear hb1
    go_wp2
    go_ret2
    exact ⟨ret_ij (by rw [HR.out]) (by rw [HR.out]), Hb1.out⟩
  have HR : Hid (longF a = (longest a, 0)) := Lib.hid (by unfold longF; rw [ha]; rfl)
  rw [ha] at HA
  clear ha
  go_enter Try.func25, Try.ntmps25
  go_wp2_with fail
  refine Calls.mono (HA.out _) ?_
  rintro e w1 ⟨rfl, hb1⟩
  have Hb1 := Lib.hid ((sm_al w (smO a)).trans (hb1.mono (sm_al w (smO a)).size))
  obtain ⟨⟨c0, c1, c2, c3, c4⟩, -, -⟩ := sm_cells (sm_keep hb1 (heap_alloc_new w _))
  clear hb1
  have hm4 := @wmax4 Try.prog
  go_wp2
  go_ret2
  exact ⟨ret_ij (by rw [HR.out, longest_eq]; omega) (by rw [HR.out]), Hb1.out⟩
set_option maxHeartbeats 1000000 in
theorem specLongestOf_any (a : SM) (w : World) : Calls Try.prog 24 #[smV a] w fun e w' => e = .returned (.tuple #[.int .i64 (longF a).1, .int .i64 (longF a).2]) ∧ Below w.heap.size w w' := by
  have HA := Lib.hid (specSummaryOK_any a)
  cases ha : smOK a
  · have HR : Hid (longF a = (0, 1)) := Lib.hid (by unfold longF; rw [ha]; rfl)
    rw [ha] at HA
    clear ha
    go_enter Try.func24, Try.ntmps24
    go_wp2_with fail
    refine Calls.mono (HA.out _) ?_
    rintro e w1 ⟨rfl, hb1⟩
    have Hb1 := Lib.hid ((sm_al w (smO a)).trans (hb1.mono (sm_al w (smO a)).size))
    clear hb1
    go_wp2
    go_ret2
    exact ⟨ret_ij (by rw [HR.out]) (by rw [HR.out]), Hb1.out⟩
  have HR : Hid (longF a = (longest a, 0)) := Lib.hid (by unfold longF; rw [ha]; rfl)
  rw [ha] at HA
  clear ha
  go_enter Try.func24, Try.ntmps24
  go_wp2_with fail
  refine Calls.mono (HA.out _) ?_
  rintro e w1 ⟨rfl, hb1⟩
  have Hb1 := Lib.hid ((sm_al w (smO a)).trans (hb1.mono (sm_al w (smO a)).size))
  obtain ⟨⟨c0, c1, c2, c3, c4⟩, -, -⟩ := sm_cells (sm_keep hb1 (heap_alloc_new w _))
  clear hb1
  go_wp2_with fail
  refine (l05Longest_any _ _).mono ?_
  rintro e w2 ⟨rfl, hb2⟩
  have Hb2 := Lib.hid (Hb1.out.trans (hb2.mono Hb1.out.size))
  clear hb2 c0 c1 c2 c3 c4
  go_wp2
  go_ret2
  exact ⟨ret_ij (by rw [HR.out]) (by rw [HR.out]), Hb2.out⟩
set_option maxHeartbeats 1000000 in
theorem OneCost_any (n : Int) (c : Bool) (w : World) : Calls Try.prog 13 #[.int .i64 n, .bool c] w fun e w' => e = .returned (smR (oneF n c)) ∧ Below w.heap.size w w' := by
  cases hn : inZ n 0 2147483647
  · have HR : Hid (oneF n c = (sm0, 4)) := Lib.hid (by unfold oneF; rw [hn]; rfl)
    have HV := Lib.hid hn
    clear hn
    go_enter Try.func13, Try.ntmps13
    go_wp2_with (go_at_call 30; refine (isTime_is HV.out _).mono ?_; rintro e w2 ⟨rfl, rfl⟩)
    exact bodyPost_ret (v := smR (sm0, 4)) (by simp [results, Try.results13, go_sem]) rfl ⟨by rw [HR.out], sm_al w _⟩
  have HR : Hid (oneF n c = (one n c, 0)) := Lib.hid (by unfold oneF; rw [hn]; rfl)
  have HV := Lib.hid hn
  clear hn
  go_enter Try.func13, Try.ntmps13
  go_wp2_with (go_at_call 30; refine (isTime_is HV.out _).mono ?_; rintro e w2 ⟨rfl, rfl⟩)
  refine Calls.mono (oneCost_any n c _) ?_
  rintro e w1 ⟨rfl, hb1⟩
  obtain ⟨⟨c0, c1, c2, c3, c4⟩, ⟨f0, f1, f2, f3, f4⟩, -⟩ := sm_cells (sm_keep hb1 (heap_alloc_new w _))
  have Hb1 := Lib.hid ((sm_al w _).trans (hb1.mono (sm_al w _).size))
  clear hb1
  go_wp2
  exact bodyPost_ret (v := smR (one n c, 0)) (by simp [results, Try.results13, go_sem, c0, c1, c2, c3, c4]) rfl ⟨by rw [HR.out], sm_set5 Hb1.out _ (Nat.le_refl _) (one n c)⟩
set_option maxHeartbeats 1000000 in
theorem specOneCost_any (n : Int) (c : Bool) (w : World) : Calls Try.prog 21 #[.int .i64 n, .bool c] w fun e w' => e = .returned (smR (oneF n c)) ∧ Below w.heap.size w w' := by
  cases hn : inZ n 0 2147483647
  · have HR : Hid (oneF n c = (sm0, 4)) := Lib.hid (by unfold oneF; rw [hn]; rfl)
    have HV := Lib.hid hn
    clear hn
    go_enter Try.func21, Try.ntmps21
    go_wp2_with (go_at_call 35; refine (in_is HV.out _).mono ?_; rintro e w2 ⟨rfl, rfl⟩)
    exact bodyPost_ret (v := smR (sm0, 4)) (by simp [results, Try.results21, go_sem]) rfl ⟨by rw [HR.out], sm_al w _⟩
  have HR : Hid (oneF n c = (one n c, 0)) := Lib.hid (by unfold oneF; rw [hn]; rfl)
  have HV := Lib.hid hn
  clear hn
  go_enter Try.func21, Try.ntmps21
  go_wp2_with (go_at_call 35; refine (in_is HV.out _).mono ?_; rintro e w2 ⟨rfl, rfl⟩)
  refine Calls.mono (l05One_any n c _) ?_
  rintro e w1 ⟨rfl, hb1⟩
  obtain ⟨⟨c0, c1, c2, c3, c4⟩, ⟨f0, f1, f2, f3, f4⟩, -⟩ := sm_cells (sm_keep hb1 (heap_alloc_new w _))
  have Hb1 := Lib.hid ((sm_al w _).trans (hb1.mono (sm_al w _).size))
  clear hb1
  go_wp2
  exact bodyPost_ret (v := smR (one n c, 0)) (by simp [results, Try.results21, go_sem, c0, c1, c2, c3, c4]) rfl ⟨by rw [HR.out], sm_set5 Hb1.out _ (Nat.le_refl _) (one n c)⟩
end Go.Proofs.Ythlbcjjfnmnpiaa
