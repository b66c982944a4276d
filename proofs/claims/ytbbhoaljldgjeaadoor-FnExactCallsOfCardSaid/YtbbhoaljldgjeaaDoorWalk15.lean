/- The end of the code; a refused walk recovered. -/
import Derived.Test.YtbbhoaljldgjeaaDoorWalk14
import Derived.Defers
import Derived.Recover
namespace Go.Proofs.YtbbhoaljldgjeaaDoor
open Go.ChangeShapes Go.WideShapes Go.ChangeAt Go.RowKit
set_option linter.unusedVariables false
theorem finish_open (p g m c : Nat) (k : Int) (hm : m + 1 ≤ 100) (w : World) (h4 : w.cell? ⟨p, 4, none⟩ = some (.slice (some ⟨g, 0, none⟩) (m + 1) c)) (hk : w.cell? ⟨g, m * 3, none⟩ = some (.int .i64 k)) :
    Calls Tryd.prog 68 #[.pointer (some ⟨p, 0, none⟩)] w fun e w' => e = Off k 14 ∧ ∃ q, w' = w.drewN q := by
  have h1 : decide ((m : Int) + 1 > 0) = true := decide_eq_true (by omega)
  go_enter Tryd.func68, Tryd.ntmps68
  go_wp2_with fail
  refine Calls.mono (innermost_ok p g m c hm _ h4) ?_
  rintro e w' ⟨rfl, q, rfl⟩
  go_wp2
  exact ⟨rfl, rfl, q, rfl⟩
theorem finish_ok (p c c' : Nat) (a a' : Option Addr) (w : World) (h3 : w.cell? ⟨p, 3, none⟩ = some (.slice a 0 c)) (h4 : w.cell? ⟨p, 4, none⟩ = some (.slice a' 0 c')) :
    Calls Tryd.prog 68 #[.pointer (some ⟨p, 0, none⟩)] w fun e w' => e = .returned (.tuple #[]) ∧ w = w' := by
  go_enter Tryd.func68, Tryd.ntmps68
  go_wp2_with fail
  refine Calls.mono (require_ok _ _ _) ?_
  rintro e w' ⟨rfl, rfl⟩
  go_wp2
  go_end0
  exact ⟨rfl, rfl⟩
theorem finish_stack (p n c c' : Nat) (a a' : Option Addr) (i : Int) (hn : 0 < n) (w : World) (h2 : w.cell? ⟨p, 2, none⟩ = some (.int .i64 i)) (h3 : w.cell? ⟨p, 3, none⟩ = some (.slice a n c)) (h4 : w.cell? ⟨p, 4, none⟩ = some (.slice a' 0 c')) :
    Calls Tryd.prog 68 #[.pointer (some ⟨p, 0, none⟩)] w fun e w' => e = Off i 13 ∧ w = w' := by
  have h1 : ((n : Int) == 0) = false := by rw [beq_eq_false_iff_ne]; omega
  go_enter Tryd.func68, Tryd.ntmps68
  go_wp2_with fail
  refine Calls.mono (require_no _ _ i _ h2) ?_
  rintro e w' ⟨rfl, rfl⟩
  exact ⟨rfl, rfl, rfl⟩
def finC (v : VW) (i : Int) : Int × Int := match v.opn.getLast? with | some o => (o.pos, 14) | none => if v.stk = [] then (0, 0) else (i, 13)
theorem finish_any {B p : Nat} {K : Value} {r i : Int} {v : VW} {w : World} (h : WStat B p K r i v w) (hp : v.pre) :
    Calls Tryd.prog 68 #[.pointer (some ⟨p, 0, none⟩)] w fun e w' => Below B w w' ∧ (((finC v i).2 = 0 ∧ e = .returned (.tuple #[])) ∨ ((finC v i).2 ≠ 0 ∧ e = Off (finC v i).1 (finC v i).2)) := by
  obtain ⟨a, n, c, a', n', c', h⟩ := h
  obtain ⟨c0, c1, c2, c3, c4⟩ := h.cells
  have hn := h.slen
  have ho := h.olen
  obtain ⟨st, opn⟩ := v
  rcases opn_cases opn with rfl | ⟨os, o, rfl⟩
  · simp at ho
    subst ho
    by_cases hs : st = []
    · have e : finC ⟨st, []⟩ i = (0, 0) := by unfold finC; simp [hs]
      rw [e]
      subst hs
      simp at hn
      subst hn
      exact (finish_ok p c c' a a' w c3 c4).mono fun e w' ⟨he, hw⟩ => ⟨hw ▸ Below.refl B _, .inl ⟨rfl, he⟩⟩
    · have e : finC ⟨st, []⟩ i = (i, 13) := by unfold finC; simp [hs]
      rw [e]
      have : 0 < n := by
        rw [← hn]
        exact List.length_pos_iff.2 hs
      exact (finish_stack p n c c' a a' i this w c2 c3 c4).mono fun e w' ⟨he, hw⟩ => ⟨hw ▸ Below.refl B _, .inr ⟨by simp, he⟩⟩
  · have e : finC ⟨st, os ++ [o]⟩ i = (o.pos, 14) := by unfold finC; simp
    rw [e]
    have h' := h
    rw [List.map_append, List.map_singleton] at h'
    obtain ⟨g, m, rfl, rfl, hm, hc⟩ := h'.opened_row
    have h4 := hp.o4
    simp at h4 hm
    exact (finish_open p g m c' o.pos (by omega) w c4 h'.last.1).mono fun e w' ⟨he, q, hw⟩ => ⟨hw ▸ bel_dn (Below.refl B w) q, .inr ⟨by simp, he⟩⟩
theorem run_assert_yes {P : Program} {t xT : TypeId} {fs : Array Field} (hu : P.underlying t = some (.struct fs)) (v : Value) (w : World) : (Instr.typeAssert (.iface t v) xT t true).run P w = .ok (.tuple #[v, .bool true]) w := by
  simp [Instr.typeAssert, run_underlying hu, go_sem, Result.andThen]
theorem run_assert_nil {P : Program} {t xT : TypeId} {fs : Array Field} {z : Value} (hu : P.underlying t = some (.struct fs)) (hz : (P.info? t).map (·.zero) = some (some z)) (w : World) : (Instr.typeAssert .nilIface xT t true).run P w = .ok (.tuple #[z, .bool false]) w := by
  obtain ⟨j, hj, hz'⟩ := Option.map_eq_some_iff.1 hz
  simp [Instr.typeAssert, run_underlying hu, zeroValue, typeInfo, hj, hz', go_sem, Result.andThen]
theorem as_yes (v : Value) (w : World) : (Instr.typeAssert (.iface 63 v) 20 63 true).run Tryd.prog w = .ok (.tuple #[v, .bool true]) w := run_assert_yes Tryd.underlying63 v w
theorem as_nil (w : World) : (Instr.typeAssert .nilIface 20 63 true).run Tryd.prog w = .ok (.tuple #[.agg #[.int .i64 0, .int .i64 0], .bool false]) w := run_assert_nil Tryd.underlying63 (by kernel_rfl) w
abbrev offO (i c : Int) : Obj := .cells #[.int .i64 i, .int .i64 c] 63
theorem catch_panicking (p : Nat) (i c x y : Int) (older : List PanicEntry) (w : World) (h : w.heap[p]? = some (offO x y)) :
    CallsD Tryd.prog 67 #[.pointer (some ⟨p, 0, none⟩)] (.panicking ({ v := .iface 63 (.agg #[.int .i64 i, .int .i64 c]), recovered := false } :: older)) w fun e u' w' =>
      e = .returned (.tuple #[]) ∧ u' = .panicking ({ v := .iface 63 (.agg #[.int .i64 i, .int .i64 c]), recovered := true } :: older) ∧ w' = ((w.alloc (offO i c)).setCell ⟨p, 0, none⟩ (.int .i64 i)).setCell ⟨p, 1, none⟩ (.int .i64 c) := by
  have hA := alloc_at h (offO i c)
  have hc : (w.alloc (offO i c)).cell? ⟨p, 0, none⟩ = some (.int .i64 x) := cell_of_row _ _ 0 _ _ _ hA
  have hc1 : (w.alloc (offO i c)).cell? ⟨p, 1, none⟩ = some (.int .i64 y) := cell_of_row _ _ 1 _ _ _ hA
  have hz : (w.alloc (offO i c)).frozen? ⟨p, 0, none⟩ = false := frozen_of_row _ _ 0 _ _ hA
  have hz1 : (w.alloc (offO i c)).frozen? ⟨p, 1, none⟩ = false := frozen_of_row _ _ 1 _ _ hA
  refine callsD_of_wpS Tryd.func67 rfl fun c₀ cs hu => ?_
  apply wpS_seq
  apply wpS_region
  simp [wpOpsS, go_sem, recoverD, hu, Tryd.ntmps67, Exit.thenS, as_yes]
  apply wpS_seq
  apply wpS_region
  simp [wpOpsS, go_sem, Exit.thenS]
  refine wpS_cond (t := true) (by simp [Act.eval, Array.replicate]) ?_
  simp only [if_true]
  apply wpS_region
  simp [wpOpsS, go_sem, hc, hc1, hz, hz1, bodyPostS, results, Tryd.results67]
theorem catch_idle (p : Nat) (w : World) :
    CallsD Tryd.prog 67 #[.pointer (some ⟨p, 0, none⟩)] .returning w fun e u' w' => e = .returned (.tuple #[]) ∧ u' = .returning ∧ w' = w.alloc (offO 0 0) := by
  refine callsD_of_wpS Tryd.func67 rfl fun c₀ cs hu => ?_
  apply wpS_seq
  apply wpS_region
  simp [wpOpsS, go_sem, recoverD, hu, Tryd.ntmps67, Exit.thenS, as_nil]
  apply wpS_seq
  apply wpS_region
  simp [wpOpsS, go_sem, Exit.thenS]
  refine wpS_cond (t := false) (by simp [Act.eval, Array.replicate]) ?_
  simp only [Bool.false_eq_true, if_false]
  refine wpS_of_wp (wp_skip ?_)
  cases c₀
  simp_all [bodyPostS, results, Tryd.results67]
end Go.Proofs.YtbbhoaljldgjeaaDoor
