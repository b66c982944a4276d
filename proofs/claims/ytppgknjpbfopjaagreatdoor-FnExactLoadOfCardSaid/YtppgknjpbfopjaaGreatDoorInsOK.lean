/- InstrOK of impl and of spec; the copies that the laws make of an instruction. -/
import Derived.Test.YtppgknjpbfopjaaGreatDoorIns
import Derived.Test.YtppgknjpbfopjaaGreatDoorCame
import Derived.Laws.NewBlocks
namespace Go.Proofs.YtppgknjpbfopjaaGreatDoor
open Go.ChangeShapes Go.WideShapes Go.ChangeAt Go.RowKit
theorem below_dn {B : Nat} {a w : World} (h : Below B a w) (q : Nat) : Below B a (w.drewN q) := ⟨h.os, h.tape, h.output, h.size, h.block⟩
/-- A pair that was boxed still lies behind a call. -/
theorem keep_two {w w1 : World} {x y : Value} {t : TypeId} (hb : Below (w.alloc (.cells #[x, y] t)).heap.size (w.alloc (.cells #[x, y] t)) w1) : w1.cell? ⟨w.heap.size, 0, none⟩ = some x ∧ w1.cell? ⟨w.heap.size, 1, none⟩ = some y := by
  have hk : w1.heap[w.heap.size]? = some (.cells #[x, y] t (0, 0)) := (hb.block w.heap.size (by simp)).trans (heap_alloc_new w _)
  exact ⟨cell_of_row _ _ 0 _ _ _ hk, cell_of_row _ _ 1 _ _ _ hk⟩
theorem opLo_ge (k : Nat) : -2147483648 ≤ opLo k := by
  by_cases h : k < 27
  · exact op_cases (p := fun k => -2147483648 ≤ opLo k) (by decide) h
  · unfold opLo
    rw [List.getD, List.getElem?_eq_none (by show 27 ≤ k; omega)]
    decide
theorem opHi_le (k : Nat) : opHi k ≤ 2147483647 := by
  by_cases h : k < 27
  · exact op_cases (p := fun k => opHi k ≤ 2147483647) (by decide) h
  · unfold opHi
    rw [List.getD, List.getElem?_eq_none (by show 27 ≤ k; omega)]
    decide
def okB (n a : Int) : Bool := opB n && (decide (opLo n.toNat ≤ a) && decide (a ≤ opHi n.toNat))
theorem okB_yes {k : Nat} {a : Int} (h : okB (k : Int) a = true) : (1 ≤ k ∧ k ≤ 26) ∧ opLo k ≤ a ∧ a ≤ opHi k := by
  unfold okB at h
  simp only [Bool.and_eq_true, decide_eq_true_iff, Int.toNat_natCast] at h
  have := opB_yes h.1
  exact ⟨by omega, h.2⟩
theorem okB_nat {n a : Int} (h : okB n a = true) : ∃ k : Nat, n = (k : Int) ∧ 1 ≤ k ∧ k ≤ 26 ∧ opLo k ≤ a ∧ a ≤ opHi k := by
  have h1 : opB n = true := by unfold okB at h; simp only [Bool.and_eq_true] at h; exact h.1
  obtain ⟨k, rfl, _, _⟩ := opB_nat h1
  exact ⟨k, rfl, (okB_yes h).1.1, (okB_yes h).1.2, (okB_yes h).2⟩
theorem okB_in {k : Nat} {a : Int} (h1 : 1 ≤ k) (h2 : k ≤ 26) : okB (k : Int) a = (decide (opLo k ≤ a) && decide (a ≤ opHi k)) := by
  unfold okB
  rw [opB_in h1 h2, Bool.true_and, Int.toNat_natCast]
theorem okB_out {n a : Int} (h : opB n = false) : okB n a = false := by unfold okB; rw [h]; rfl
theorem isOp_q {n : Int} {b : Bool} (h : opB n = b) (w : World) : Calls Tryz.prog 197 #[.int .i64 n] w fun e w' => e = .returned (.bool b) ∧ w' = w := (h ▸ isOp_any n w).mono fun _ _ ⟨a, b⟩ => ⟨a, b.symm⟩
theorem instrOK_any (n a : Int) (w : World) (ht : OpTab w) : Calls Tryz.prog 160 #[.agg #[.int .i64 n, .int .i64 a]] w fun e w' => e = .returned (.bool (okB n a)) ∧ Below w.heap.size w w' := by
  have Hb := Lib.hid ((Below.refl w.heap.size w).alloc (Nat.le_refl _) (.cells #[.int .i64 n, .int .i64 a] 170))
  cases ho : opB n
  · have H := Lib.hid (okB_out (a := a) ho)
    have Ho := Lib.hid ho
    clear ho ht
    go_enter Tryz.func160, Tryz.ntmps160
    go_wp2
    go_quiet ((go_at_call 197; exact Calls.quiet_of_same (isOp_q Ho.out _)))
    go_wp2
    go_ret
    exact ⟨ret_b1 (by rw [H.out]), below_dn Hb.out _⟩
  · obtain ⟨k, rfl, h1, h2⟩ := opB_nat ho
    have H := Lib.hid (okB_in (a := a) h1 h2)
    have Ho := Lib.hid ho
    have Ht := Lib.hid (ht.below Hb.out (Nat.le_refl _))
    have h3 : k < 27 := by omega
    have hc := (Ht.out k h3).2.2.1
    have hd := (Ht.out k h3).2.2.2
    clear ho ht
    generalize opLo k = lo at *
    generalize opHi k = hi at *
    cases hl : decide (lo ≤ a) <;> cases hh : decide (a ≤ hi)
    all_goals
      go_enter Tryz.func160, Tryz.ntmps160
      go_wp2
      go_quiet ((go_at_call 197; exact Calls.quiet_of_same (isOp_q Ho.out _)))
      go_wp2
      go_ret
      exact ⟨ret_b1 (by rw [H.out, hl, hh]; rfl), below_dn Hb.out _⟩
theorem l02OK_any (n a : Int) (w : World) : Calls Tryz.prog 199 #[.agg #[.int .i64 n, .int .i64 a]] w fun e w' => e = .returned (.bool (okB n a)) ∧ Below w.heap.size w w' := by
  have Hb := Lib.hid ((Below.refl w.heap.size w).alloc (Nat.le_refl _) (.cells #[.int .i64 n, .int .i64 a] 170))
  cases ho : opB n
  · have H := Lib.hid (okB_out (a := a) ho)
    have Ho := Lib.hid ho
    clear ho
    go_enter Tryz.func199, Tryz.ntmps199
    go_wp2_with (go_at_call 224; refine (l02Op_no Ho.out _).mono ?_; rintro e w' ⟨rfl, rfl⟩)
    go_ret
    exact ⟨ret_b1 (by rw [H.out]), Hb.out⟩
  · obtain ⟨k, rfl, h1, h2⟩ := opB_nat ho
    have H := Lib.hid (okB_in (a := a) h1 h2)
    have Ho := Lib.hid ho
    clear ho
    go_enter Tryz.func199, Tryz.ntmps199
    go_wp2_with first | (go_at_call 224; refine (l02Op_yes Ho.out _).mono ?_; rintro e w' ⟨rfl, rfl⟩) | (go_at_call 167; refine (l02Has_any k h1 h2 _).mono ?_; rintro e w' ⟨rfl, rfl⟩) | (go_at_call 166; refine (l01InB_any _ _ _ _).mono ?_; rintro e w' ⟨rfl, rfl⟩)
    go_ret
    exact ⟨ret_b1 (by rw [H.out]; unfold inB; rw [Bool.decide_and]), Hb.out⟩
theorem toInstr_any (n a : Int) (w : World) : Calls Tryz.prog 183 #[.agg #[.int .i64 n, .int .i64 a]] w fun e w' => e = .returned (.agg #[.int .i64 n, .int .i64 a]) ∧ Below w.heap.size w w' := by
  go_enter Tryz.func183, Tryz.ntmps183
  go_wp2
  refine bodyPost_ret (v := .agg #[.int .i64 n, .int .i64 a]) (by simp [results, Tryz.results183, go_sem]) rfl ⟨rfl, ?_⟩
  exact (((Below.refl w.heap.size w).alloc (Nat.le_refl _) _).alloc (by simp) _).alloc (by simp; omega) _
theorem pair_of {α : Type} {l : List α} (h : l.length = 2) : ∃ x y, l = [x, y] := by
  match l, h with
  | [x, y], _ => exact ⟨x, y, rfl⟩
theorem came_instr {W : World} {t : TypeId} {cs : Array Value} {f0 f1 : Field} (ht : Tryz.prog.underlying t = some (.struct #[f0, f1])) (hc : Tryz.prog.cellsOf t = 2) (o : f0.offset = 0 ∧ f1.offset = 1) (g : Tryz.prog.cellsOf f0.type = 1 ∧ Tryz.prog.cellsOf f1.type = 1) (u : Tryz.prog.underlying f0.type = some (.int .i64) ∧ Tryz.prog.underlying f1.type = some (.int .i64)) (h : Came Tryz.prog W t cs.toList) :
    ∃ n a : Int, cs = #[.int .i64 n, .int .i64 a] ∧ (Lit.int .i64 n).wf = true ∧ (Lit.int .i64 a).wf = true := by
  obtain ⟨hl, hf⟩ := came_struct ht h
  obtain ⟨l⟩ := cs
  obtain ⟨x, y, rfl⟩ := pair_of (hl.trans hc)
  have h0 := hf 0 f0 rfl
  have h1 := hf 1 f1 rfl
  rw [o.1, g.1] at h0
  rw [o.2, g.2] at h1
  obtain ⟨n, e0, w0⟩ := came_int u.1 h0
  obtain ⟨a, e1, w1⟩ := came_int u.2 h1
  simp at e0 e1
  subst e0 e1
  exact ⟨n, a, rfl, w0, w1⟩
theorem cLaw : Tryz.prog.cellsOf 211 = 2 := by kernel_rfl
theorem came_lawInstr {W : World} {cs : Array Value} (h : Came Tryz.prog W 211 cs.toList) : ∃ n a : Int, cs = #[.int .i64 n, .int .i64 a] ∧ (Lit.int .i64 n).wf = true ∧ (Lit.int .i64 a).wf = true :=
  came_instr Tryz.underlying211 cLaw ⟨rfl, rfl⟩ ⟨cInt, cInt⟩ ⟨Tryz.underlying3, Tryz.underlying3⟩ h
end Go.Proofs.YtppgknjpbfopjaaGreatDoor
