/- Which summaries are valid: SummaryOK of impl and of spec. -/
import Derived.Test.YtppgknjpbfopjaaCst
import Derived.Deep.QuietTactic
import Derived.BigQuiet
import Derived.Laws.StructEq
namespace Go.Proofs.Ytppgknjpbfopjaa
open Go.ChangeShapes Go.WideShapes Go.ChangeAt Go.RowKit
def inZ (n a b : Int) : Bool := decide (a ≤ n ∧ n ≤ b)
theorem ret_bo {a b : Bool} (h : a = b) : Ending.returned (.bool a) = .returned (.bool b) := by rw [h]
theorem bel_dn1 {B : Nat} {a w : World} (h : Below B a w) (q : Nat) : Below B a (w.drewN q) := ⟨h.os, h.tape, h.output, h.size, h.block⟩
theorem isTime_is {n : Int} {q : Bool} (h : inZ n 0 2147483647 = q) (w : World) : Calls Try.prog 25 #[.int .i64 n] w fun e w' => e = .returned (.bool q) ∧ w' = w := by
  have H := Lib.hid h
  clear h
  go_enter Try.func25, Try.ntmps25
  go_wp2
  all_goals (go_ret; refine ⟨ret_bo ?_, rfl⟩; rw [← H.out]; simp only [inZ]; rw [Bool.eq_iff_iff]; first | (simp; omega) | (simp; done))
theorem in_is {n a b : Int} {q : Bool} (h : inZ n a b = q) (w : World) : Calls Try.prog 19 #[.int .i64 n, .int .i64 a, .int .i64 b] w fun e w' => e = .returned (.bool q) ∧ w' = w := by
  have H := Lib.hid h
  clear h
  go_enter Try.func19, Try.ntmps19
  go_wp2
  all_goals (go_ret; refine ⟨ret_bo ?_, rfl⟩; rw [← H.out]; simp only [inZ]; rw [Bool.eq_iff_iff]; first | (simp; omega) | (simp; done))
theorem eqA3 (a b c d e f : Int) (w : World) : (Op.equalIn 10000 53 (.agg #[.int .i64 a, .int .i64 b, .int .i64 c]) (.agg #[.int .i64 d, .int .i64 e, .int .i64 f])).run Try.prog w = .ok (decide (a = d ∧ b = e ∧ c = f)) w := by
  have u3 := Try.underlying3
  have a3 := Try.isAgg3
  have z3 := Try.sizeOf3
  rw [show (10000 : Nat) = 9999 + 1 from rfl, Op.equalIn]
  simp only [Sem.run_bind, run_underlying Try.underlying53, Result.andThen_ok]
  simp only [Std.Legacy.Range.forIn_eq_forIn_range', Std.Legacy.Range.size, Nat.sub_zero, Nat.add_sub_cancel, Nat.div_one, List.range'_succ, List.range'_zero, List.forIn_cons, List.forIn_nil]
  go_simp
  by_cases h1 : a = d <;> by_cases h2 : b = e <;> by_cases h3 : c = f <;> simp [h1, h2, h3]
theorem sm_leaf {OK : Prop} {R : Bool} (HN : ¬ OK → R = false) (HY : OK → R = true) (b : Bool) (h : b = true ↔ OK) : b = R := by
  by_cases q : OK
  · rw [HY q]; exact h.2 q
  · rw [HN q]; cases b
    · rfl
    · exact absurd (h.1 rfl) q
theorem smOK_no {a : SM} (h : ¬ a.ok) : smOK a = false := decide_eq_false h
theorem smOK_yes {a : SM} (h : a.ok) : smOK a = true := decide_eq_true h
set_option maxHeartbeats 1000000 in
theorem summaryOK_any (a : SM) (w : World) : Calls Try.prog 17 #[smV a] w fun e w' => e = .returned (.bool (smOK a)) ∧ Below w.heap.size w w' := by
  have HB := Lib.hid (sm_al w (smO a))
  have HN := Lib.hid (smOK_no (a := a))
  have HY := Lib.hid (smOK_yes (a := a))
  obtain ⟨t, n, h, l, i⟩ := a
  have HP : Hid ((⟨t, n, h, l, i⟩ : SM).ok ↔ ((0 ≤ t ∧ t ≤ 2147483647) ∧ (-1 ≤ n ∧ n ≤ t) ∧ (-1 ≤ h ∧ h ≤ t) ∧ (-1 ≤ l ∧ l ≤ t) ∧ (-1 ≤ i ∧ i ≤ t) ∧ (h < 0 ↔ l < 0) ∧ (h < 0 → 0 ≤ n ∧ i < 0))) := Lib.hid Iff.rfl
  generalize smOK (⟨t, n, h, l, i⟩ : SM) = R at *
  generalize SM.ok (⟨t, n, h, l, i⟩ : SM) = OK at *
  have ea := eqA3
  have i0 : ∀ w, (Instr.index 52 (.agg #[.int .i64 n, .int .i64 h, .int .i64 l, .int .i64 i]) (.int .i64 0)).run Try.prog w = .ok (.int .i64 n) w := fun _ => by kernel_rfl
  have i1 : ∀ w, (Instr.index 52 (.agg #[.int .i64 n, .int .i64 h, .int .i64 l, .int .i64 i]) (.int .i64 1)).run Try.prog w = .ok (.int .i64 h) w := fun _ => by kernel_rfl
  have i2 : ∀ w, (Instr.index 52 (.agg #[.int .i64 n, .int .i64 h, .int .i64 l, .int .i64 i]) (.int .i64 2)).run Try.prog w = .ok (.int .i64 l) w := fun _ => by kernel_rfl
  have i3 : ∀ w, (Instr.index 52 (.agg #[.int .i64 n, .int .i64 h, .int .i64 l, .int .i64 i]) (.int .i64 3)).run Try.prog w = .ok (.int .i64 i) w := fun _ => by kernel_rfl
  cases ht : inZ t 0 2147483647
  · have HR : Hid (R = false) := Lib.hid (HN.out (fun q => by have := of_decide_eq_false ht; have := HP.out.1 q; omega))
    have HT := Lib.hid ht
    clear ht ea i0 i1 i2 i3
    go_enter Try.func17, Try.ntmps17
    go_wp2_with (go_at_call 25; refine (isTime_is HT.out _).mono ?_; rintro e w' ⟨rfl, rfl⟩)
    go_ret
    exact ⟨ret_bo HR.out.symm, HB.out⟩
  have h0 := of_decide_eq_true ht
  have HT := Lib.hid ht
  clear ht
  go_enter Try.func17, Try.ntmps17
  go_wp2_with (go_at_call 25; refine (isTime_is HT.out _).mono ?_; rintro e w' ⟨rfl, rfl⟩)
  go_rounds 5
  all_goals first
    | (go_ret; exact ⟨ret_bo (HN.out (fun q => by have := HP.out.1 q; omega)).symm, HB.out⟩)
    | (go_wp2
       all_goals
         go_ret
         refine ⟨ret_bo (sm_leaf HN.out HY.out _ (Iff.trans ?_ HP.out.symm)), sm_al w _⟩
         simp only [bne_iff_ne, ne_eq, bne_eq_false_iff_eq, reduceCtorEq, false_iff, true_iff] at *
         omega)
set_option maxHeartbeats 1000000 in
theorem specSummaryOK_any (a : SM) (w : World) : Calls Try.prog 15 #[smV a] w fun e w' => e = .returned (.bool (smOK a)) ∧ Below w.heap.size w w' := by
  have HN := Lib.hid (smOK_no (a := a))
  have HY := Lib.hid (smOK_yes (a := a))
  obtain ⟨t, n, h, l, i⟩ := a
  have HP : Hid ((⟨t, n, h, l, i⟩ : SM).ok ↔ ((0 ≤ t ∧ t ≤ 2147483647) ∧ (-1 ≤ n ∧ n ≤ t) ∧ (-1 ≤ h ∧ h ≤ t) ∧ (-1 ≤ l ∧ l ≤ t) ∧ (-1 ≤ i ∧ i ≤ t) ∧ (h < 0 ↔ l < 0) ∧ (h < 0 → 0 ≤ n ∧ i < 0))) := Lib.hid Iff.rfl
  generalize smOK (⟨t, n, h, l, i⟩ : SM) = R at *
  generalize SM.ok (⟨t, n, h, l, i⟩ : SM) = OK at *
  cases ht : inZ t 0 2147483647
  · have HR : Hid (R = false) := Lib.hid (HN.out (fun q => by have := of_decide_eq_false ht; have := HP.out.1 q; omega))
    have HT := Lib.hid ht
    clear ht
    go_enter Try.func15, Try.ntmps15
    go_wp2_with (go_at_call 19; refine (in_is HT.out _).mono ?_; rintro e w' ⟨rfl, rfl⟩)
    go_ret
    exact ⟨ret_bo HR.out.symm, sm_al2 w _ _⟩
  have h0 := of_decide_eq_true ht
  have HT := Lib.hid ht
  clear ht
  go_enter Try.func15, Try.ntmps15
  go_wp2_with (go_at_call 19; refine (in_is HT.out _).mono ?_; rintro e w' ⟨rfl, rfl⟩)
  all_goals first
    | (go_ret; exact ⟨ret_bo (HN.out (fun q => by have := HP.out.1 q; omega)).symm, sm_al2 w _ _⟩)
    | skip
  all_goals
    have HC : Hid ((h < 0 ↔ l < 0) ∧ (h < 0 → 0 ≤ n ∧ i < 0)) := Lib.hid (by omega)
    have HS : Hid (((w.alloc (smO ⟨t, n, h, l, i⟩)).alloc (.cells #[.int .i64 n, .int .i64 h, .int .i64 l, .int .i64 i] 3)).heap[w.heap.size]? = some (smO ⟨t, n, h, l, i⟩) ∧ ((w.alloc (smO ⟨t, n, h, l, i⟩)).alloc (.cells #[.int .i64 n, .int .i64 h, .int .i64 l, .int .i64 i] 3)).heap[w.heap.size + 1]? = some (.cells #[.int .i64 n, .int .i64 h, .int .i64 l, .int .i64 i] 3 (0, 0)) ∧ Below w.heap.size w ((w.alloc (smO ⟨t, n, h, l, i⟩)).alloc (.cells #[.int .i64 n, .int .i64 h, .int .i64 l, .int .i64 i] 3))) :=
      Lib.hid ⟨bl_al (heap_alloc_new w _) _, by have := heap_alloc_new (w.alloc (smO ⟨t, n, h, l, i⟩)) (.cells #[.int .i64 n, .int .i64 h, .int .i64 l, .int .i64 i] 3); simpa using this, sm_al2 w _ _⟩
    go_loopw [4] (fun j wr => ∃ k : Nat, k ≤ 4 ∧ j = .int .i64 k ∧ (0 < k → -1 ≤ n ∧ n ≤ t) ∧ (1 < k → -1 ≤ h ∧ h ≤ t) ∧ (2 < k → -1 ≤ l ∧ l ≤ t) ∧ (3 < k → -1 ≤ i ∧ i ≤ t) ∧ Hid (wr.heap[w.heap.size]? = some (smO ⟨t, n, h, l, i⟩) ∧ wr.heap[w.heap.size + 1]? = some (.cells #[.int .i64 n, .int .i64 h, .int .i64 l, .int .i64 i] 3 (0, 0)) ∧ Below w.heap.size w wr)) (fun j _ => 4 - (intOf j).toNat)
    case atStart => exact ⟨0, by omega, rfl, by omega, by omega, by omega, by omega, HS⟩
    case round =>
      obtain ⟨k, hk, rfl, r0, r1, r2, r3, hs⟩ := hrel
      obtain ⟨⟨a0, -, -, -, -⟩, -, -⟩ := sm_cells hs.out.1
      have c0 : wr.cell? ⟨w.heap.size + 1, 0, none⟩ = some (.int .i64 n) := cell_of_row _ _ 0 _ _ _ hs.out.2.1
      have c1 : wr.cell? ⟨w.heap.size + 1, 1, none⟩ = some (.int .i64 h) := cell_of_row _ _ 1 _ _ _ hs.out.2.1
      have c2 : wr.cell? ⟨w.heap.size + 1, 2, none⟩ = some (.int .i64 l) := cell_of_row _ _ 2 _ _ _ hs.out.2.1
      have c3 : wr.cell? ⟨w.heap.size + 1, 3, none⟩ = some (.int .i64 i) := cell_of_row _ _ 3 _ _ _ hs.out.2.1
      have hk' : k = 0 ∨ k = 1 ∨ k = 2 ∨ k = 3 ∨ k = 4 := by omega
      rcases hk' with rfl | rfl | rfl | rfl | rfl
      · cases hv : inZ n (-1) t
        · have HR : Hid (R = false) := Lib.hid (HN.out (fun q => by have := of_decide_eq_false hv; have := HP.out.1 q; omega))
          have HV := Lib.hid hv
          clear hv
          go_wp2_with fail
          go_quiet ((go_at_call 19; exact Calls.quiet_of_same (in_is HV.out _)))
          go_wp2
          go_ret
          exact ⟨ret_bo HR.out.symm, bel_dn1 hs.out.2.2 _⟩
        · have hx := of_decide_eq_true hv
          have HV := Lib.hid hv
          clear hv
          go_wp2_with fail
          go_quiet ((go_at_call 19; exact Calls.quiet_of_same (in_is HV.out _)))
          go_wp2
          go_roundw
          case rel => exact ⟨1, by omega, rfl, by omega, by omega, by omega, by omega, Lib.hid ⟨hs.out.1, hs.out.2.1, bel_dn1 hs.out.2.2 _⟩⟩
          case measure => simp [intOf]
      · cases hv : inZ h (-1) t
        · have HR : Hid (R = false) := Lib.hid (HN.out (fun q => by have := of_decide_eq_false hv; have := HP.out.1 q; omega))
          have HV := Lib.hid hv
          clear hv
          go_wp2_with fail
          go_quiet ((go_at_call 19; exact Calls.quiet_of_same (in_is HV.out _)))
          go_wp2
          go_ret
          exact ⟨ret_bo HR.out.symm, bel_dn1 hs.out.2.2 _⟩
        · have hx := of_decide_eq_true hv
          have HV := Lib.hid hv
          clear hv
          go_wp2_with fail
          go_quiet ((go_at_call 19; exact Calls.quiet_of_same (in_is HV.out _)))
          go_wp2
          go_roundw
          case rel => exact ⟨2, by omega, rfl, by omega, by omega, by omega, by omega, Lib.hid ⟨hs.out.1, hs.out.2.1, bel_dn1 hs.out.2.2 _⟩⟩
          case measure => simp [intOf]
      · cases hv : inZ l (-1) t
        · have HR : Hid (R = false) := Lib.hid (HN.out (fun q => by have := of_decide_eq_false hv; have := HP.out.1 q; omega))
          have HV := Lib.hid hv
          clear hv
          go_wp2_with fail
          go_quiet ((go_at_call 19; exact Calls.quiet_of_same (in_is HV.out _)))
          go_wp2
          go_ret
          exact ⟨ret_bo HR.out.symm, bel_dn1 hs.out.2.2 _⟩
        · have hx := of_decide_eq_true hv
          have HV := Lib.hid hv
          clear hv
          go_wp2_with fail
          go_quiet ((go_at_call 19; exact Calls.quiet_of_same (in_is HV.out _)))
          go_wp2
          go_roundw
          case rel => exact ⟨3, by omega, rfl, by omega, by omega, by omega, by omega, Lib.hid ⟨hs.out.1, hs.out.2.1, bel_dn1 hs.out.2.2 _⟩⟩
          case measure => simp [intOf]
      · cases hv : inZ i (-1) t
        · have HR : Hid (R = false) := Lib.hid (HN.out (fun q => by have := of_decide_eq_false hv; have := HP.out.1 q; omega))
          have HV := Lib.hid hv
          clear hv
          go_wp2_with fail
          go_quiet ((go_at_call 19; exact Calls.quiet_of_same (in_is HV.out _)))
          go_wp2
          go_ret
          exact ⟨ret_bo HR.out.symm, bel_dn1 hs.out.2.2 _⟩
        · have hx := of_decide_eq_true hv
          have HV := Lib.hid hv
          clear hv
          go_wp2_with fail
          go_quiet ((go_at_call 19; exact Calls.quiet_of_same (in_is HV.out _)))
          go_wp2
          go_roundw
          case rel => exact ⟨4, by omega, rfl, by omega, by omega, by omega, by omega, Lib.hid ⟨hs.out.1, hs.out.2.1, bel_dn1 hs.out.2.2 _⟩⟩
          case measure => simp [intOf]
      · have HR : Hid (R = true) := Lib.hid (HY.out (HP.out.2 (by have := HC.out; omega)))
        go_wp2
        go_ret
        exact ⟨ret_bo HR.out.symm, hs.out.2.2⟩
end Go.Proofs.Ytppgknjpbfopjaa
