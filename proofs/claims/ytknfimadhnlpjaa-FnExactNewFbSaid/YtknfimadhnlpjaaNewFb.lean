/- NewFb of impl and of spec, over a plain seat. -/
import Derived.Test.YtknfimadhnlpjaaRows
import Derived.WalkKit
import Derived.ProofKit
import Derived.OpenShut
import Derived.Handy
import Derived.Below
import Derived.Laws.NewBlocks
import Derived.Lib.Hide
namespace Go.Proofs.Ytknfimadhnlpjaa
open Go.ChangeShapes Go.WideShapes Go.ChangeAt Go.RowKit
abbrev nfE (k : Int) : Value := .agg #[.int .i64 k, .bool false, .int .i64 0, .int .i64 0]
theorem nf_rb {a b : Bool} (h : a = b) : Ending.returned (.bool a) = .returned (.bool b) := by rw [h]
def nfK (n : Int) : Bool := decide (1 ≤ n ∧ n ≤ 4)
theorem nf_isKind {n : Int} {b : Bool} (hb : nfK n = b) (w : World) : Calls Try.prog 8 #[.int .i64 n] w fun e w' => e = .returned (.bool b) ∧ w = w' := by
  have H := Lib.hid hb
  clear hb
  go_enter Try.func8, Try.ntmps8
  go_wp2
  all_goals (go_ret; refine ⟨nf_rb ?_, rfl⟩; rw [← H.out]; simp only [nfK]; rw [Bool.eq_iff_iff]; first | (simp; omega) | (simp; done))
theorem nf_in (n : Int) (w : World) : Calls Try.prog 9 #[.int .i64 n, .int .i64 1, .int .i64 4] w fun e w' => e = .returned (.bool (nfK n)) ∧ w = w' := by
  go_enter Try.func9, Try.ntmps9
  go_wp2
  all_goals (go_ret; refine ⟨nf_rb ?_, rfl⟩; simp only [nfK]; rw [Bool.eq_iff_iff]; first | (simp; omega) | (simp; done))
theorem nf_l03Kind {n : Int} {b : Bool} (hb : nfK n = b) (w : World) : Calls Try.prog 7 #[.int .i64 n] w fun e w' => e = .returned (.bool b) ∧ w = w' := by
  subst hb
  go_enter Try.func7, Try.ntmps7
  go_wp2_with (go_at_call 9; refine (nf_in _ _).mono ?_; rintro e w' ⟨rfl, rfl⟩)
  go_ret
  exact ⟨rfl, rfl⟩
def nfF (n : Int) : Int := if nfK n = true then n else 0
def nfC (n : Int) : Int := if nfK n = true then 0 else 10
theorem nf_impl (n : Int) (w : World) : Calls Try.prog 5 #[.int .i64 n] w fun e w' => e = .returned (.tuple #[nfE (nfF n), .int .i64 (nfC n)]) ∧ Below w.heap.size w w' := by
  cases ho : nfK n
  · have H : nfF n = 0 ∧ nfC n = 10 := by unfold nfF nfC; rw [ho]; exact ⟨rfl, rfl⟩
    rw [H.1, H.2]
    have Ho := Lib.hid ho
    clear ho H
    go_enter Try.func5, Try.ntmps5
    go_wp2_with (go_at_call 8; refine (nf_isKind Ho.out _).mono ?_; rintro e w' ⟨rfl, rfl⟩)
    refine bodyPost_ret (v := .tuple #[nfE 0, .int .i64 10]) (by simp [results, Try.results5, go_sem]) rfl ⟨rfl, ?_⟩
    exact (Below.refl w.heap.size w).alloc (Nat.le_refl _) _
  · have H : nfF n = n ∧ nfC n = 0 := by unfold nfF nfC; rw [ho]; exact ⟨rfl, rfl⟩
    rw [H.1, H.2]
    have Ho := Lib.hid ho
    clear ho H
    go_enter Try.func5, Try.ntmps5
    go_wp2_with (go_at_call 8; refine (nf_isKind Ho.out _).mono ?_; rintro e w' ⟨rfl, rfl⟩)
    refine bodyPost_ret (v := .tuple #[nfE n, .int .i64 0]) (by simp [results, Try.results5, go_sem]) rfl ⟨rfl, ?_⟩
    exact (Below.refl w.heap.size w).alloc (Nat.le_refl _) _
theorem nf_spec (n : Int) (w : World) : Calls Try.prog 4 #[.int .i64 n] w fun e w' => e = .returned (.tuple #[nfE (nfF n), .int .i64 (nfC n)]) ∧ Below w.heap.size w w' := by
  cases ho : nfK n
  · have H : nfF n = 0 ∧ nfC n = 10 := by unfold nfF nfC; rw [ho]; exact ⟨rfl, rfl⟩
    rw [H.1, H.2]
    have Ho := Lib.hid ho
    clear ho H
    go_enter Try.func4, Try.ntmps4
    go_wp2_with (go_at_call 7; refine (nf_l03Kind Ho.out _).mono ?_; rintro e w' ⟨rfl, rfl⟩)
    refine bodyPost_ret (v := .tuple #[nfE 0, .int .i64 10]) (by simp [results, Try.results4, go_sem]) rfl ⟨rfl, ?_⟩
    exact (Below.refl w.heap.size w).alloc (Nat.le_refl _) _
  · have H : nfF n = n ∧ nfC n = 0 := by unfold nfF nfC; rw [ho]; exact ⟨rfl, rfl⟩
    rw [H.1, H.2]
    have Ho := Lib.hid ho
    clear ho H
    go_enter Try.func4, Try.ntmps4
    go_wp2_with (go_at_call 7; refine (nf_l03Kind Ho.out _).mono ?_; rintro e w' ⟨rfl, rfl⟩)
    refine bodyPost_ret (v := .tuple #[nfE n, .int .i64 0]) (by simp [results, Try.results4, go_sem]) rfl ⟨rfl, ?_⟩
    exact (Below.refl w.heap.size w).alloc (Nat.le_refl _) _
theorem nf_eq (k : Int) (w : World) : Calls Try.prog 6 #[nfE k, nfE k] w fun e w' => e = .returned (.bool true) ∧ Below w.heap.size w w' := by
  go_enter Try.func6, Try.ntmps6
  go_wp2
  go_ret
  exact ⟨rfl, ((Below.refl w.heap.size w).alloc (Nat.le_refl _) _).alloc (by simp) _⟩
theorem FnExactNewFb_came (n : Int) (W : World) (_ : (Lit.int .i64 n).wf = true) : Calls Try.prog 3 #[.int .i64 n] W fun e w' => e = .returned (.bool true) ∧ Below W.heap.size W w' := by
  have HI := Lib.hid (nf_impl n)
  have HS := Lib.hid (nf_spec n)
  generalize nfF n = X at *
  generalize nfC n = Y at *
  go_enter Try.func3, Try.ntmps3
  go_wp2_with fail
  refine (HS.out _).mono ?_
  rintro e w1 ⟨rfl, hb1⟩
  have Hb1 := Lib.hid (hb1.alloc hb1.size (.cells #[.int .i64 X, .bool false, .int .i64 0, .int .i64 0] 23))
  have K1 := Lib.hid (heap_alloc_new w1 (.cells #[.int .i64 X, .bool false, .int .i64 0, .int .i64 0] 23))
  clear hb1
  go_wp2_with fail
  refine (HI.out _).mono ?_
  rintro e w2 ⟨rfl, hb2⟩
  have k2 := (hb2.block w1.heap.size (by simp)).trans K1.out
  have hz2 : w1.heap.size < w2.heap.size := by have := hb2.size; simp at this; omega
  have Hb2' := Hb1.out.trans (hb2.mono Hb1.out.size)
  have Hb2 := Lib.hid (Hb2'.alloc Hb2'.size (.cells #[.int .i64 X, .bool false, .int .i64 0, .int .i64 0] 23))
  have c0 : w2.cell? ⟨w1.heap.size, 0, none⟩ = some (.int .i64 X) := cell_of_row _ _ 0 _ _ _ k2
  have c1 : w2.cell? ⟨w1.heap.size, 1, none⟩ = some (.bool false) := cell_of_row _ _ 1 _ _ _ k2
  have c2 : w2.cell? ⟨w1.heap.size, 2, none⟩ = some (.int .i64 0) := cell_of_row _ _ 2 _ _ _ k2
  have c3 : w2.cell? ⟨w1.heap.size, 3, none⟩ = some (.int .i64 0) := cell_of_row _ _ 3 _ _ _ k2
  clear hb2 k2 Hb2'
  go_wp2_with fail
  refine (nf_eq _ _).mono ?_
  rintro e w3 ⟨rfl, hb3⟩
  have Hb3 := Lib.hid (Hb2.out.trans (hb3.mono Hb2.out.size))
  clear hb3 c0 c1 c2 c3
  go_wp2
  go_ret
  exact ⟨rfl, Hb3.out⟩
end Go.Proofs.Ytknfimadhnlpjaa
