/- impl.Checked and spec.Checked compute the same function. -/
import Derived.Test.YtlohjeidaemejaaRows
import Derived.Test.YtlohjeidaemejaaNum
import Derived.WalkKit
import Derived.ProofKit
import Derived.OpenShut
import Derived.Handy
import Derived.Outline
import Derived.Lib.Hide
namespace Go.Proofs.Ytlohjeidaemejaa
open Go.ChangeShapes Go.WideShapes Go.ChangeAt Go.RowKit
theorem fits32_any (n : Int) (w : World) : Calls Try.prog 36 #[.int .i64 n] w fun e w' => e = .returned (.bool (inI32 n)) ∧ w = w' := by
  have H := Lib.hid (fits32_eq n)
  go_enter Try.func36, Try.ntmps36
  go_wp2
  go_ret
  exact ⟨by rw [← H.out]; rfl, rfl⟩
theorem isValue_any (n : Int) (w : World) : Calls Try.prog 22 #[.int .i64 n] w fun e w' => e = .returned (.bool (inI32 n)) ∧ w = w' := by
  go_enter Try.func22, Try.ntmps22
  go_wp2_with (go_at_call 36; refine (fits32_any _ _).mono ?_; rintro e w' ⟨rfl, rfl⟩)
  go_ret
  exact ⟨rfl, rfl⟩
theorem ret2_ib {a b : Int} {c d : Bool} (h : a = b) (k : c = d) : Ending.returned (.tuple #[.int .i64 a, .bool c]) = .returned (.tuple #[.int .i64 b, .bool d]) := by rw [h, k]
theorem ret3_ibi {a b : Int} {c d : Bool} {m n : Int} (h : a = b) (k : c = d) (l : m = n) : Ending.returned (.tuple #[.int .i64 a, .bool c, .int .i64 m]) = .returned (.tuple #[.int .i64 b, .bool d, .int .i64 n]) := by rw [h, k, l]
theorem calc_any (op a b : Int) (w : World) (ha : inI32 a = true) (hb : inI32 b = true) : Calls Try.prog 23 #[.int .i64 op, .int .i64 a, .int .i64 b] w fun e w' => e = .returned (.tuple #[.int .i64 (rawN op a b), .bool (rawOK op b)]) ∧ w = w' := by
  have hm := mul_i32 ha hb
  have hd := tdiv_i32 (b := b) ha
  have h1 := inI32_bd ha
  have h2 := inI32_bd hb
  clear ha hb
  by_cases hz : b = 0
  · have hz1 : (b == 0) = true := by simp [hz]
    have Hz := Lib.hid hz
    clear hz
    go_enter Try.func23, Try.ntmps23
    go_wp2
    all_goals (go_ret2; refine ⟨ret2_ib ?_ ?_, rfl⟩)
    all_goals (have hz := Hz.out; simp_all [rawN, rawOK])
  · have hz1 : (b == 0) = false := by simp [hz]
    go_enter Try.func23, Try.ntmps23
    go_wp2
    all_goals (go_ret2; refine ⟨ret2_ib ?_ ?_, rfl⟩)
    all_goals (simp_all [rawN, rawOK])
theorem checked_any (op a b : Int) (w : World) : Calls Try.prog 10 #[.int .i64 op, .int .i64 a, .int .i64 b] w fun e w' => e = .returned (.tuple #[.int .i64 (chk op a b).1, .bool (chk op a b).2.1, .int .i64 (chk op a b).2.2]) ∧ w = w' := by
  cases ha : inI32 a <;> cases hb : inI32 b
  all_goals
    go_enter Try.func10, Try.ntmps10
    go_wp2_with first | (go_at_call 22; refine (isValue_any _ _).mono ?_; rintro e w' ⟨rfl, rfl⟩) | (go_at_call 23; refine (calc_any _ _ _ _ ha hb).mono ?_; rintro e w' ⟨rfl, rfl⟩)
  all_goals go_ret3
  all_goals first
    | exact ⟨by rw [chk_rng (Or.inl ‹op < 0›)]; rfl, rfl⟩
    | exact ⟨by rw [chk_rng (Or.inr (Or.inl ‹3 < op›))]; rfl, rfl⟩
    | exact ⟨by rw [chk_rng (Or.inr (Or.inr (Or.inl ha)))]; rfl, rfl⟩
    | exact ⟨by rw [chk_rng (Or.inr (Or.inr (Or.inr hb)))]; rfl, rfl⟩
    | exact ⟨by rw [chk_ok ‹0 ≤ op› ‹op ≤ 3› ha hb ‹rawOK op b = true› (by simpa using ‹(!inI32 (rawN op a b)) = false›)]; rfl, rfl⟩
    | exact ⟨by rw [chk_bad ‹0 ≤ op› ‹op ≤ 3› ha hb (Or.inr (by simpa using ‹(!inI32 (rawN op a b)) = true›))]; rfl, rfl⟩
    | exact ⟨by rw [chk_bad ‹0 ≤ op› ‹op ≤ 3› ha hb (Or.inl (by simpa using ‹¬rawOK op b = true›))]; rfl, rfl⟩
theorem l01In_any (n a b : Int) (w : World) : Calls Try.prog 28 #[.int .i64 n, .int .i64 a, .int .i64 b] w fun e w' => e = .returned (.bool (decide (a ≤ n ∧ n ≤ b))) ∧ w = w' := by
  go_enter Try.func28, Try.ntmps28
  go_wp2
  all_goals go_ret
  · have h1 : a ≤ n := by assumption
    exact ⟨by simp [h1], rfl⟩
  · have h1 : n < a := by assumption
    have h2 : ¬ a ≤ n := by omega
    exact ⟨by simp [h2], rfl⟩
theorem l01Int_any (n : Int) (w : World) : Calls Try.prog 29 #[.int .i64 n] w fun e w' => e = .returned (.bool (inI32 n)) ∧ w = w' := by
  have H := Lib.hid (show decide (-2147483648 ≤ n ∧ n ≤ 2147483647) = inI32 n from rfl)
  go_enter Try.func29, Try.ntmps29
  go_wp2_with first | (go_at_call 28; refine (l01In_any _ _ _ _).mono ?_; rintro e w' ⟨rfl, rfl⟩; rw [H.out])
  go_ret
  exact ⟨rfl, rfl⟩
theorem l01Checked_any (op a b : Int) (w : World) (h0 : 0 ≤ op) (h3 : op ≤ 3) (ha : inI32 a = true) (hb : inI32 b = true) : Calls Try.prog 30 #[.int .i64 op, .int .i64 a, .int .i64 b] w fun e w' => e = .returned (.tuple #[.int .i64 (chk op a b).1, .bool (chk op a b).2.1]) ∧ w = w' := by
  have hm := mul_i32 ha hb
  have hd := tdiv_i32 (b := b) ha
  have h1 := inI32_bd ha
  have h2 := inI32_bd hb
  have Ha := Lib.hid ha
  have Hb := Lib.hid hb
  clear ha hb
  have Hc := Lib.hid (chk_in h0 h3 Ha.out Hb.out)
  have Hz : Hid ((b == 0) = true ↔ b = 0) := by exact Lib.hid (by simp)
  by_cases hz : b = 0
  · have hz1 : (b == 0) = true := Hz.out.2 hz
    have Hy := Lib.hid hz
    clear hz
    go_enter Try.func30, Try.ntmps30
    go_wp2_with first | (go_at_call 29; refine (l01Int_any _ _).mono ?_; rintro e w' ⟨rfl, rfl⟩)
    all_goals (go_ret2; refine ⟨?_, rfl⟩; rw [Hc.out])
    all_goals (have hy := Hy.out; refine ret2_ib ?_ ?_)
    all_goals (simp_all [rawN, rawOK])
  · have hz1 : (b == 0) = false := by simp [hz]
    go_enter Try.func30, Try.ntmps30
    go_wp2_with first | (go_at_call 29; refine (l01Int_any _ _).mono ?_; rintro e w' ⟨rfl, rfl⟩)
    all_goals (go_ret2; refine ⟨?_, rfl⟩; rw [Hc.out])
    all_goals (refine ret2_ib ?_ ?_)
    all_goals (simp_all [rawN, rawOK])
theorem specChecked_any (op a b : Int) (w : World) : Calls Try.prog 15 #[.int .i64 op, .int .i64 a, .int .i64 b] w fun e w' => e = .returned (.tuple #[.int .i64 (chk op a b).1, .bool (chk op a b).2.1, .int .i64 (chk op a b).2.2]) ∧ w = w' := by
  by_cases ho : 0 ≤ op ∧ op ≤ 3
  · obtain ⟨h0, h3⟩ := ho
    have hd : decide (0 ≤ op ∧ op ≤ 3) = true := by simp [h0, h3]
    cases ha : inI32 a <;> cases hb : inI32 b
    all_goals
      go_enter Try.func15, Try.ntmps15
      go_wp2_with first | (go_at_call 28; refine (l01In_any _ _ _ _).mono ?_; rintro e w' ⟨rfl, rfl⟩) | (go_at_call 29; refine (l01Int_any _ _).mono ?_; rintro e w' ⟨rfl, rfl⟩) | (go_at_call 30; refine (l01Checked_any _ _ _ _ h0 h3 ha hb).mono ?_; rintro e w' ⟨rfl, rfl⟩)
      go_ret3
    · exact ⟨by rw [chk_rng (Or.inr (Or.inr (Or.inl ha)))]; rfl, rfl⟩
    · exact ⟨by rw [chk_rng (Or.inr (Or.inr (Or.inl ha)))]; rfl, rfl⟩
    · exact ⟨by rw [chk_rng (Or.inr (Or.inr (Or.inr hb)))]; rfl, rfl⟩
    · exact ⟨by rw [chk_code h0 h3 ha hb]; rfl, rfl⟩
  · have hd : decide (0 ≤ op ∧ op ≤ 3) = false := by simp; omega
    have Ho := Lib.hid ho
    clear ho
    go_enter Try.func15, Try.ntmps15
    go_wp2_with first | (go_at_call 28; refine (l01In_any _ _ _ _).mono ?_; rintro e w' ⟨rfl, rfl⟩)
    go_ret3
    have ho := Ho.out
    exact ⟨by rw [chk_rng (by omega)]; rfl, rfl⟩
theorem FnExactChecked_walk (a0 : Int) (a1 : Int) (a2 : Int) (_ : (Lit.int .i64 a0).wf = true) (_ : (Lit.int .i64 a1).wf = true) (_ : (Lit.int .i64 a2).wf = true) (w : World) :
    Calls Try.prog 6 #[.int .i64 a0, .int .i64 a1, .int .i64 a2] w fun e w' => e = .returned (.bool true) ∧ Grown w w' := by
  go_enter Try.func6, Try.ntmps6
  go_wp2_with first | (go_at_call 15; refine (specChecked_any _ _ _ _).mono ?_; rintro e w' ⟨rfl, rfl⟩) | (go_at_call 10; refine (checked_any _ _ _ _).mono ?_; rintro e w' ⟨rfl, rfl⟩)
  go_ret
  exact ⟨rfl, Grown.refl _⟩
end Go.Proofs.Ytlohjeidaemejaa
