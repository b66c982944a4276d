/- Plain facts on integers, and the Lean functions that Checked computes. -/
import Derived.WalkKit
import Derived.IntWalk
namespace Go.Proofs.YtnehaidkhpjpbaaDoor
open Go.RowKit
/-- Does n fit into four bytes in two's complement? -/
def inI32 (n : Int) : Bool := decide (-2147483648 ≤ n ∧ n ≤ 2147483647)
theorem inI32_of {n : Int} (h : -2147483648 ≤ n) (k : n ≤ 2147483647) : inI32 n = true := decide_eq_true ⟨h, k⟩
theorem inI32_not {n : Int} (h : n < -2147483648 ∨ 2147483647 < n) : inI32 n = false := decide_eq_false (by omega)
theorem inI32_bd {n : Int} (h : inI32 n = true) : -2147483648 ≤ n ∧ n ≤ 2147483647 := of_decide_eq_true h
theorem inI32_out {n : Int} (h : inI32 n = false) : n < -2147483648 ∨ 2147483647 < n := by
  have := of_decide_eq_false h; omega
theorem wrap32_rng (n : Int) : -2147483648 ≤ wrap32 n ∧ wrap32 n ≤ 2147483647 := by unfold wrap32; omega
theorem fits32_eq (n : Int) : (wrap64 (wrap32 n) == n) = inI32 n := by
  have h := wrap32_rng n
  rw [IntWalk.wrap64_in _ (by omega)]
  unfold inI32
  rw [Bool.eq_iff_iff, beq_iff_eq, decide_eq_true_iff]
  unfold wrap32 at *
  omega
theorem mul_i32 {a b : Int} (ha : inI32 a = true) (hb : inI32 b = true) : -9223372036854775808 ≤ a * b ∧ a * b ≤ 9223372036854775807 := by
  have h1 := inI32_bd ha
  have h2 := inI32_bd hb
  have h : (a * b).natAbs ≤ 2147483648 * 2147483648 := by rw [Int.natAbs_mul]; exact Nat.mul_le_mul (by omega) (by omega)
  omega
theorem tdiv_i32 {a b : Int} (ha : inI32 a = true) : -9223372036854775808 ≤ a.tdiv b ∧ a.tdiv b ≤ 9223372036854775807 := by
  have h1 := inI32_bd ha
  have h : (a.tdiv b).natAbs ≤ a.natAbs := by rw [Int.natAbs_tdiv]; exact Nat.div_le_self _ _
  omega
/-- What Checked computes before it is held against the values' range: the number, and whether there is one. -/
def rawN (op a b : Int) : Int := if op = 0 then a + b else if op = 1 then a - b else if op = 2 then a * b else if b = 0 then 0 else a.tdiv b
def rawOK (op b : Int) : Bool := decide (op = 0 ∨ op = 1 ∨ op = 2 ∨ b ≠ 0)
theorem rawN_0 (a b : Int) : rawN 0 a b = a + b := by simp [rawN]
theorem rawN_1 (a b : Int) : rawN 1 a b = a - b := by simp [rawN]
theorem rawN_2 (a b : Int) : rawN 2 a b = a * b := by simp [rawN]
theorem rawN_3 {op a b : Int} (h0 : op ≠ 0) (h1 : op ≠ 1) (h2 : op ≠ 2) (hb : b ≠ 0) : rawN op a b = a.tdiv b := by simp [rawN, h0, h1, h2, hb]
theorem rawN_z {op a b : Int} (h0 : op ≠ 0) (h1 : op ≠ 1) (h2 : op ≠ 2) (hb : b = 0) : rawN op a b = 0 := by simp [rawN, h0, h1, h2, hb]
theorem rawOK_0 {op b : Int} (h : op = 0 ∨ op = 1 ∨ op = 2) : rawOK op b = true := decide_eq_true (by omega)
theorem rawOK_3 {op b : Int} (hb : b ≠ 0) : rawOK op b = true := decide_eq_true (by omega)
theorem rawOK_z {op b : Int} (h0 : op ≠ 0) (h1 : op ≠ 1) (h2 : op ≠ 2) (hb : b = 0) : rawOK op b = false := decide_eq_false (by omega)
/-- What Checked answers: the number, whether it failed, the code. -/
def chk (op a b : Int) : Int × Bool × Int :=
  if op < 0 ∨ 3 < op ∨ inI32 a = false ∨ inI32 b = false then (0, false, 4)
  else if rawOK op b = true ∧ inI32 (rawN op a b) = true then (rawN op a b, false, 0) else (0, true, 0)
theorem chk_rng {op a b : Int} (h : op < 0 ∨ 3 < op ∨ inI32 a = false ∨ inI32 b = false) : chk op a b = (0, false, 4) := by unfold chk; rw [if_pos h]
theorem chk_ok {op a b : Int} (h0 : 0 ≤ op) (h3 : op ≤ 3) (ha : inI32 a = true) (hb : inI32 b = true) (hr : rawOK op b = true) (hn : inI32 (rawN op a b) = true) : chk op a b = (rawN op a b, false, 0) := by
  unfold chk; rw [if_neg (by simp [ha, hb]; omega), if_pos ⟨hr, hn⟩]
theorem chk_bad {op a b : Int} (h0 : 0 ≤ op) (h3 : op ≤ 3) (ha : inI32 a = true) (hb : inI32 b = true) (hr : rawOK op b = false ∨ inI32 (rawN op a b) = false) : chk op a b = (0, true, 0) := by
  unfold chk; rw [if_neg (by simp [ha, hb]; omega), if_neg (by rcases hr with h | h <;> simp [h])]
theorem chk_in {op a b : Int} (h0 : 0 ≤ op) (h3 : op ≤ 3) (ha : inI32 a = true) (hb : inI32 b = true) : chk op a b = if rawOK op b = true ∧ inI32 (rawN op a b) = true then (rawN op a b, false, 0) else (0, true, 0) := by
  unfold chk; rw [if_neg (by simp [ha, hb]; omega)]
theorem chk_code {op a b : Int} (h0 : 0 ≤ op) (h3 : op ≤ 3) (ha : inI32 a = true) (hb : inI32 b = true) : (chk op a b).2.2 = 0 := by
  rw [chk_in h0 h3 ha hb]; split <;> rfl
end Go.Proofs.YtnehaidkhpjpbaaDoor
