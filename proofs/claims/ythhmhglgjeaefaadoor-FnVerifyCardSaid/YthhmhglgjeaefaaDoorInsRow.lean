/- Lists of instructions: the copies, comparisons, marks of the laws. -/
import Derived.Test.YthhmhglgjeaefaaDoorInsOK
import Derived.Test.YthhmhglgjeaefaaDoorRow
import Derived.Test.YthhmhglgjeaefaaDoorInts
import Derived.Test.YthhmhglgjeaefaaDoorDig
import Derived.IntWalk
import Derived.WalkSmall
import Derived.Deep.QuietTactic
import Derived.BigQuiet
import Derived.Deep.RegionWith
import Derived.Deep.DeepMust
import Derived.Outline
namespace Go.Proofs.YthhmhglgjeaefaaDoor
open Go.ChangeShapes Go.WideShapes Go.ChangeAt Go.RowKit
def insC (z : Int × Int) : List Value := [.int .i64 z.1, .int .i64 z.2]
theorem insC_len (z : Int × Int) : (insC z).length = 2 := rfl
/-- The cells of element i. -/
theorem ins_at {w : World} {b o : Nat} {zs : List (Int × Int)} (h : ∀ (j : Nat) v, (flat insC zs)[j]? = some v → w.cell? ⟨b, o + j, none⟩ = some v) {i : Nat} (hi : i < zs.length) :
    w.cell? ⟨b, o + i * 2, none⟩ = some (.int .i64 (zs.getD i (0, 0)).1) ∧ w.cell? ⟨b, o + i * 2 + 1, none⟩ = some (.int .i64 (zs.getD i (0, 0)).2) := by
  have hx : zs[i]? = some (zs.getD i (0, 0)) := by simp [List.getD, hi]
  have h0 := flat_at insC_len hx (j := 0) (by omega)
  have h1 := flat_at insC_len hx (j := 1) (by omega)
  exact ⟨h (i * 2) _ h0, h (i * 2 + 1) _ h1⟩
/-- What mark leaves: the numbers from m on, one a field. -/
def marks (m : Int) : Nat → List (Int × Int)
  | 0 => []
  | k + 1 => marks m k ++ [(m + 2 * k, m + 2 * k + 1)]
theorem marks_len (m : Int) (k : Nat) : (marks m k).length = k := by
  induction k with
  | zero => rfl
  | succ k ih => simp [marks, ih]
theorem marks_at (m : Int) : ∀ (n k : Nat), k < n → (marks m n)[k]? = some (m + 2 * k, m + 2 * k + 1)
  | n + 1, k, h => by
    by_cases e : k < n
    · rw [marks, List.getElem?_append_left (by rw [marks_len]; exact e)]
      exact marks_at m n k e
    · obtain rfl : k = n := by omega
      rw [marks, List.getElem?_append_right (by rw [marks_len]; exact Nat.le_refl _), marks_len]
      simp
theorem marks_take (m : Int) (n k : Nat) (h : k ≤ n) : (marks m n).take k = marks m k := by
  apply List.ext_getElem?
  intro i
  by_cases hi : i < k
  · rw [List.getElem?_take, if_pos hi, marks_at m n i (by omega), marks_at m k i hi]
  · rw [List.getElem?_take, if_neg hi, List.getElem?_eq_none (by rw [marks_len]; omega)]
theorem lengthError_any (a : Option Addr) (n c : Nat) (w : World) : Calls Tryd.prog 29 #[.slice a n c] w fun e w' => e = .returned (.int .i64 (if 4096 < n then 2 else if 40 < n then 6 else 0)) ∧ w = w' := by
  by_cases h1 : 4096 < n
  · rw [if_pos h1]
    go_enter Tryd.func29, Tryd.ntmps29
    go_wp2
    go_ret
    exact ⟨rfl, rfl⟩
  rw [if_neg h1]
  by_cases h2 : 40 < n
  · rw [if_pos h2]
    go_enter Tryd.func29, Tryd.ntmps29
    go_wp2
    go_ret
    exact ⟨rfl, rfl⟩
  rw [if_neg h2]
  go_enter Tryd.func29, Tryd.ntmps29
  go_wp2
  go_ret
  exact ⟨rfl, rfl⟩
theorem lengthError_is {n : Nat} {z : Int} (h : (if 4096 < n then (2 : Int) else if 40 < n then 6 else 0) = z) (a : Option Addr) (c : Nat) (w : World) : Calls Tryd.prog 29 #[.slice a n c] w fun e w' => e = .returned (.int .i64 z) ∧ w = w' := h ▸ lengthError_any a n c w
end Go.Proofs.YthhmhglgjeaefaaDoor
