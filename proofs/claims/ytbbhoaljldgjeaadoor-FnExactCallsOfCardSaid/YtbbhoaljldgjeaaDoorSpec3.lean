/- The verifier of spec: if, else, repeat and end. -/
import Derived.Test.YtbbhoaljldgjeaaDoorSpec2
namespace Go.Proofs.YtbbhoaljldgjeaaDoor
open Go.ChangeShapes Go.WideShapes Go.ChangeAt Go.RowKit
set_option linter.unusedVariables false
theorem oc {w : World} {a : Addr} {v : Value} (h : w.cell? a = some v) (O : Obj) : (w.alloc O).cell? a = some v :=
  (((Below.refl w.heap.size w).alloc (Nat.le_refl _) O).cell (p := a) (cells_lt h)).trans h
theorem ofz {w : World} {a : Addr} {b : Bool} {v : Value} (hc : w.cell? a = some v) (h : w.frozen? a = b) (O : Obj) : (w.alloc O).frozen? a = b :=
  (((Below.refl w.heap.size w).alloc (Nat.le_refl _) O).frozen (p := a) (cells_lt hc)).trans h
def SNest (x y : Int) (p : Nat) (i : Int) (w : World) (R : Ending → World → Prop) : Prop := Calls Tryd.prog 74 #[.pointer (some ⟨p, 0, none⟩), .agg #[.int .i64 x, .int .i64 y], .int .i64 i] w R
theorem snest_deep (p c : Nat) (a : Option Addr) (x y i : Int) (ho : x = 21 ∨ x = 24) (w : World) (h : w.cell? ⟨p, 1, none⟩ = some (.slice a 4 c)) : SNest x y p i w fun e w' => e = .returned (.int .i64 17) ∧ Below w.heap.size w w' := by
  unfold SNest
  have h1 := oc h
  clear h
  rcases ho with rfl | rfl
  all_goals
    go_enter Tryd.func74, Tryd.ntmps74
    go_wp2
    go_ret
    exact ⟨rfl, (Below.refl _ _).alloc (Nat.le_refl _) _⟩
theorem snest_none (p c : Nat) (a : Option Addr) (x y i : Int) (ho : x = 22 ∨ x = 23) (w : World) (h : w.cell? ⟨p, 1, none⟩ = some (.slice a 0 c)) : SNest x y p i w fun e w' => e = .returned (.int .i64 14) ∧ Below w.heap.size w w' := by
  unfold SNest
  have h1 := oc h
  clear h
  rcases ho with rfl | rfl
  all_goals
    go_enter Tryd.func74, Tryd.ntmps74
    go_wp2
    go_ret
    exact ⟨rfl, (Below.refl _ _).alloc (Nat.le_refl _) _⟩
theorem snest_else_not (p g m c : Nat) (y i k : Int) (hm : m + 1 ≤ 100) (hk : k ≠ 21) (w : World) (h : w.cell? ⟨p, 1, none⟩ = some (.slice (some ⟨g, 0, none⟩) (m + 1) c)) (ho : w.cell? ⟨g, m * 3 + 1, none⟩ = some (.int .i64 k)) : SNest 22 y p i w fun e w' => e = .returned (.int .i64 14) ∧ Below w.heap.size w w' := by
  unfold SNest
  have h1 := oc h
  have h2 := oc ho
  have h3 : (k != 21) = true := by rw [bne_iff_ne]; exact hk
  have h4 : ((m : Int) + 1 == 0) = false := by rw [beq_eq_false_iff_ne]; omega
  clear h ho hk
  go_enter Tryd.func74, Tryd.ntmps74
  go_wp2
  go_ret
  exact ⟨rfl, (Below.refl _ _).alloc (Nat.le_refl _) _⟩
theorem snest_level (p g m c : Nat) (x y i k : Int) (S T : ByteArray) (hx : x = 22 ∧ k = 21 ∨ x = 23) (hm : m + 1 ≤ 100) (hne : (S.toList == T.toList) = false) (w : World) (h0 : w.cell? ⟨p, 0, none⟩ = some (.string S)) (h : w.cell? ⟨p, 1, none⟩ = some (.slice (some ⟨g, 0, none⟩) (m + 1) c))
    (ho : w.cell? ⟨g, m * 3 + 1, none⟩ = some (.int .i64 k)) (ht : w.cell? ⟨g, m * 3 + 2, none⟩ = some (.string T)) : SNest x y p i w fun e w' => e = .returned (.int .i64 13) ∧ Below w.heap.size w w' := by
  unfold SNest
  have h1 := oc h
  have h2 := oc ho
  have h3 := oc h0
  have h4 := oc ht
  have h5 : ((m : Int) + 1 == 0) = false := by rw [beq_eq_false_iff_ne]; omega
  have h6 : (!(S.toList == T.toList)) = true := by rw [hne]; rfl
  clear h ho h0 ht
  rcases hx with ⟨rfl, rfl⟩ | rfl
  all_goals
    go_enter Tryd.func74, Tryd.ntmps74
    go_wp2
    go_quiet (fail)
    go_wp2
    go_ret
    exact ⟨rfl, bel_dn ((Below.refl _ _).alloc (Nat.le_refl _) _) _⟩
theorem snest_else (p g m c : Nat) (y i : Int) (S T : ByteArray) (hm : m + 1 ≤ 100) (hne : (S.toList == T.toList) = true) (w : World) (h0 : w.cell? ⟨p, 0, none⟩ = some (.string S)) (h : w.cell? ⟨p, 1, none⟩ = some (.slice (some ⟨g, 0, none⟩) (m + 1) c))
    (ho : w.cell? ⟨g, m * 3 + 1, none⟩ = some (.int .i64 21)) (fo : w.frozen? ⟨g, m * 3 + 1, none⟩ = false) (ht : w.cell? ⟨g, m * 3 + 2, none⟩ = some (.string T)) :
    SNest 22 y p i w fun e w' => e = .returned (.int .i64 0) ∧ ∃ O q, w' = ((w.alloc O).drewN q).setCell ⟨g, m * 3 + 1, none⟩ (.int .i64 22) := by
  unfold SNest
  have h1 := oc h
  have h2 := oc ho
  have h3 := oc h0
  have h4 := oc ht
  have hf := ofz ho fo
  have h5 : ((m : Int) + 1 == 0) = false := by rw [beq_eq_false_iff_ne]; omega
  have h6 : (!(S.toList == T.toList)) = false := by rw [hne]; rfl
  clear h ho h0 ht fo
  go_enter Tryd.func74, Tryd.ntmps74
  go_wp2
  go_quiet (fail)
  go_wp2
  go_ret
  exact ⟨rfl, _, _, rfl⟩
theorem snest_end (p g m c : Nat) (y i k : Int) (S T : ByteArray) (hm : m + 1 ≤ 100) (hmc : m + 1 ≤ c) (hne : (S.toList == T.toList) = true) (w : World) (h0 : w.cell? ⟨p, 0, none⟩ = some (.string S)) (h : w.cell? ⟨p, 1, none⟩ = some (.slice (some ⟨g, 0, none⟩) (m + 1) c)) (fp : w.frozen? ⟨p, 1, none⟩ = false)
    (ho : w.cell? ⟨g, m * 3 + 1, none⟩ = some (.int .i64 k)) (ht : w.cell? ⟨g, m * 3 + 2, none⟩ = some (.string T)) :
    SNest 23 y p i w fun e w' => e = .returned (.int .i64 0) ∧ ∃ O q, w' = ((w.alloc O).drewN q).setCell ⟨p, 1, none⟩ (.slice (some ⟨g, 0, none⟩) m c) := by
  unfold SNest
  have h1 := oc h
  have h2 := oc ho
  have h3 := oc h0
  have h4 := oc ht
  have hf := ofz h fp
  have h5 : ((m : Int) + 1 == 0) = false := by rw [beq_eq_false_iff_ne]; omega
  have h6 : (!(S.toList == T.toList)) = false := by rw [hne]; rfl
  clear h ho h0 ht fp
  go_enter Tryd.func74, Tryd.ntmps74
  go_wp2
  go_quiet (fail)
  go_wp2
  go_ret
  exact ⟨rfl, _, _, rfl⟩
end Go.Proofs.YtbbhoaljldgjeaaDoor
