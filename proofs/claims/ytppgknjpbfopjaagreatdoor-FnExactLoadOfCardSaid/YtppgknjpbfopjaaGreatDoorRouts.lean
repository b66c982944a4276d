/- What the verifier's texts and the drawn code share: kinds, rows of rows. -/
import Derived.Test.YtppgknjpbfopjaaGreatDoorInsRow
import Derived.Test.YtppgknjpbfopjaaGreatDoorVer
import Derived.Test.YtppgknjpbfopjaaGreatDoorFb
namespace Go.Proofs.YtppgknjpbfopjaaGreatDoor
open Go.ChangeShapes Go.WideShapes Go.ChangeAt Go.RowKit
set_option linter.unusedVariables false
theorem takesF_list : ∀ z : Int, kindB z = true → (takesF z).data.toList = tkL z := by
  intro z hz
  rcases kindB_yes hz with rfl | rfl | rfl | rfl <;> rfl
theorem tk4 (n : Int) (hk : kindB n = true) (w : World) : Calls Tryz.prog 235 #[.int .i64 n] w fun e w' => e = .returned (.string (takesF n)) ∧ Below w.heap.size w w' := by
  rcases kindB_yes hk with rfl | rfl | rfl | rfl
  all_goals
    clear hk
    go_enter Tryz.func235, Tryz.ntmps235
    go_wp2
    go_ret
    exact ⟨rfl, (Below.refl w.heap.size w).alloc (Nat.le_refl _) _⟩
/-- A list of routines: each is a slice; its instructions lie behind it. -/
abbrev RT := Option Addr × Nat × Nat
def rtC (z : RT) : List Value := [.slice z.1 z.2.1 z.2.2]
theorem rtC_len (z : RT) : (rtC z).length = 1 := rfl
structure Routs (w : World) (a : Option Addr) (ls : List (List Ins)) : Prop where
  rows : ∃ rs : List RT, rs.length = ls.length ∧ Lies w a (flat rtC rs) ∧ ∀ j, j < ls.length → (rs.getD j (none, 0, 0)).2.1 = (ls.getD j []).length ∧ Lies w (rs.getD j (none, 0, 0)).1 (flat insC (ls.getD j []))
theorem Routs.below {w w' : World} {a : Option Addr} {ls : List (List Ins)} (h : Routs w a ls) (hb : Below w.heap.size w w') : Routs w' a ls := by
  obtain ⟨rs, h1, h2, h3⟩ := h.rows
  exact ⟨rs, h1, h2.below hb (Nat.le_refl _), fun j hj => ⟨(h3 j hj).1, (h3 j hj).2.below hb (Nat.le_refl _)⟩⟩
theorem Routs.at {w : World} {a : Option Addr} {ls : List (List Ins)} (h : Routs w a ls) {j : Nat} (hj : j < ls.length) : ∃ b o x c, a = some ⟨b, o, none⟩ ∧ b < w.heap.size ∧ w.cell? ⟨b, o + j, none⟩ = some (.slice x (ls.getD j []).length c) ∧ Lies w x (flat insC (ls.getD j [])) := by
  obtain ⟨rs, h1, h2, h3⟩ := h.rows
  obtain ⟨b, o, rfl, hb, hc⟩ := h2.open (by rw [flat_len rtC_len]; omega)
  have hx : rs[j]? = some (rs.getD j (none, 0, 0)) := by simp [List.getD, h1, hj]
  have h0 := flat_at rtC_len hx (j := 0) (by omega)
  rw [Nat.mul_one, Nat.add_zero] at h0
  have hcell := hc j _ h0
  refine ⟨b, o, (rs.getD j (none, 0, 0)).1, (rs.getD j (none, 0, 0)).2.2, rfl, hb, ?_, (h3 j hj).2⟩
  rw [hcell, ← (h3 j hj).1]
end Go.Proofs.YtppgknjpbfopjaaGreatDoor
