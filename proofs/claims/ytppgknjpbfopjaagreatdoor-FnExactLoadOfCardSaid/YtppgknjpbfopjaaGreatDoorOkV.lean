/- Valid instructions, in both forms. -/
import Derived.Test.YtppgknjpbfopjaaGreatDoorCostT
import Derived.Test.YtppgknjpbfopjaaGreatDoorWalk12
import Derived.Test.YtppgknjpbfopjaaGreatDoorCode
namespace Go.Proofs.YtppgknjpbfopjaaGreatDoor
set_option linter.unusedVariables false
theorem rng_op : ∀ k : Fin 27, 1 ≤ k.1 → vLo (k.1 : Int) = opLo k.1 ∧ vHi (k.1 : Int) = opHi k.1 := by decide
theorem okB_vOK {x : Ins} (h : okB x.1 x.2 = true) : vOK x = true := by
  obtain ⟨k, hk, h1, h2, h3, h4⟩ := okB_nat h
  obtain ⟨e1, e2⟩ := rng_op ⟨k, by omega⟩ h1
  unfold vOK
  rw [hk, e1, e2, decide_eq_true (show 1 ≤ (k : Int) ∧ (k : Int) ≤ 26 by omega), decide_eq_true ⟨h3, h4⟩]
  rfl
theorem okAll_vAll {zs : List Ins} (h : okAll zs = true) : vAll zs = true := by
  unfold okAll at h
  unfold vAll
  rw [List.all_eq_true] at h ⊢
  exact fun x hx => okB_vOK (h x hx)
end Go.Proofs.YtppgknjpbfopjaaGreatDoor
