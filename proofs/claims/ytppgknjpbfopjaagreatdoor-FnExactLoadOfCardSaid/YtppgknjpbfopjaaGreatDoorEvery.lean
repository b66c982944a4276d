/- impl.every over integers, with isKind; kinds that are valid. (Written by tools/gen_every.py.) -/
import Derived.Test.YtppgknjpbfopjaaGreatDoorInts
import Derived.Test.YtppgknjpbfopjaaGreatDoorFb
namespace Go.Proofs.YtppgknjpbfopjaaGreatDoor
open Go.ChangeShapes Go.WideShapes Go.ChangeAt Go.RowKit
set_option linter.unusedVariables false
theorem all_no {α : Type} (p : α → Bool) (d : α) {l : List α} {j : Nat} (h : j < l.length) (g : p (l.getD j d) = false) : l.all p = false := by
  rw [List.all_eq_false]
  exact ⟨l.getD j d, by simp [List.getD, h], by rw [g]; simp⟩
theorem all_yes {α : Type} (p : α → Bool) (d : α) {l : List α} (g : ∀ j, j < l.length → p (l.getD j d) = true) : l.all p = true := by
  rw [List.all_eq_true]
  intro z hz
  obtain ⟨j, hj, rfl⟩ := List.getElem_of_mem hz
  have := g j hj
  simpa [List.getD, hj] using this
theorem everyKind_any (l : List Int) (a : Option Addr) (c : Nat) (hm : l.length ≤ maxLen) (w : World) (hz : Lies w a (kC l)) :
    Calls Tryz.prog 132 #[.slice a l.length c, .func (.func 133) #[] #[]] w fun e w' => e = .returned (.bool (l.all kindB)) ∧ w = w' := by
  unfold maxLen at hm
  have HZ := Lib.hid hz
  have HKN := Lib.hid (fun j (h : j < l.length) (g : kindB (l.getD j 0) = false) => all_no kindB 0 h g)
  have HKY := Lib.hid (fun h => all_yes kindB 0 (l := l) h)
  clear hz
  generalize l.all kindB = R at *
  generalize hL : l.length = n at *
  have HL := Lib.hid hL
  clear hL
  go_enter Tryz.func132, Tryz.ntmps132
  go_wp2
  go_loop [9] (fun i => ∃ j : Nat, j ≤ n ∧ i = .int .i64 j ∧ Hid (∀ q, q < j → kindB (l.getD q 0) = true)) (fun i => n - (intOf i).toNat)
  case atStart => exact ⟨0, Nat.zero_le _, rfl, Lib.hid (by intro q hq; omega)⟩
  case round =>
    obtain ⟨j, hj, rfl, hr⟩ := hrel
    by_cases hlt : j < n
    · obtain ⟨b, o, rfl, hbl, hcs⟩ := HZ.out.open (by rw [kC_len, HL.out]; omega)
      have c0 := kind_at hcs (i := j) (by rw [HL.out]; exact hlt)
      clear hcs
      cases hk : kindB (l.getD j 0)
      · have HR := Lib.hid (HKN.out j hlt hk)
        have HC := Lib.hid hk
        clear hk
        generalize l.getD j 0 = z at *
        go_wp2_with (go_at_call 133; refine (isKind_is HC.out _).mono ?_; rintro e w' ⟨rfl, rfl⟩)
        go_ret
        exact ⟨by rw [HR.out]; rfl, rfl⟩
      · have HC := Lib.hid hk
        have HN : Hid (∀ q, q < j + 1 → kindB (l.getD q 0) = true) := Lib.hid (fun q hq => by
          by_cases e : q = j
          · rw [e]; exact HC.out
          · exact hr.out q (by omega))
        clear hk
        generalize l.getD j 0 = z at *
        go_wp2_with (go_at_call 133; refine (isKind_is HC.out _).mono ?_; rintro e w' ⟨rfl, rfl⟩)
        go_round
        case rel => exact ⟨j + 1, by omega, by go_num, HN⟩
        case measure => simp [intOf]; omega
    · obtain rfl : j = n := by omega
      have HR := Lib.hid (HKY.out hr.out)
      go_wp2
      go_ret
      exact ⟨by rw [HR.out]; rfl, rfl⟩
def kindsB (ks : List Int) : Bool := decide (ks.length ≤ 8) && ks.all kindB
theorem kindsB_long {ks : List Int} (h : 8 < ks.length) : kindsB ks = false := by unfold kindsB; rw [decide_eq_false (by omega)]; rfl
theorem kindsB_short {ks : List Int} (h : ks.length ≤ 8) : kindsB ks = ks.all kindB := by unfold kindsB; rw [decide_eq_true h]; rfl
theorem kindsB_no {ks : List Int} {j : Nat} (h : j < ks.length) (g : kindB (ks.getD j 0) = false) : kindsB ks = false := by
  unfold kindsB
  rw [all_no kindB 0 h g]
  simp
theorem kindsB_yes {ks : List Int} (h : ks.length ≤ 8) (g : ∀ j, j < ks.length → kindB (ks.getD j 0) = true) : kindsB ks = true := by
  unfold kindsB
  rw [decide_eq_true h, Bool.true_and]
  exact all_yes kindB 0 g
theorem kindsB_all {ks : List Int} (h : kindsB ks = true) : ks.length ≤ 8 ∧ ∀ z ∈ ks, kindB z = true := by
  unfold kindsB at h
  simp only [Bool.and_eq_true, decide_eq_true_iff, List.all_eq_true] at h
  exact h
theorem kindsOK_any (k : Option Addr) (c : Nat) (ks : List Int) (hm : ks.length ≤ maxLen) (w : World) (hz : Lies w k (kC ks)) : Calls Tryz.prog 72 #[.slice k ks.length c] w fun e w' => e = .returned (.bool (kindsB ks)) ∧ w = w' := by
  have HE := Lib.hid (everyKind_any ks k c hm w hz)
  clear hz
  by_cases h8 : 8 < ks.length
  · have HR := Lib.hid (kindsB_long h8)
    generalize ks.length = n at *
    clear HE
    go_enter Tryz.func72, Tryz.ntmps72
    go_wp2
    go_ret
    exact ⟨by rw [HR.out]; rfl, rfl⟩
  · have HR := Lib.hid (kindsB_short (Nat.le_of_not_lt h8))
    rw [← HR.out] at HE
    have h9 : (ks.length : Int) ≤ 8 := by omega
    generalize kindsB ks = R at *
    generalize ks.length = n at *
    clear HR
    go_enter Tryz.func72, Tryz.ntmps72
    go_wp2_with (go_at_call 132; refine HE.out.mono ?_; rintro e w' ⟨rfl, rfl⟩)
    go_ret
    exact ⟨rfl, rfl⟩
end Go.Proofs.YtppgknjpbfopjaaGreatDoor
