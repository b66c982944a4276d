/- The routines that code calls, as lists. -/
import Derived.Test.YthhmhglgjeaefaaDoorVLaw
import Derived.Lib.SlicesCompact
import Derived.Lib.OwnBridge
namespace Go.Proofs.YthhmhglgjeaefaaDoor
open Go.ChangeShapes Go.WideShapes Go.ChangeAt Go.RowKit
set_option linter.unusedVariables false
def callsL (zs : List Ins) : List Int := (zs.filter fun x => decide (x.1 = 26)).map (·.2)
def srt (l : List Int) : List Int := l.mergeSort fun x y => decide (x ≤ y)
theorem srt_len (l : List Int) : (srt l).length = l.length := List.length_mergeSort l
theorem srt_mem (l : List Int) (v : Int) : v ∈ srt l ↔ v ∈ l := List.mem_mergeSort
theorem srt_asc (l : List Int) : (srt l).Pairwise (fun x y => x ≤ y) := by
  have h := List.pairwise_mergeSort (le := fun x y : Int => decide (x ≤ y)) (fun a b c h g => by simp only [decide_eq_true_iff] at *; omega) (fun a b => by simp only [Bool.or_eq_true, decide_eq_true_iff]; omega) l
  exact h.imp (fun h => by simpa using h)
theorem inc_ext : ∀ (a b : List Int), a.Pairwise (· < ·) → b.Pairwise (· < ·) → (∀ v, v ∈ a ↔ v ∈ b) → a = b
  | [], [], _, _, _ => rfl
  | [], y :: t, _, _, h => absurd ((h y).2 (by simp)) (by simp)
  | x :: s, [], _, _, h => absurd ((h x).1 (by simp)) (by simp)
  | x :: s, y :: t, ha, hb, h => by
    obtain ⟨a1, a2⟩ := List.pairwise_cons.1 ha
    obtain ⟨b1, b2⟩ := List.pairwise_cons.1 hb
    have hxy : x = y := by
      have h1 := (h x).1 (by simp)
      have h2 := (h y).2 (by simp)
      simp only [List.mem_cons] at h1 h2
      rcases h1 with h1 | h1
      · exact h1
      · rcases h2 with h2 | h2
        · exact h2.symm
        · have := a1 y h2
          have := b1 x h1
          omega
    subst hxy
    refine congrArg _ (inc_ext s t a2 b2 fun v => ⟨fun hv => ?_, fun hv => ?_⟩)
    · have h1 := (h v).1 (by simp [hv])
      simp only [List.mem_cons] at h1
      rcases h1 with h1 | h1
      · have := a1 v hv; omega
      · exact h1
    · have h1 := (h v).2 (by simp [hv])
      simp only [List.mem_cons] at h1
      rcases h1 with h1 | h1
      · have := b1 v hv; omega
      · exact h1
theorem arr_get {l : List Int} {i : Nat} (h : i < l.length) : l.toArray[i]! = l[i] := by
  rw [getElem!_pos _ i (by simpa using h)]
  simp
theorem cmp_inc {l : List Int} (h : l.Pairwise (fun x y => x ≤ y)) : (Lib.compact l).Pairwise (· < ·) := by
  unfold Lib.compact Lib.compactUpTo
  refine List.pairwise_map.2 ((List.pairwise_lt_range.filter _).imp_of_mem fun {i j} hi hj hij => ?_)
  simp only [List.mem_filter, List.mem_range] at hi hj
  have hk := hj.2
  unfold Lib.keeps at hk
  simp only [decide_eq_true_iff] at hk
  have hk2 : l.toArray[j]! ≠ l.toArray[j - 1]! := by
    rcases hk with h0 | h0
    · omega
    · exact h0
  rw [arr_get hj.1, arr_get (by omega)] at hk2
  rw [arr_get hi.1, arr_get hj.1]
  have e1 : l[j - 1]'(by omega) ≤ l[j]'hj.1 := List.pairwise_iff_getElem.1 h (j - 1) j (by omega) hj.1 (by omega)
  have e2 : l[i]'hi.1 ≤ l[j - 1]'(by omega) := by
    by_cases e : i = j - 1
    · subst e; exact Int.le_refl _
    · exact List.pairwise_iff_getElem.1 h i (j - 1) hi.1 (by omega) (by omega)
  have hne : ¬ l[j]'hj.1 = l[j - 1]'(by omega) := hk2
  omega
theorem cmp_first (l : List Int) : ∀ i, i < l.length → ∃ j, j ≤ i ∧ Lib.keeps l.toArray j = true ∧ l.toArray[j]! = l.toArray[i]!
  | 0, h => ⟨0, Nat.le_refl _, Lib.keeps_lt_one _ 0 (by omega), rfl⟩
  | i + 1, h => by
    by_cases hk : Lib.keeps l.toArray (i + 1) = true
    · exact ⟨i + 1, Nat.le_refl _, hk, rfl⟩
    · obtain ⟨j, hj, h1, h2⟩ := cmp_first l i (by omega)
      refine ⟨j, by omega, h1, h2.trans ?_⟩
      unfold Lib.keeps at hk
      simp only [decide_eq_true_iff, Nat.add_sub_cancel] at hk
      exact Classical.byContradiction fun q => hk (.inr fun e => q e.symm)
theorem cmp_mem (l : List Int) (v : Int) : v ∈ Lib.compact l ↔ v ∈ l := by
  unfold Lib.compact Lib.compactUpTo
  simp only [List.mem_map, List.mem_filter, List.mem_range]
  constructor
  · rintro ⟨i, ⟨hi, _⟩, rfl⟩
    rw [arr_get hi]
    exact List.getElem_mem hi
  · intro hv
    obtain ⟨i, hi, rfl⟩ := List.getElem_of_mem hv
    obtain ⟨j, hj, h1, h2⟩ := cmp_first l i hi
    exact ⟨j, ⟨by omega, h1⟩, by rw [h2, arr_get hi]⟩
/-- The first n numbers that are called. -/
def vcN (zs : List Ins) (n : Nat) : List Int := ((List.range n).filter (fun q : Nat => zs.any (fun x => decide (x.1 = 26 ∧ x.2 = (q : Int))))).map (fun q : Nat => (q : Int))
theorem vcN_six (zs : List Ins) : vcN zs 6 = vCalls zs := rfl
theorem vcN_inc (zs : List Ins) (n : Nat) : (vcN zs n).Pairwise (· < ·) := by
  unfold vcN
  exact List.pairwise_map.2 ((List.pairwise_lt_range.filter _).imp fun h => by omega)
theorem callsL_mem (zs : List Ins) (v : Int) : v ∈ callsL zs ↔ ∃ x ∈ zs, x.1 = 26 ∧ x.2 = v := by
  unfold callsL
  simp only [List.mem_map, List.mem_filter, decide_eq_true_iff]
  constructor
  · rintro ⟨x, ⟨h1, h2⟩, h3⟩; exact ⟨x, h1, h2, h3⟩
  · rintro ⟨x, h1, h2, h3⟩; exact ⟨x, ⟨h1, h2⟩, h3⟩
theorem vcN_mem (zs : List Ins) (n : Nat) (v : Int) : v ∈ vcN zs n ↔ (0 ≤ v ∧ v < n) ∧ ∃ x ∈ zs, x.1 = 26 ∧ x.2 = v := by
  unfold vcN
  simp only [List.mem_map, List.mem_filter, List.mem_range, List.any_eq_true, decide_eq_true_iff]
  constructor
  · rintro ⟨q, ⟨h1, x, hx, h2, h3⟩, rfl⟩; exact ⟨by omega, x, hx, h2, h3⟩
  · rintro ⟨h1, x, hx, h2, h3⟩; exact ⟨v.toNat, ⟨by omega, x, hx, h2, by omega⟩, by omega⟩
theorem calls_eq {zs : List Ins} (h : okAll zs = true) : Lib.compact (srt (callsL zs)) = vCalls zs := by
  refine inc_ext _ _ (cmp_inc (srt_asc _)) (by rw [← vcN_six]; exact vcN_inc zs 6) fun v => ?_
  rw [cmp_mem, srt_mem, callsL_mem, ← vcN_six, vcN_mem]
  constructor
  · rintro ⟨x, hx, h1, h2⟩
    refine ⟨?_, x, hx, h1, h2⟩
    unfold okAll at h
    rw [List.all_eq_true] at h
    have hk := h x hx
    rw [h1] at hk
    obtain ⟨_, h3, h4⟩ := okB_yes (k := 26) hk
    have e1 : opLo 26 = 0 := rfl
    have e2 : opHi 26 = 5 := rfl
    omega
  · rintro ⟨_, hx⟩; exact hx
theorem callsL_take {zs : List Ins} {j : Nat} (h : j < zs.length) : callsL (zs.take (j + 1)) = if (zs.getD j (0, 0)).1 = 26 then callsL (zs.take j) ++ [(zs.getD j (0, 0)).2] else callsL (zs.take j) := by
  have e : zs.getD j (0, 0) = zs[j] := by simp [List.getD, h]
  rw [List.take_succ_eq_append_getElem h, e]
  unfold callsL
  rw [List.filter_append, List.map_append]
  by_cases g : zs[j].1 = 26
  · rw [if_pos g]; simp [g]
  · rw [if_neg g]; simp [g]
theorem callsL_le (zs : List Ins) : (callsL zs).length ≤ zs.length := by
  unfold callsL
  rw [List.length_map]
  exact List.length_filter_le _ _
end Go.Proofs.YthhmhglgjeaefaaDoor
