/- Structures of code and their ends, which do not cross. -/
import Derived.Test.YtnehaidkhpjpbaaDoorVer
namespace Go.Proofs.YtnehaidkhpjpbaaDoor
set_option linter.unusedVariables false
/-- What a search finds: the end's place and operation, and the else's. -/
theorem go_found : ∀ (l : List Ins) (i : Nat) (d : Nat) (o : Int) (x : Int × Int), vMatchGo l i d o = some x →
    (∃ m : Nat, m < l.length ∧ x.2 = ((i + m : Nat) : Int) ∧ (l.getD m (0, 0)).1 = 23) ∧ (x.1 = o ∨ ∃ m : Nat, m < l.length ∧ x.1 = ((i + m : Nat) : Int) ∧ (l.getD m (0, 0)).1 = 22 ∧ x.1 < x.2)
  | [], i, d, o, x, h => by rw [vMatchGo] at h; exact absurd h (by simp)
  | z :: r, i, d, o, x, h => by
    have step : ∀ d' o', (o' = o ∨ o' = (i : Int) ∧ z.1 = 22) → vMatchGo r ((i : Int) + 1) d' o' = some x → (∃ m : Nat, m < (z :: r).length ∧ x.2 = ((i + m : Nat) : Int) ∧ ((z :: r).getD m (0, 0)).1 = 23) ∧ (x.1 = o ∨ ∃ m : Nat, m < (z :: r).length ∧ x.1 = ((i + m : Nat) : Int) ∧ ((z :: r).getD m (0, 0)).1 = 22 ∧ x.1 < x.2) := by
      intro d' o' ho hg
      obtain ⟨⟨m, h1, h2, h3⟩, h4⟩ := go_found r (i + 1) d' o' x (by rw [← hg]; rfl)
      refine ⟨⟨m + 1, by simpa using h1, by rw [h2]; omega, by simpa using h3⟩, ?_⟩
      rcases h4 with h4 | ⟨q, g1, g2, g3, g4⟩
      · rcases ho with ho | ⟨ho, hz⟩
        · exact .inl (h4.trans ho)
        · exact .inr ⟨0, by simp, by rw [h4, ho]; simp, by simpa using hz, by rw [h4, ho, h2]; omega⟩
      · exact .inr ⟨q + 1, by simpa using g1, by rw [g2]; omega, by simpa using g3, g4⟩
    rw [vMatchGo.eq_def] at h
    dsimp only at h
    split at h
    · exact step _ _ (.inl rfl) h
    · split at h
      · rename_i h22
        refine step _ _ ?_ h
        by_cases hd : d = 0
        · rw [if_pos hd]; exact .inr ⟨rfl, h22⟩
        · rw [if_neg hd]; exact .inl rfl
      · split at h
        · rename_i h23
          cases d with
          | zero =>
            simp only [Option.some.injEq] at h
            subst h
            exact ⟨⟨0, by simp, by simp, by simpa using h23⟩, .inl rfl⟩
          | succ d => exact step _ _ (.inl rfl) h
        · exact step _ _ (.inl rfl) h
/-- A search at a smaller depth ends earlier. -/
theorem go_less : ∀ (l : List Ins) (i : Int) (a b : Nat) (o p : Int) (x : Int × Int), b < a → vMatchGo l i a o = some x → ∃ y, vMatchGo l i b p = some y ∧ y.2 < x.2 ∧ i ≤ y.2
  | [], i, a, b, o, p, x, hab, h => by rw [vMatchGo] at h; exact absurd h (by simp)
  | z :: r, i, a, b, o, p, x, hab, h => by
    have step : ∀ a' b' o' p', b' < a' → vMatchGo r (i + 1) a' o' = some x → ∃ y, vMatchGo r (i + 1) b' p' = some y ∧ y.2 < x.2 ∧ i ≤ y.2 := by
      intro a' b' o' p' hl hg
      obtain ⟨y, h1, h2, h3⟩ := go_less r (i + 1) a' b' o' p' x hl hg
      exact ⟨y, h1, h2, by omega⟩
    rw [vMatchGo.eq_def] at h ⊢
    dsimp only at h ⊢
    by_cases h1 : z.1 = 21 ∨ z.1 = 24
    · rw [if_pos h1] at h ⊢
      exact step _ _ _ _ (by omega) h
    · rw [if_neg h1] at h ⊢
      by_cases h2 : z.1 = 22
      · rw [if_pos h2] at h ⊢
        exact step _ _ _ _ hab h
      · rw [if_neg h2] at h ⊢
        by_cases h3 : z.1 = 23
        · rw [if_pos h3] at h ⊢
          cases a with
          | zero => omega
          | succ a =>
            dsimp only at h
            cases b with
            | zero =>
              refine ⟨(p, i), rfl, ?_, Int.le_refl _⟩
              have key : ∀ (l : List Ins) (i : Int) (d : Nat) (o : Int) (x : Int × Int), vMatchGo l i d o = some x → i ≤ x.2 := by
                intro l
                induction l with
                | nil => intro i d o x h; rw [vMatchGo] at h; exact absurd h (by simp)
                | cons z r ih =>
                  intro i d o x h
                  rw [vMatchGo.eq_def] at h
                  dsimp only at h
                  split at h
                  · have := ih _ _ _ _ h; omega
                  · split at h
                    · have := ih _ _ _ _ h; omega
                    · split at h
                      · cases d with
                        | zero => simp only [Option.some.injEq] at h; subst h; exact Int.le_refl _
                        | succ d => have := ih _ _ _ _ h; omega
                      · have := ih _ _ _ _ h; omega
              have := key _ _ _ _ _ h
              show i < x.2
              omega
            | succ b => exact step _ _ _ _ (by omega) h
        · rw [if_neg h3] at h ⊢
          exact step _ _ _ _ hab h
/-- A search goes through every place ahead of its end. -/
theorem go_pass : ∀ (m : Nat) (l : List Ins) (i : Nat) (d : Nat) (o : Int) (x : Int × Int), vMatchGo l i d o = some x → ((i + m : Nat) : Int) ≤ x.2 → ∃ d' o', vMatchGo (l.drop m) ((i + m : Nat) : Int) d' o' = some x
  | 0, l, i, d, o, x, h, _ => ⟨d, o, h⟩
  | m + 1, [], i, d, o, x, h, _ => by rw [vMatchGo] at h; exact absurd h (by simp)
  | m + 1, z :: r, i, d, o, x, h, hx => by
    have step : ∀ d' o', vMatchGo r ((i : Int) + 1) d' o' = some x → ∃ d' o', vMatchGo ((z :: r).drop (m + 1)) ((i + (m + 1) : Nat) : Int) d' o' = some x := by
      intro d' o' hg
      obtain ⟨d2, o2, h2⟩ := go_pass m r (i + 1) d' o' x (by rw [← hg]; rfl) (by omega)
      refine ⟨d2, o2, ?_⟩
      rw [← h2, List.drop_succ_cons]
      congr 1
      omega
    rw [vMatchGo.eq_def] at h
    dsimp only at h
    split at h
    · exact step _ _ h
    · split at h
      · exact step _ _ h
      · split at h
        · cases d with
          | zero =>
            simp only [Option.some.injEq] at h
            subst h
            dsimp only at hx
            omega
          | succ d => exact step _ _ h
        · exact step _ _ h
def opens (zs : List Ins) (k : Nat) : Prop := (zs.getD k (0, 0)).1 = 21 ∨ (zs.getD k (0, 0)).1 = 24
instance (zs : List Ins) (k : Nat) : Decidable (opens zs k) := by unfold opens; exact inferInstance
/-- The match at a place, none where no structure opens. -/
def mAt (zs : List Ins) (k : Nat) : Option (Int × Int) := if opens zs k then vMatch zs k else none
theorem mAt_found {zs : List Ins} {k : Nat} {x : Int × Int} (h : mAt zs k = some x) :
    (∃ m : Nat, k < m ∧ m < zs.length ∧ x.2 = (m : Int) ∧ (zs.getD m (0, 0)).1 = 23) ∧ (x.1 = 0 ∨ ∃ m : Nat, k < m ∧ m < zs.length ∧ x.1 = (m : Int) ∧ (zs.getD m (0, 0)).1 = 22 ∧ x.1 < x.2) := by
  unfold mAt at h
  split at h
  · unfold vMatch at h
    obtain ⟨⟨m, h1, h2, h3⟩, h4⟩ := go_found (zs.drop (k + 1)) (k + 1) 0 0 x (by rw [← h]; rfl)
    have e : ∀ q : Nat, (zs.drop (k + 1)).getD q (0, 0) = zs.getD (k + 1 + q) (0, 0) := by
      intro q; simp [List.getD]
    rw [e] at h3
    rw [List.length_drop] at h1
    refine ⟨⟨k + 1 + m, by omega, by omega, h2, h3⟩, ?_⟩
    rcases h4 with h4 | ⟨q, g1, g2, g3, g4⟩
    · exact .inl h4
    · rw [e] at g3
      rw [List.length_drop] at g1
      exact .inr ⟨k + 1 + q, by omega, by omega, g2, g3, g4⟩
  · exact absurd h (by simp)
/-- Ends are different, and do not cross. -/
theorem mAt_apart {zs : List Ins} {i k : Nat} (hik : i < k) {x y : Int × Int} (hi : mAt zs i = some x) (hk : mAt zs k = some y) : ¬ x.2 = y.2 ∧ ¬ (x.2 > (k : Int) ∧ y.2 > x.2) := by
  have fx := (mAt_found hi).1
  have fy := (mAt_found hk).1
  obtain ⟨m, m1, m2, m3, m4⟩ := fx
  obtain ⟨n, n1, n2, n3, n4⟩ := fy
  have ho : opens zs k := by
    unfold mAt at hk
    split at hk
    · assumption
    · exact absurd hk (by simp)
  by_cases hmk : (k : Int) < x.2
  · have hi2 := hi
    unfold mAt at hi2
    split at hi2
    · unfold vMatch at hi2
      obtain ⟨d, o, h⟩ := go_pass (k - (i + 1)) (zs.drop (i + 1)) (i + 1) 0 0 x (by rw [← hi2]; rfl) (by omega)
      rw [List.drop_drop, show i + 1 + (k - (i + 1)) = k by omega] at h
      have hlt : k < zs.length := by omega
      have eg : zs.getD k (0, 0) = zs[k] := by simp [List.getD, hlt]
      unfold opens at ho
      rw [eg] at ho
      rw [List.drop_eq_getElem_cons hlt, vMatchGo.eq_def] at h
      dsimp only at h
      rw [if_pos ho] at h
      obtain ⟨u, hu, hlu, _⟩ := go_less _ _ (d + 1) 0 _ 0 _ (Nat.succ_pos d) h
      have hy : mAt zs k = some u := by
        unfold mAt
        rw [if_pos (by unfold opens; rw [eg]; exact ho)]
        unfold vMatch
        exact hu
      rw [hk] at hy
      simp only [Option.some.injEq] at hy
      subst hy
      exact ⟨by omega, by omega⟩
    · exact absurd hi2 (by simp)
  · refine ⟨?_, by omega⟩
    intro e
    omega
/-- The ends met so far. -/
def endsL (zs : List Ins) (i : Nat) : List Int := (List.range i).filterMap fun k => (mAt zs k).map (·.2)
theorem endsL_len (zs : List Ins) (i : Nat) : (endsL zs i).length ≤ i := by
  unfold endsL
  have := List.length_filterMap_le (fun k => (mAt zs k).map (·.2)) (List.range i)
  simpa using this
theorem endsL_none {zs : List Ins} {i : Nat} (h : mAt zs i = none) : endsL zs (i + 1) = endsL zs i := by
  unfold endsL
  rw [List.range_succ, List.filterMap_append]
  simp [h]
theorem endsL_some {zs : List Ins} {i : Nat} {x : Int × Int} (h : mAt zs i = some x) : endsL zs (i + 1) = endsL zs i ++ [x.2] := by
  unfold endsL
  rw [List.range_succ, List.filterMap_append]
  simp [h]
theorem endsL_apart {zs : List Ins} {i : Nat} {x : Int × Int} (h : mAt zs i = some x) : ∀ e ∈ endsL zs i, ¬ e = x.2 ∧ ¬ (e > (i : Int) ∧ x.2 > e) := by
  intro e he
  unfold endsL at he
  simp only [List.mem_filterMap, List.mem_range, Option.map_eq_some_iff] at he
  obtain ⟨k, hk, y, hy, rfl⟩ := he
  exact mAt_apart hk hy h
end Go.Proofs.YtnehaidkhpjpbaaDoor
