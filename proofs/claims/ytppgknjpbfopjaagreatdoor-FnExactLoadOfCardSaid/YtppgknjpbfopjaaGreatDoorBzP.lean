/- Busy periods, as plain functions. -/
import Derived.WalkKit
namespace Go.Proofs.YtppgknjpbfopjaaGreatDoor
open Go.RowKit
set_option linter.unusedVariables false
/-- Rounded up. -/
def quo (n p : Int) : Int := (n + p - 1) / p
/-- What comes within n ticks. -/
def dem : List Int → List Int → Int → Int → Int
  | c :: cs, p :: ps, b, n => dem cs ps (b + quo n p * c) n
  | _, _, b, _ => b
theorem quo_mono {a b p : Int} (h : a ≤ b) (hp : 1 ≤ p) : quo a p ≤ quo b p := by
  unfold quo
  exact Int.ediv_le_ediv (by omega) (by omega)
theorem quo_bd {n p : Int} (hn : 0 ≤ n) (hp : 1 ≤ p) : 0 ≤ quo n p ∧ quo n p ≤ n := by
  unfold quo
  refine ⟨Int.ediv_nonneg (by omega) (by omega), ?_⟩
  by_cases h : n = 0
  · subst h
    rw [Int.ediv_eq_zero_of_lt (by omega) (by omega)]
    omega
  · have h2 : n + p - 1 ≤ n * p := by
      have : 0 ≤ (n - 1) * (p - 1) := Int.mul_nonneg (by omega) (by omega)
      have e : (n - 1) * (p - 1) = n * p - n - p + 1 := by
        rw [Int.sub_mul, Int.mul_sub, Int.mul_sub]; omega
      omega
    exact Int.ediv_le_of_le_mul (by omega) h2
theorem dem_step {cs ps : List Int} {k : Nat} (h : k < cs.length) (hl : cs.length = ps.length) (b n : Int) :
    dem (cs.drop k) (ps.drop k) b n = dem (cs.drop (k + 1)) (ps.drop (k + 1)) (b + quo n (ps.getD k 0) * cs.getD k 0) n := by
  rw [List.drop_eq_getElem_cons h, List.drop_eq_getElem_cons (show k < ps.length by omega)]
  have e1 : cs.getD k 0 = cs[k] := by simp [List.getD, h]
  have e2 : ps.getD k 0 = ps[k] := by simp [List.getD, show k < ps.length by omega]
  rw [e1, e2]
  rfl
theorem dem_end {cs ps : List Int} (hl : cs.length = ps.length) (b n : Int) : dem (cs.drop cs.length) (ps.drop cs.length) b n = b := by
  rw [List.drop_eq_nil_of_le (Nat.le_refl _), List.drop_eq_nil_of_le (by omega)]
  rfl
/-- Costs and periods in their ranges. -/
def Rng (cs ps : List Int) : Prop := cs.length = ps.length ∧ (∀ i, i < cs.length → 0 ≤ cs.getD i 0 ∧ cs.getD i 0 ≤ 5000) ∧ ∀ i, i < cs.length → 1 ≤ ps.getD i 0 ∧ ps.getD i 0 ≤ 5000
theorem Rng.tail {c p : Int} {cs ps : List Int} (h : Rng (c :: cs) (p :: ps)) : (0 ≤ c ∧ c ≤ 5000) ∧ (1 ≤ p ∧ p ≤ 5000) ∧ Rng cs ps := by
  obtain ⟨h1, h2, h3⟩ := h
  refine ⟨by simpa using h2 0 (by simp), by simpa using h3 0 (by simp), by simpa using h1, fun i hi => ?_, fun i hi => ?_⟩
  · simpa using h2 (i + 1) (by simp; omega)
  · simpa using h3 (i + 1) (by simp; omega)
theorem dem_mono : ∀ (cs ps : List Int), Rng cs ps → ∀ (b b' n n' : Int), b ≤ b' → n ≤ n' → 0 ≤ n → dem cs ps b n ≤ dem cs ps b' n'
  | [], _, _, b, b', n, n', h, _, _ => by simpa [dem] using h
  | _ :: _, [], hr, _, _, _, _, _, _, _ => by have := hr.1; simp at this
  | c :: cs, p :: ps, hr, b, b', n, n', h, hn, h0 => by
    obtain ⟨hc, hp, ht⟩ := hr.tail
    simp only [dem]
    refine dem_mono cs ps ht _ _ _ _ ?_ hn h0
    have := Int.mul_le_mul_of_nonneg_right (quo_mono hn hp.1) hc.1
    omega
theorem dem_cost : ∀ (cs cs' ps : List Int), Rng cs ps → Rng cs' ps → (∀ i, cs.getD i 0 ≤ cs'.getD i 0) → ∀ (b b' n : Int), b ≤ b' → 0 ≤ n → dem cs ps b n ≤ dem cs' ps b' n
  | [], [], _, _, _, _, b, b', n, h, _ => by simpa [dem] using h
  | [], _ :: _, _, hr, hr', _, _, _, _, _, _ => by have := hr.1; have := hr'.1; simp at *; omega
  | _ :: _, [], _, hr, hr', _, _, _, _, _, _ => by have := hr.1; have := hr'.1; simp at *; omega
  | _ :: _, _ :: _, [], hr, _, _, _, _, _, _, _ => by have := hr.1; simp at this
  | c :: cs, c' :: cs', p :: ps, hr, hr', hle, b, b', n, h, h0 => by
    obtain ⟨hc, hp, ht⟩ := hr.tail
    obtain ⟨hc', _, ht'⟩ := hr'.tail
    simp only [dem]
    refine dem_cost cs cs' ps ht ht' (fun i => by simpa using hle (i + 1)) _ _ _ ?_ h0
    have h1 : c ≤ c' := by simpa using hle 0
    have := Int.mul_le_mul_of_nonneg_left h1 (quo_bd h0 hp.1).1
    omega
/-- From a number of ticks to what they demand. -/
def bz (f : Int → Int) : Nat → Int → Int × Int
  | 0, _ => (0, 18)
  | k + 1, t => if 5000 < t then (0, 18) else if f t ≤ t then (t, 0) else bz f k (f t)
theorem bz_over {f : Int → Int} {k : Nat} {t : Int} (h : 5000 < t) : bz f k t = (0, 18) := by
  cases k with
  | zero => rfl
  | succ k => simp only [bz]; rw [if_pos h]
theorem bz_done {f : Int → Int} {k : Nat} {t : Int} (h : t ≤ 5000) (hk : 5001 ≤ k + t) (hf : f t ≤ t) : bz f k t = (t, 0) := by
  cases k with
  | zero => omega
  | succ k => simp only [bz]; rw [if_neg (by omega), if_pos hf]
theorem bz_next {f : Int → Int} {k : Nat} {t : Int} (h : t ≤ 5000) (hk : 5001 ≤ k + t) (hf : ¬ f t ≤ t) : ∃ k' : Nat, bz f k t = bz f k' (f t) ∧ 5001 ≤ k' + f t := by
  cases k with
  | zero => omega
  | succ k => refine ⟨k, ?_, by omega⟩; simp only [bz]; rw [if_neg (by omega), if_neg hf]
theorem bz_first {f : Int → Int} {k : Nat} (hk : 5000 ≤ k) : bz f (k + 1) 1 = bz f (k + 1) (max (f 1) 1) := by
  by_cases h : f 1 ≤ 1
  · rw [show max (f 1) 1 = 1 by omega]
  · rw [show max (f 1) 1 = f 1 by omega]
    by_cases h5 : 5000 < f 1
    · rw [bz_over h5]
      obtain ⟨k', e, _⟩ := bz_next (f := f) (k := k + 1) (t := 1) (by omega) (by omega) h
      rw [e, bz_over h5]
    · have e1 : bz f (k + 1) 1 = bz f k (f 1) := by simp only [bz]; rw [if_neg (by omega), if_neg h]
      rw [e1]
      exact bz_fuel f _ _ _ (by omega) (by omega)
where
  bz_fuel (f : Int → Int) : ∀ (k k' : Nat) (t : Int), 5001 ≤ k + t → 5001 ≤ k' + t → bz f k t = bz f k' t
    | 0, k', t, h, _ => by rw [bz_over (show 5000 < t by omega), bz_over (show 5000 < t by omega)]
    | k + 1, 0, t, _, h => by rw [bz_over (show 5000 < t by omega), bz_over (show 5000 < t by omega)]
    | k + 1, k' + 1, t, h, h' => by
      by_cases h5 : 5000 < t
      · rw [bz_over h5, bz_over h5]
      · by_cases hf : f t ≤ t
        · rw [bz_done (by omega) (by omega) hf, bz_done (by omega) (by omega) hf]
        · simp only [bz]
          rw [if_neg h5, if_neg hf]
          rw [if_neg h5, if_neg hf]
          exact bz_fuel f k k' (f t) (by omega) (by omega)
theorem bz_code (f : Int → Int) : ∀ (k : Nat) (t : Int), (bz f k t).2 = 0 ∧ t ≤ (bz f k t).1 ∧ (bz f k t).1 ≤ 5000 ∧ f (bz f k t).1 ≤ (bz f k t).1 ∨ bz f k t = (0, 18)
  | 0, _ => .inr rfl
  | k + 1, t => by
    by_cases h5 : 5000 < t
    · exact .inr (bz_over h5)
    · by_cases hf : f t ≤ t
      · have e : bz f (k + 1) t = (t, 0) := by simp only [bz]; rw [if_neg h5, if_pos hf]
        rw [e]
        exact .inl ⟨rfl, Int.le_refl _, by omega, hf⟩
      · have e : bz f (k + 1) t = bz f k (f t) := by simp only [bz]; rw [if_neg h5, if_neg hf]
        rw [e]
        rcases bz_code f k (f t) with ⟨h1, h2, h3, h4⟩ | h
        · exact .inl ⟨h1, by omega, h3, h4⟩
        · exact .inr h
/-- No time less than the one that is found suffices. -/
theorem bz_least (f : Int → Int) (hm : ∀ a b, 0 ≤ a → a ≤ b → f a ≤ f b) : ∀ (k : Nat) (t : Int), 1 ≤ t → (∀ s, 1 ≤ s → s < t → s < f s) → (bz f k t).2 = 0 → ∀ s, 1 ≤ s → s < (bz f k t).1 → s < f s
  | 0, _, _, _, h => by cases h
  | k + 1, t, h1, hs, h => by
    by_cases h5 : 5000 < t
    · rw [bz_over h5] at h; cases h
    · by_cases hf : f t ≤ t
      · have e : bz f (k + 1) t = (t, 0) := by simp only [bz]; rw [if_neg h5, if_pos hf]
        rw [e]
        exact hs
      · have e : bz f (k + 1) t = bz f k (f t) := by simp only [bz]; rw [if_neg h5, if_neg hf]
        rw [e] at h ⊢
        refine bz_least f hm k (f t) (by omega) (fun s q1 q2 => ?_) h
        by_cases q : s < t
        · exact hs s q1 q
        · have := hm t s (by omega) (by omega)
          omega
def workB (n : Int) : Bool := decide (0 ≤ n ∧ n ≤ 5000)
def taskB (n : Int) : Bool := decide (1 ≤ n ∧ n ≤ 5000)
def bzV (cs ps : List Int) (b : Int) : Int × Int := bz (dem cs ps b) 5001 1
/-- What BusyPeriod answers. -/
def busyF (cs ps : List Int) (b : Int) : Int × Int :=
  if 4096 < cs.length ∨ 4096 < ps.length then (0, 2)
  else if cs.length ≠ ps.length then (0, 8)
  else if 5 < cs.length then (0, 6)
  else if (cs.all workB && ps.all taskB && workB b) = false then (0, 4)
  else bzV cs ps b
theorem rng_of {cs ps : List Int} (hl : cs.length = ps.length) (h1 : cs.all workB = true) (h2 : ps.all taskB = true) : Rng cs ps := by
  rw [List.all_eq_true] at h1 h2
  refine ⟨hl, fun i hi => ?_, fun i hi => ?_⟩
  · have := h1 (cs.getD i 0) (by rw [List.getD, List.getElem?_eq_getElem hi]; exact List.getElem_mem hi)
    simpa [workB] using this
  · have hi' : i < ps.length := by omega
    have := h2 (ps.getD i 0) (by rw [List.getD, List.getElem?_eq_getElem hi']; exact List.getElem_mem hi')
    simpa [taskB] using this
theorem dem_ge : ∀ (cs ps : List Int), Rng cs ps → ∀ (b n : Int), 0 ≤ n → b ≤ dem cs ps b n
  | [], _, _, b, n, _ => by simp [dem]
  | _ :: _, [], hr, _, _, _ => by have := hr.1; simp at this
  | c :: cs, p :: ps, hr, b, n, h0 => by
    obtain ⟨hc, hp, ht⟩ := hr.tail
    simp only [dem]
    have := dem_ge cs ps ht (b + quo n p * c) n h0
    have := Int.mul_nonneg (quo_bd h0 hp.1).1 hc.1
    omega
end Go.Proofs.YtppgknjpbfopjaaGreatDoor
