/- The texts of numbers and of instructions read back: plain facts. -/
import Derived.Test.YtnokkkmokfojnaaDoorNumb
import Derived.Test.YtnokkkmokfojnaaDoorWordsM
import Derived.Test.YtnokkkmokfojnaaDoorText
namespace Go.Proofs.YtnokkkmokfojnaaDoor
open Go.RowKit Go.PlainAid Go.WideShapes Go.Lib
theorem bt_mk (l : List UInt8) (k : Nat) : bt ⟨l.toArray⟩ k = ((l.getD k 0).toNat : Int) := by
  unfold bt
  split
  · rename_i h
    have h' : k < l.length := h
    rw [List.getD_eq_getElem?_getD, List.getElem?_eq_getElem h']
    rfl
  · rename_i h
    have h' : ¬ k < l.length := h
    rw [List.getD_eq_getElem?_getD, List.getElem?_eq_none (by omega)]
    rfl
theorem mk_size (l : List UInt8) : (⟨l.toArray⟩ : ByteArray).size = l.length := by show l.toArray.size = _; simp
theorem bt_mk_left (l r : List UInt8) (k : Nat) (h : k < l.length) : bt ⟨(l ++ r).toArray⟩ k = bt ⟨l.toArray⟩ k := by
  rw [bt_mk, bt_mk, List.getD_eq_getElem?_getD, List.getD_eq_getElem?_getD, List.getElem?_append_left h]
theorem bt_mk_last (l : List UInt8) (c : UInt8) : bt ⟨(l ++ [c]).toArray⟩ l.length = (c.toNat : Int) := by
  rw [bt_mk, List.getD_eq_getElem?_getD, List.getElem?_append_right (Nat.le_refl _), Nat.sub_self]
  rfl
theorem numTo_left (l r : List UInt8) : ∀ k, k ≤ l.length → numTo ⟨(l ++ r).toArray⟩ k = numTo ⟨l.toArray⟩ k
  | 0, _ => rfl
  | k + 1, h => by rw [numTo, numTo, numTo_left l r k (by omega), bt_mk_left l r k (by omega)]
/-- What the digits of a number are. -/
theorem dig_facts (u : Nat) : (∀ k, k < (decDigits u).length → digAt ⟨(decDigits u).toArray⟩ k) ∧ numTo ⟨(decDigits u).toArray⟩ (decDigits u).length = (u : Int) ∧ 1 ≤ (decDigits u).length ∧ (bt ⟨(decDigits u).toArray⟩ 0 = 48 → (decDigits u).length = 1) := by
  induction u using Nat.strongRecOn with
  | _ u ih =>
    by_cases h : u < 10
    · rw [decDigits_one h]
      have e : (UInt8.ofNat (48 + u)).toNat = 48 + u := by rw [UInt8.toNat_ofNat']; omega
      have b0 : bt ⟨([UInt8.ofNat (48 + u)]).toArray⟩ 0 = 48 + (u : Int) := by rw [bt_mk]; show ((UInt8.ofNat (48 + u)).toNat : Int) = _; rw [e]; omega
      refine ⟨fun k hk => ?_, ?_, Nat.le_refl _, fun _ => rfl⟩
      · have : k = 0 := by simp at hk; omega
        subst this
        unfold digAt
        rw [b0]
        omega
      · show numTo _ (0 + 1) = _
        rw [numTo, b0, numTo]
        omega
    · obtain ⟨i1, i2, i3, i4⟩ := ih (u / 10) (by omega)
      have hd : decDigits u = decDigits (u / 10) ++ [UInt8.ofNat (48 + u % 10)] := by rw [decDigits, dif_neg h]
      rw [hd]
      generalize decDigits (u / 10) = l at *
      have e : (UInt8.ofNat (48 + u % 10)).toNat = 48 + u % 10 := by rw [UInt8.toNat_ofNat']; omega
      refine ⟨fun k hk => ?_, ?_, by simp, fun h48 => ?_⟩
      · rw [List.length_append, List.length_singleton] at hk
        by_cases hl : k < l.length
        · have := i1 k hl
          unfold digAt at *
          rwa [bt_mk_left l _ k hl]
        · obtain rfl : k = l.length := by omega
          unfold digAt
          rw [bt_mk_last, e]
          omega
      · rw [List.length_append, List.length_singleton, numTo, numTo_left l _ _ (Nat.le_refl _), i2, bt_mk_last, e]
        omega
      · rw [bt_mk_left l _ 0 (by omega)] at h48
        have h1 := i4 h48
        rw [h1] at i2
        rw [numTo, h48, numTo] at i2
        omega
theorem nd_le : ∀ (k u : Nat), u < 10 ^ (k + 1) → nDigits u ≤ k + 1
  | 0, u, h => by rw [nDigits_small (by simpa using h)]; omega
  | k + 1, u, h => by
    by_cases h1 : u < 10
    · rw [nDigits_small h1]; omega
    · rw [nDigits_big h1]
      have := nd_le k (u / 10) (by rw [Nat.pow_succ] at h; omega)
      omega
theorem dec_len {u : Nat} (h : u ≤ 2147483648) : (decDigits u).length ≤ 10 := by
  rw [decDigits_length]
  exact nd_le 9 u (by have : (10 : Nat) ^ (9 + 1) = 10000000000 := by decide
                      omega)
/-- A number's text is its number. -/
theorem number_itoa (a : Int) (h0 : -2147483648 ≤ a) (h1 : a ≤ 2147483647) : numOf (numD ⟨(itoa a).toArray⟩) (numNeg ⟨(itoa a).toArray⟩) = (a, true) := by
  by_cases h : 0 ≤ a
  · obtain ⟨u, rfl⟩ := Int.eq_ofNat_of_zero_le h
    rw [itoa_nonneg]
    obtain ⟨d1, d2, d3, d4⟩ := dig_facts u
    have hl := dec_len (u := u) (by omega)
    generalize decDigits u = l at *
    have b0 := d1 0 (by omega)
    unfold digAt at b0
    have hn : numNeg ⟨l.toArray⟩ = false := decide_eq_false (by rintro ⟨_, e⟩; omega)
    have hD : numD ⟨l.toArray⟩ = ⟨l.toArray⟩ := if_neg (by rw [hn]; simp)
    rw [hn, hD, numOf_yes (by rintro (e | e | ⟨e, f⟩); · rw [mk_size] at e; omega
                              · rw [mk_size] at e; omega
                              · have := d4 e; rw [mk_size] at f; rcases f with f | f; omega; cases f) (fun k hk => d1 k (by rwa [mk_size] at hk)), mk_size, d2]
    simp
  · obtain ⟨u, rfl⟩ : ∃ u : Nat, a = -(u : Int) := ⟨a.natAbs, by omega⟩
    rw [itoa_neg u (by omega)]
    obtain ⟨d1, d2, d3, d4⟩ := dig_facts u
    have hl := dec_len (u := u) (by omega)
    generalize decDigits u = l at *
    have b0 := d1 0 (by omega)
    have hn : numNeg ⟨(45 :: l).toArray⟩ = true := decide_eq_true ⟨by rw [mk_size]; simp, by rw [bt_mk]; rfl⟩
    have hD : numD ⟨(45 :: l).toArray⟩ = ⟨l.toArray⟩ := by
      unfold numD
      rw [if_pos hn]
      apply bytes_inj
      rw [mk_size]
      simp
    have hne : ¬ bt ⟨l.toArray⟩ 0 = 48 := by
      intro e
      have hl1 := d4 e
      rw [hl1, numTo, e, numTo] at d2
      omega
    rw [hn, hD, numOf_yes (by rintro (e | e | ⟨e, f⟩); · rw [mk_size] at e; omega
                              · rw [mk_size] at e; omega
                              · exact hne e) (fun k hk => d1 k (by rwa [mk_size] at hk)), mk_size, d2]
    simp
theorem parse_app : ∀ (l r : List UInt8) (acc v : Nat), parseUint10 acc l = .ok v → parseUint10 acc (l ++ r) = parseUint10 v r
  | [], r, acc, v, h => by
    simp only [parseUint10] at h
    injection h with h
    rw [h]
    rfl
  | c :: l, r, acc, v, h => by
    rw [List.cons_append]
    simp only [parseUint10] at h ⊢
    split at h
    · rename_i h1
      rw [if_pos h1]
      split at h
      · cases h
      · rename_i h2
        rw [if_neg h2]
        split at h
        · cases h
        · rename_i h3
          rw [if_neg h3]
          exact parse_app l r _ v h
    · cases h
theorem parse_dec (u : Nat) (h : u ≤ 9223372036854775808) : parseUint10 0 (decDigits u) = .ok u := by
  induction u using Nat.strongRecOn with
  | _ u ih =>
    by_cases h1 : u < 10
    · rw [decDigits_one h1]
      have e : (UInt8.ofNat (48 + u)).toNat = 48 + u := by rw [UInt8.toNat_ofNat']; omega
      simp only [parseUint10]
      rw [if_pos (by rw [e]; omega), if_neg (by omega), if_neg (by rw [e]; omega), e]
      congr 1
      omega
    · have e : (UInt8.ofNat (48 + u % 10)).toNat = 48 + u % 10 := by rw [UInt8.toNat_ofNat']; omega
      rw [decDigits, dif_neg h1, parse_app _ _ _ _ (ih (u / 10) (by omega) (by omega))]
      simp only [parseUint10]
      rw [if_pos (by rw [e]; omega), if_neg (by omega), if_neg (by rw [e]; omega), e]
      congr 1
      omega
theorem atoi_itoa (a : Int) (h0 : -2147483648 ≤ a) (h1 : a ≤ 2147483647) : atoiAll (itoa a) = .ok a := by
  by_cases h : 0 ≤ a
  · obtain ⟨u, rfl⟩ := Int.eq_ofNat_of_zero_le h
    rw [itoa_nonneg]
    obtain ⟨d1, d2, d3, d4⟩ := dig_facts u
    have hp := parse_dec u (by omega)
    generalize decDigits u = l at *
    match l, d3 with
    | c :: r, _ =>
      have b0 := d1 0 (by simp)
      unfold digAt at b0
      rw [bt_mk] at b0
      have b0' : 48 ≤ (c.toNat : Int) ∧ (c.toNat : Int) ≤ 57 := b0
      unfold atoiAll
      simp only
      rw [if_neg (by omega), parseMag, if_neg (by simp), hp]
      simp only
      rw [if_neg (by omega), if_neg (by omega), if_neg (by omega)]
  · obtain ⟨u, rfl⟩ : ∃ u : Nat, a = -(u : Int) := ⟨a.natAbs, by omega⟩
    rw [itoa_neg u (by omega)]
    obtain ⟨d1, d2, d3, d4⟩ := dig_facts u
    have hp := parse_dec u (by omega)
    generalize decDigits u = l at *
    have hl : l ≠ [] := fun e => by rw [e] at d3; simp at d3
    unfold atoiAll
    simp only
    rw [if_pos (by decide), parseMag, if_neg hl, hp]
    simp only
    rw [if_neg (by simp), if_neg (by simp; omega), if_pos (by decide)]
theorem dec_bare (u : Nat) : Bare (decDigits u) := by
  obtain ⟨d1, _, _, _⟩ := dig_facts u
  intro c hc
  obtain ⟨k, hk, rfl⟩ := List.getElem_of_mem hc
  have := d1 k hk
  unfold digAt at this
  rw [bt_mk, List.getD_eq_getElem?_getD, List.getElem?_eq_getElem hk] at this
  intro e
  rw [Option.getD_some, e] at this
  have h32 : ((32 : UInt8).toNat : Int) = 32 := rfl
  omega
theorem itoa_bare (a : Int) : Bare (itoa a) ∧ itoa a ≠ [] := by
  by_cases h : 0 ≤ a
  · obtain ⟨u, rfl⟩ := Int.eq_ofNat_of_zero_le h
    rw [itoa_nonneg]
    exact ⟨dec_bare u, fun e => by have := (dig_facts u).2.2.1; rw [e] at this; simp at this⟩
  · obtain ⟨u, rfl⟩ : ∃ u : Nat, a = -(u : Int) := ⟨a.natAbs, by omega⟩
    rw [itoa_neg u (by omega)]
    refine ⟨fun c hc => ?_, by simp⟩
    rcases List.mem_cons.1 hc with rfl | hc
    · decide
    · exact dec_bare u c hc
end Go.Proofs.YtnokkkmokfojnaaDoor
