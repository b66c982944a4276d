/- Frames: what is read of a frame, of one with another byte, of a prefix, of one with a byte more. -/
import Derived.Test.YtlohjeidaemejaaDoorRound
import Derived.Test.YtlohjeidaemejaaDoorRead
import Derived.Test.YtlohjeidaemejaaDoorBytI
import Derived.Test.YtlohjeidaemejaaDoorHexI
namespace Go.Proofs.YtlohjeidaemejaaDoor
open Go.RowKit Go.PlainAid
theorem bt_ext {a b : ByteArray} (hs : a.size = b.size) (h : ∀ k, k < a.size → bt a k = bt b k) : a = b := by
  apply ByteArray.ext
  apply Array.ext (by exact hs)
  intro i h1 h2
  have hk := h i h1
  unfold bt at hk
  rw [dif_pos (show i < a.size from h1), dif_pos (show i < b.size from h2)] at hk
  have : (a[i]'h1).toNat = (b[i]'h2).toNat := by omega
  exact UInt8.toNat_inj.1 this
theorem bt_extract (s : ByteArray) (a b k : Nat) (_hb : b ≤ s.size) (hk : a + k < b) : bt (s.extract a b) k = bt s (a + k) := by
  rw [bt_getD, bt_getD, Lib.extract_data, List.getD_eq_getElem?_getD, List.getD_eq_getElem?_getD, List.getElem?_take, if_pos (by omega), List.getElem?_drop]
theorem sumTo_congr {a b : ByteArray} {k : Nat} (h : ∀ j, j < k → bt a j = bt b j) : sumTo a k = sumTo b k := by
  induction k with
  | zero => rfl
  | succ k ih => rw [sumTo_succ, sumTo_succ, ih (fun j hj => h j (by omega)), h k (by omega)]
theorem sumTo_diff {a b : ByteArray} {i : Nat} (hi : bt a i ≠ bt b i) (ho : ∀ j, j ≠ i → bt a j = bt b j) : ∀ k, i < k → sumTo a k ≠ sumTo b k := by
  intro k
  induction k with
  | zero => intro h; omega
  | succ k ih =>
    intro hk
    have a0 := bt_nonneg a k
    have a1 := bt_le a k
    have b0 := bt_nonneg b k
    have b1 := bt_le b k
    rw [sumTo_succ, sumTo_succ]
    by_cases e : k = i
    · subst e
      have hs : sumTo a k = sumTo b k := sumTo_congr (fun j hj => ho j (by omega))
      rw [hs]
      omega
    · have h1 := ih (by omega)
      have h2 := ho k e
      have p := sumTo_bd a k
      have q := sumTo_bd b k
      rw [h2]
      omega
theorem mark_iff (r : ByteArray) (h : 4 ≤ r.size) : markB r = true ↔ bt r 0 = 80 ∧ bt r 1 = 76 ∧ bt r 2 = 67 ∧ bt r 3 = 49 := by
  unfold markB
  rw [Lib.extract_toList, bt_getD, bt_getD, bt_getD, bt_getD]
  have hl : 4 ≤ r.data.toList.length := by rw [size_list]; exact h
  match hm : r.data.toList, hl with
  | x0 :: x1 :: x2 :: x3 :: l, _ =>
    simp [List.getD]
    constructor
    · rintro ⟨rfl, rfl, rfl, rfl⟩
      decide
    · rintro ⟨h0, h1, h2, h3⟩
      refine ⟨UInt8.toNat_inj.1 ?_, UInt8.toNat_inj.1 ?_, UInt8.toNat_inj.1 ?_, UInt8.toNat_inj.1 ?_⟩
      all_goals
        first
          | (rw [show (80 : UInt8).toNat = 80 from rfl]; omega)
          | (rw [show (76 : UInt8).toNat = 76 from rfl]; omega)
          | (rw [show (67 : UInt8).toNat = 67 from rfl]; omega)
          | (rw [show (49 : UInt8).toNat = 49 from rfl]; omega)
theorem take4_inj {a b : ByteArray} {p q : Nat} (h : takeF a p 4 = takeF b q 4) : bt a p = bt b q ∧ bt a (p + 1) = bt b (q + 1) ∧ bt a (p + 2) = bt b (q + 2) ∧ bt a (p + 3) = bt b (q + 3) := by
  have := bt_nonneg a p
  have := bt_le a p
  have := bt_nonneg a (p + 1)
  have := bt_le a (p + 1)
  have := bt_nonneg a (p + 2)
  have := bt_le a (p + 2)
  have := bt_nonneg a (p + 3)
  have := bt_le a (p + 3)
  have := bt_nonneg b q
  have := bt_le b q
  have := bt_nonneg b (q + 1)
  have := bt_le b (q + 1)
  have := bt_nonneg b (q + 2)
  have := bt_le b (q + 2)
  have := bt_nonneg b (q + 3)
  have := bt_le b (q + 3)
  rw [takeF_4, takeF_4] at h
  unfold raw4 at h
  split at h <;> split at h <;> omega
theorem take2_inj {a b : ByteArray} {p q : Nat} (h : takeF a p 2 = takeF b q 2) : bt a p = bt b q ∧ bt a (p + 1) = bt b (q + 1) := by
  have := bt_nonneg a p
  have := bt_le a p
  have := bt_nonneg a (p + 1)
  have := bt_le a (p + 1)
  have := bt_nonneg b q
  have := bt_le b q
  have := bt_nonneg b (q + 1)
  have := bt_le b (q + 1)
  rw [takeF_2, takeF_2] at h
  unfold raw2 at h
  split at h <;> split at h <;> omega
theorem take2_congr {a b : ByteArray} {p : Nat} (h0 : bt a p = bt b p) (h1 : bt a (p + 1) = bt b (p + 1)) : takeF a p 2 = takeF b p 2 := by
  rw [takeF_2, takeF_2]; unfold raw2; rw [h0, h1]
theorem take4_congr {a b : ByteArray} {p : Nat} (h0 : bt a p = bt b p) (h1 : bt a (p + 1) = bt b (p + 1)) (h2 : bt a (p + 2) = bt b (p + 2)) (h3 : bt a (p + 3) = bt b (p + 3)) : takeF a p 4 = takeF b p 4 := by
  rw [takeF_4, takeF_4]; unfold raw4; rw [h0, h1, h2, h3]
/-- The sum that ReadFrame holds the last two bytes against. -/
theorem sumE_eq (r : ByteArray) (h : 2 ≤ r.size) : sumE r = sumTo r (r.size - 2) := by
  unfold sumE
  exact sumTo_congr (fun j hj => by rw [bt_extract r 0 (r.size - 2) j (by omega) (by omega), Nat.zero_add])
theorem rfC_zero_iff (r : ByteArray) : rfC r = 0 ↔ 10 ≤ r.size ∧ markB r = true ∧ takeF r 4 4 = (r.size : Int) - 10 ∧ takeF r (r.size - 2) 2 = sumE r := by
  by_cases h : r.size < 10
  · rw [rfC_16 h]
    constructor
    · intro e; omega
    · rintro ⟨g, _⟩; omega
  by_cases hm : markB r = true
  · by_cases hz : takeF r 4 4 ≠ (r.size : Int) - 10
    · rw [rfC_8 h hm hz]
      constructor
      · intro e; omega
      · rintro ⟨_, _, g, _⟩; exact absurd g hz
    · by_cases hq : takeF r (r.size - 2) 2 ≠ sumE r
      · rw [rfC_9 h hm hz hq]
        constructor
        · intro e; omega
        · rintro ⟨_, _, _, g⟩; exact absurd g hq
      · rw [rfC_0 h hm hz hq]
        exact ⟨fun _ => ⟨by omega, hm, Classical.not_not.1 hz, Classical.not_not.1 hq⟩, fun _ => rfl⟩
  · have hm' : markB r = false := by simpa using hm
    rw [rfC_3 h hm']
    constructor
    · intro e; omega
    · rintro ⟨_, g, _⟩; exact absurd g hm
end Go.Proofs.YtlohjeidaemejaaDoor
