/- A number is taken back from its bytes, wherever these lie. -/
import Derived.Test.YtgbhihenflooeaaDoorTake
namespace Go.Proofs.YtgbhihenflooeaaDoor
open Go.RowKit Go.PlainAid
theorem bt_list (l : List UInt8) (k : Nat) : bt ⟨l.toArray⟩ k = ((l.getD k 0).toNat : Int) := by
  unfold bt
  split
  · rename_i h
    have h' : k < l.length := h
    rw [List.getD_eq_getElem?_getD, List.getElem?_eq_getElem h']
    rfl
  · rename_i h
    have h' : ¬ k < l.length := h
    rw [List.getD_eq_getElem?_getD, List.getElem?_eq_none (by omega)]
    rfl
theorem bt_getD (s : ByteArray) (k : Nat) : bt s k = ((s.data.toList.getD k 0).toNat : Int) := bt_list s.data.toList k
theorem app_list (a b : ByteArray) : (a ++ b).data.toList = a.data.toList ++ b.data.toList := by
  rw [ByteArray.data_append]; simp
theorem size_list (a : ByteArray) : a.data.toList.length = a.size := by rw [Array.length_toList]; rfl
theorem getD_left {α : Type} (a b : List α) (k : Nat) (d : α) (h : k < a.length) : (a ++ b).getD k d = a.getD k d := by
  rw [List.getD_eq_getElem?_getD, List.getD_eq_getElem?_getD, List.getElem?_append_left h]
theorem getD_right {α : Type} (a b : List α) (k : Nat) (d : α) (h : a.length ≤ k) : (a ++ b).getD k d = b.getD (k - a.length) d := by
  rw [List.getD_eq_getElem?_getD, List.getD_eq_getElem?_getD, List.getElem?_append_right h]
theorem bt_left (a b : ByteArray) (k : Nat) (h : k < a.size) : bt (a ++ b) k = bt a k := by
  rw [bt_getD, bt_getD, app_list, getD_left _ _ _ _ (by rw [size_list]; exact h)]
theorem bt_right (a b : ByteArray) (k : Nat) : bt (a ++ b) (a.size + k) = bt b k := by
  rw [bt_getD, bt_getD, app_list, getD_right _ _ _ _ (by rw [size_list]; omega), size_list, Nat.add_sub_cancel_left]
theorem putTo_get (n : Int) (m k : Nat) (h : k < m) : (putTo n m).getD k 0 = bytN n k := by
  induction m with
  | zero => omega
  | succ m ih =>
    rw [putTo]
    by_cases e : k < m
    · rw [getD_left _ _ _ _ (by rw [putTo_len]; exact e)]
      exact ih e
    · have : k = m := by omega
      subst this
      rw [getD_right _ _ _ _ (by rw [putTo_len]; exact Nat.le_refl _), putTo_len, Nat.sub_self]
      rfl
theorem bt_put {n size : Int} (h : fitsN n size = true) (k : Nat) (hk : k < size.toNat) : bt (putS n size) k = n / 2 ^ (8 * k) % 256 := by
  rw [putS_yes h, bt_list, putTo_get _ _ _ hk, bytN_nat]
theorem putS_sz {n size : Int} (h : fitsN n size = true) : (putS n size).size = size.toNat := by rw [putS_yes h]; exact putTo_len _ _
theorem take_put (a b : ByteArray) {n size : Int} (h : fitsN n size = true) : takeF (a ++ putS n size ++ b) a.size size = n := by
  have hs := putS_sz h
  have key : ∀ k, k < size.toNat → bt (a ++ putS n size ++ b) (a.size + k) = n / 2 ^ (8 * k) % 256 := by
    intro k hk
    rw [bt_left _ _ _ (by rw [ByteArray.size_append, hs]; omega), bt_right, bt_put h k hk]
  rcases of_decide_eq_true h with ⟨rfl, h1, h2⟩ | ⟨rfl, h1, h2⟩ | ⟨rfl, h1, h2⟩
  · have k0 := key 0 (by decide)
    simp at k0
    rw [takeF_1, k0]
    split <;> omega
  · have k0 := key 0 (by decide)
    have k1 := key 1 (by decide)
    simp at k0 k1
    rw [takeF_2]
    unfold raw2
    rw [k0, k1]
    split <;> omega
  · have k0 := key 0 (by decide)
    have k1 := key 1 (by decide)
    have k2 := key 2 (by decide)
    have k3 := key 3 (by decide)
    simp at k0 k1 k2 k3
    rw [takeF_4]
    unfold raw4
    rw [k0, k1, k2, k3]
    split <;> omega
theorem putC_fits {n size : Int} (h : fitsN n size = true) : putC n size = 0 := putC_yes h
end Go.Proofs.YtgbhihenflooeaaDoor
