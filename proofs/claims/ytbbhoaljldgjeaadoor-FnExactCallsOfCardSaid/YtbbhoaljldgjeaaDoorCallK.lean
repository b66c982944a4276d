/- Marks of integers, and the routines that code calls, as spec finds them. -/
import Derived.Test.YtbbhoaljldgjeaaDoorCallJ
import Derived.Test.YtbbhoaljldgjeaaDoorRdCode
namespace Go.Proofs.YtbbhoaljldgjeaaDoor
open Go.ChangeShapes Go.WideShapes Go.ChangeAt Go.RowKit
set_option linter.unusedVariables false
/-- Whether n is called among the first i. -/
def hasN (zs : List Ins) (n i : Nat) : Bool := (zs.take i).any (fun x => decide (x.1 = 26 ∧ x.2 = (n : Int)))
def vcI (zs : List Ins) (n i : Nat) : List Int := if hasN zs n i = true then vcN zs n ++ [(n : Int)] else vcN zs n
theorem vcI_zero (zs : List Ins) (n : Nat) : vcI zs n 0 = vcN zs n := by simp [vcI, hasN]
theorem vcI_all (zs : List Ins) (n : Nat) : vcI zs n zs.length = vcN zs (n + 1) := by
  unfold vcI hasN vcN
  rw [List.take_length, List.range_succ, List.filter_append, List.map_append]
  by_cases h : zs.any (fun x => decide (x.1 = 26 ∧ x.2 = (n : Int))) = true
  · rw [if_pos h]; simp only [List.filter_cons, List.filter_nil, h]; rfl
  · rw [if_neg h]; simp only [List.filter_cons, List.filter_nil, h]; simp
theorem hasN_succ {zs : List Ins} {n i : Nat} (h : i < zs.length) : hasN zs n (i + 1) = (hasN zs n i || decide ((zs.getD i (0, 0)).1 = 26 ∧ (zs.getD i (0, 0)).2 = (n : Int))) := by
  have e : zs.getD i (0, 0) = zs[i] := by simp [List.getD, h]
  unfold hasN
  rw [List.take_succ_eq_append_getElem h, List.any_append, e]
  simp
theorem vcI_skip {zs : List Ins} {n i : Nat} (h : i < zs.length) (g : hasN zs n i = true ∨ ¬ ((zs.getD i (0, 0)).1 = 26 ∧ (zs.getD i (0, 0)).2 = (n : Int))) : vcI zs n (i + 1) = vcI zs n i := by
  unfold vcI
  rw [hasN_succ h]
  rcases g with g | g
  · rw [g]; rfl
  · rw [decide_eq_false g, Bool.or_false]
theorem vcI_add {zs : List Ins} {n i : Nat} (h : i < zs.length) (g : hasN zs n i = false) (g2 : (zs.getD i (0, 0)).1 = 26 ∧ (zs.getD i (0, 0)).2 = (n : Int)) : vcI zs n (i + 1) = vcI zs n i ++ [(n : Int)] := by
  unfold vcI
  rw [hasN_succ h, g, decide_eq_true g2]
  rfl
theorem vcN_lt (zs : List Ins) (n : Nat) : ∀ v ∈ vcN zs n, v < (n : Int) := by
  intro v hv
  unfold vcN at hv
  simp only [List.mem_map, List.mem_filter, List.mem_range] at hv
  obtain ⟨q, ⟨h, _⟩, rfl⟩ := hv
  omega
theorem vcN_len (zs : List Ins) (n : Nat) : (vcN zs n).length ≤ n := by
  unfold vcN
  rw [List.length_map]
  have := List.length_filter_le (fun q : Nat => zs.any (fun x => decide (x.1 = 26 ∧ x.2 = (q : Int)))) (List.range n)
  simpa using this
theorem vcI_len (zs : List Ins) (n i : Nat) : (vcI zs n i).length ≤ n + 1 := by
  have := vcN_len zs n
  unfold vcI
  split
  · simp; omega
  · omega
/-- The last of those met: n itself if it was called, a smaller one if not. -/
theorem vcI_last {zs : List Ins} {n i : Nat} (h : 0 < (vcI zs n i).length) : ∃ z : Int, (vcI zs n i)[(vcI zs n i).length - 1]? = some z ∧ (hasN zs n i = true → z = n) ∧ (hasN zs n i = false → z < n) := by
  cases hb : hasN zs n i
  · have e : vcI zs n i = vcN zs n := by unfold vcI; rw [hb]; rfl
    rw [e] at h ⊢
    refine ⟨(vcN zs n)[(vcN zs n).length - 1]'(by omega), by simp, by simp, fun _ => ?_⟩
    exact vcN_lt zs n _ (List.getElem_mem _)
  · have e : vcI zs n i = vcN zs n ++ [(n : Int)] := by unfold vcI; rw [if_pos hb]
    rw [e]
    exact ⟨n, by simp, fun _ => rfl, by simp⟩
theorem vcI_pos {zs : List Ins} {n i : Nat} (h : hasN zs n i = true) : 0 < (vcI zs n i).length := by
  unfold vcI
  rw [if_pos h]
  simp
def marksI (m : Int) : Nat → List Int
  | 0 => []
  | k + 1 => marksI m k ++ [m + k]
theorem marksI_len (m : Int) (k : Nat) : (marksI m k).length = k := by
  induction k with
  | zero => rfl
  | succ k ih => simp [marksI, ih]
theorem marksI_at (m : Int) : ∀ (n k : Nat), k < n → (marksI m n)[k]? = some (m + k)
  | n + 1, k, h => by
    by_cases e : k < n
    · rw [marksI, List.getElem?_append_left (by rw [marksI_len]; exact e)]
      exact marksI_at m n k e
    · obtain rfl : k = n := by omega
      rw [marksI, List.getElem?_append_right (by rw [marksI_len]; exact Nat.le_refl _), marksI_len]
      simp
theorem markIntS_any (B g n cap : Nat) (xs : List Value) (m : Int) (hm : 0 ≤ m ∧ m ≤ 1000000000) (hn : n ≤ 1048576) (w : World) (ho : w.ownsRow B 3 1 (.slice (some ⟨g, 0, none⟩) n cap) n xs) :
    Calls Tryd.prog 33 #[.slice (some ⟨g, 0, none⟩) n cap, .int .i64 m] w fun e w' => e = .returned (.int .i64 (m + n)) ∧ w'.ownsRow B 3 1 (.slice (some ⟨g, 0, none⟩) n cap) n (kC (marksI m n)) ∧ w.grownBy w' (some g) := by
  have Ho := Lib.hid (Filled.zero (enc := kI) (zs := marksI m n) ho)
  have HKF := Lib.hid (kC_flat (marksI m n))
  clear ho
  go_enter Tryd.func33, Tryd.ntmps33
  go_wp2
  go_loopw [1, 5] (fun q i wr => ∃ k : Nat, k ≤ n ∧ i = .int .i64 k ∧ q = .int .i64 (m + k) ∧ Hid (Filled kI 1 wr B 3 g n cap (marksI m n) k) ∧ Hid (w.grownBy wr (some g))) (fun _ i _ => n - (intOf i).toNat)
  case atStart => exact ⟨0, Nat.zero_le _, rfl, by go_num, Ho, Lib.hid (World.grownBy.refl _ _)⟩
  case round =>
    obtain ⟨k, hk, rfl, rfl, ho, hg⟩ := hrel
    by_cases hlt : k < n
    · obtain ⟨v0, e0⟩ := ho.out.there hlt 0 (by omega)
      have f0 := ho.out.free (k * 1)
      obtain ⟨hs, hg2⟩ := ho.out.store kI_len (marksI_len m n) (marksI_at m n k hlt)
      rw [Nat.mul_one] at hs hg2 f0
      rw [Nat.mul_one, Nat.add_zero] at e0
      have Hs : Hid (Filled kI 1 (wr.setCell ⟨g, k, none⟩ (.int .i64 (m + k))) B 3 g n cap (marksI m n) (k + 1)) := Lib.hid hs
      have Hg : Hid (w.grownBy (wr.setCell ⟨g, k, none⟩ (.int .i64 (m + k))) (some g)) := Lib.hid (row_tr hg.out hg2)
      clear hs hg2
      go_wp2
      go_roundw
      case rel => exact ⟨k + 1, by omega, by go_num, by go_num, Hs, Hg⟩
      case measure => simp [intOf]; omega
    · obtain rfl : k = n := by omega
      go_wp2
      go_ret
      exact ⟨rfl, HKF.out ▸ ho.out.full (marksI_len m k), hg.out⟩
def MarkIPost (B n : Nat) (v : Value) (m : Int) (w : World) (e : Ending) (w' : World) : Prop :=
  e = .returned (.int .i64 (m + n)) ∧ w'.ownsRow B 3 1 v n (kC (marksI m n)) ∧ w.grownBy w' v.ownBlock
theorem markIntS_own (B n c : Nat) (a : Option Addr) (xs : List Value) (m : Int) (hm : 0 ≤ m ∧ m ≤ 1000000000) (hn : n ≤ 1048576) (w : World) (ho : w.ownsRow B 3 1 (.slice a n c) n xs) :
    Calls Tryd.prog 33 #[.slice a n c, .int .i64 m] w (MarkIPost B n (.slice a n c) m w) := by
  rcases own_form ho with ⟨hv, rfl⟩ | ⟨g, c', hv⟩
  · simp only [Value.slice.injEq] at hv
    obtain ⟨rfl, _, rfl⟩ := hv
    clear ho
    go_enter Tryd.func33, Tryd.ntmps33
    go_wp2
    go_loop [1, 5] (fun q i => q = .int .i64 m ∧ i = .int .i64 0) (fun _ i => 0)
    case atStart => exact ⟨rfl, rfl⟩
    case round =>
      obtain ⟨rfl, rfl⟩ := hrel
      go_wp2
      go_ret
      exact ⟨by simp, World.ownsRow_nil _ _ _ _, World.grownBy.refl _ _⟩
  · simp only [Value.slice.injEq] at hv
    obtain ⟨rfl, _, rfl⟩ := hv
    exact (markIntS_any B g n c xs m hm hn w ho).mono fun _ _ h => h
theorem heldIntS_any (n cap : Nat) (a : Option Addr) (m : Int) (hm : 0 ≤ m ∧ m ≤ 1000000000) (hn : n ≤ 1048576) (w : World) (hz : Lies w a (kC (marksI m n))) :
    Calls Tryd.prog 34 #[.slice a n cap, .int .i64 m] w fun e w' => e = .returned (.int .i64 (m + n)) ∧ w = w' := by
  have Hz := Lib.hid hz
  clear hz
  go_enter Tryd.func34, Tryd.ntmps34
  go_wp2
  go_loop [1, 5] (fun q i => ∃ k : Nat, k ≤ n ∧ i = .int .i64 k ∧ q = .int .i64 (m + k)) (fun _ i => n - (intOf i).toNat)
  case atStart => exact ⟨0, Nat.zero_le _, rfl, by go_num⟩
  case round =>
    obtain ⟨k, hk, rfl, rfl⟩ := hrel
    by_cases hlt : k < n
    · obtain ⟨b, o, rfl, hbl, hcs⟩ := Hz.out.open (by rw [kC_len, marksI_len]; omega)
      have c0 := kind_at hcs (i := k) (by rw [marksI_len]; exact hlt)
      have hx : (marksI m n).getD k 0 = m + k := by rw [List.getD, marksI_at m n k hlt]; rfl
      rw [hx] at c0
      clear hcs hx
      go_wp2
      go_round
      case rel => exact ⟨k + 1, by omega, by go_num, by go_num⟩
      case measure => simp [intOf]; omega
    · obtain rfl : k = n := by omega
      go_wp2
      go_ret
      exact ⟨rfl, rfl⟩
end Go.Proofs.YtbbhoaljldgjeaaDoor
