/- Busy periods: impl's and spec's. (Written by tools/gen_bz.py.) -/
import Derived.Test.YtppgknjpbfopjaaBzP
import Derived.Test.YtppgknjpbfopjaaInts
import Derived.Test.YtppgknjpbfopjaaGen
import Derived.WalkKit
import Derived.ProofKit
import Derived.Lib.Hide
import Derived.Below
import Derived.Deep.QuietTactic
import Derived.BigQuiet
namespace Go.Proofs.Ytppgknjpbfopjaa
open Go.ChangeShapes Go.WideShapes Go.ChangeAt Go.RowKit
set_option linter.unusedVariables false
theorem bz_rb {a b : Bool} (h : a = b) : Ending.returned (.bool a) = .returned (.bool b) := by rw [h]
theorem bz_ri {a b : Int} (h : a = b) : Ending.returned (.int .i64 a) = .returned (.int .i64 b) := by rw [h]
theorem bz_r2 {a b c d : Int} (h : a = c) (g : b = d) : Ending.returned (.tuple #[.int .i64 a, .int .i64 b]) = .returned (.tuple #[.int .i64 c, .int .i64 d]) := by rw [h, g]
theorem bz_keep {w1 w2 : World} {k : Nat} {Q : Obj} (h : w1.heap[k]? = some Q) (g : Below w1.heap.size w1 w2) : w2.heap[k]? = some Q := (g.block _ (Array.getElem?_eq_some_iff.1 h).1).trans h
theorem bz_cells (w : World) (us : List Value) (t : TypeId) : ∀ (j : Nat) u, us[j]? = some u → (w.alloc (.cells us.toArray t)).cell? ((⟨w.heap.size, 0, none⟩ : Addr).add j) = some u := by
  intro j u hj
  have h := cell_of_row _ w.heap.size j _ _ _ (heap_alloc_new w (.cells us.toArray t))
  have e : (⟨w.heap.size, 0, none⟩ : Addr).add j = ⟨w.heap.size, j, none⟩ := by
    unfold Addr.add
    split
    · rename_i h0; rw [h0]
    · simp
  rw [e, h]
  simpa using hj
theorem all_no {α : Type} (p : α → Bool) (d : α) {l : List α} {j : Nat} (h : j < l.length) (g : p (l.getD j d) = false) : l.all p = false := by
  rw [List.all_eq_false]
  exact ⟨l.getD j d, by simp [List.getD, h], by rw [g]; simp⟩
theorem all_yes {α : Type} (p : α → Bool) (d : α) {l : List α} (g : ∀ j, j < l.length → p (l.getD j d) = true) : l.all p = true := by
  rw [List.all_eq_true]
  intro z hz
  obtain ⟨j, hj, rfl⟩ := List.getElem_of_mem hz
  have := g j hj
  simpa [List.getD, hj] using this
theorem quotientUp_any (a b : Int) (ha : 0 ≤ a ∧ a ≤ 3000000000000) (hb : 1 ≤ b ∧ b ≤ 5000) (w : World) : Calls Try.prog 36 #[.int .i64 a, .int .i64 b] w fun e w' => e = .returned (.int .i64 (quo a b)) ∧ w = w' := by
  have HE : Hid (quo a b = (a + b - 1) / b) := Lib.hid rfl
  obtain ⟨a1, a2⟩ := ha
  obtain ⟨b1, b2⟩ := hb
  go_enter Try.func36, Try.ntmps36
  go_wp2
  go_ret
  exact ⟨bz_ri HE.out.symm, rfl⟩
theorem isTaskTime_bz (n : Int) (w : World) : Calls Try.prog 31 #[.int .i64 n] w fun e w' => e = .returned (.bool (taskB n)) ∧ w = w' := by
  go_enter Try.func31, Try.ntmps31
  go_wp2
  all_goals (go_ret; refine ⟨bz_rb ?_, rfl⟩; simp only [taskB]; rw [Bool.eq_iff_iff]; first | (simp; omega) | (simp; done))
theorem isTaskTime_bi {n : Int} {b : Bool} (h : taskB n = b) (w : World) : Calls Try.prog 31 #[.int .i64 n] w fun e w' => e = .returned (.bool b) ∧ w = w' := h ▸ isTaskTime_bz n w
theorem isWork_bz (n : Int) (w : World) : Calls Try.prog 30 #[.int .i64 n] w fun e w' => e = .returned (.bool (workB n)) ∧ w = w' := by
  by_cases h0 : n = 0
  · subst h0
    go_enter Try.func30, Try.ntmps30
    go_wp2
    go_ret
    exact ⟨rfl, rfl⟩
  · have h1 : (n == 0) = false := beq_eq_false_iff_ne.2 h0
    have HE : Hid (taskB n = workB n) := Lib.hid (by unfold taskB workB; rw [decide_eq_decide]; omega)
    go_enter Try.func30, Try.ntmps30
    go_wp2_with (go_at_call 31; refine (isTaskTime_bz _ _).mono ?_; rintro e w' ⟨rfl, rfl⟩)
    go_ret
    exact ⟨bz_rb HE.out, rfl⟩
theorem isWork_bi {n : Int} {b : Bool} (h : workB n = b) (w : World) : Calls Try.prog 30 #[.int .i64 n] w fun e w' => e = .returned (.bool b) ∧ w = w' := h ▸ isWork_bz n w
theorem everyWork_any (l : List Int) (a : Option Addr) (c : Nat) (hm : l.length ≤ maxLen) (w : World) (hz : Lies w a (kC l)) :
    Calls Try.prog 29 #[.slice a l.length c, .func (.func 30) #[] #[]] w fun e w' => e = .returned (.bool (l.all workB)) ∧ w = w' := by
  unfold maxLen at hm
  have HZ := Lib.hid hz
  have HKN := Lib.hid (fun j (h : j < l.length) (g : workB (l.getD j 0) = false) => all_no workB 0 h g)
  have HKY := Lib.hid (fun h => all_yes workB 0 (l := l) h)
  clear hz
  generalize l.all workB = R at *
  generalize hL : l.length = n at *
  have HL := Lib.hid hL
  clear hL
  go_enter Try.func29, Try.ntmps29
  go_wp2
  go_loop [9] (fun i => ∃ j : Nat, j ≤ n ∧ i = .int .i64 j ∧ Hid (∀ q, q < j → workB (l.getD q 0) = true)) (fun i => n - (intOf i).toNat)
  case atStart => exact ⟨0, Nat.zero_le _, rfl, Lib.hid (by intro q hq; omega)⟩
  case round =>
    obtain ⟨j, hj, rfl, hr⟩ := hrel
    by_cases hlt : j < n
    · obtain ⟨b, o, rfl, hbl, hcs⟩ := HZ.out.open (by rw [kC_len, HL.out]; omega)
      have c0 := kind_at hcs (i := j) (by rw [HL.out]; exact hlt)
      clear hcs
      cases hk : workB (l.getD j 0)
      · have HR := Lib.hid (HKN.out j hlt hk)
        have HC := Lib.hid hk
        clear hk
        generalize l.getD j 0 = z at *
        go_wp2_with (go_at_call 30; refine (isWork_bi HC.out _).mono ?_; rintro e w' ⟨rfl, rfl⟩)
        go_ret
        exact ⟨by rw [HR.out]; rfl, rfl⟩
      · have HC := Lib.hid hk
        have HN : Hid (∀ q, q < j + 1 → workB (l.getD q 0) = true) := Lib.hid (fun q hq => by
          by_cases e : q = j
          · rw [e]; exact HC.out
          · exact hr.out q (by omega))
        clear hk
        generalize l.getD j 0 = z at *
        go_wp2_with (go_at_call 30; refine (isWork_bi HC.out _).mono ?_; rintro e w' ⟨rfl, rfl⟩)
        go_round
        case rel => exact ⟨j + 1, by omega, by go_num, HN⟩
        case measure => simp [intOf]; omega
    · obtain rfl : j = n := by omega
      have HR := Lib.hid (HKY.out hr.out)
      go_wp2
      go_ret
      exact ⟨by rw [HR.out]; rfl, rfl⟩
theorem everyTask_any (l : List Int) (a : Option Addr) (c : Nat) (hm : l.length ≤ maxLen) (w : World) (hz : Lies w a (kC l)) :
    Calls Try.prog 29 #[.slice a l.length c, .func (.func 31) #[] #[]] w fun e w' => e = .returned (.bool (l.all taskB)) ∧ w = w' := by
  unfold maxLen at hm
  have HZ := Lib.hid hz
  have HKN := Lib.hid (fun j (h : j < l.length) (g : taskB (l.getD j 0) = false) => all_no taskB 0 h g)
  have HKY := Lib.hid (fun h => all_yes taskB 0 (l := l) h)
  clear hz
  generalize l.all taskB = R at *
  generalize hL : l.length = n at *
  have HL := Lib.hid hL
  clear hL
  go_enter Try.func29, Try.ntmps29
  go_wp2
  go_loop [9] (fun i => ∃ j : Nat, j ≤ n ∧ i = .int .i64 j ∧ Hid (∀ q, q < j → taskB (l.getD q 0) = true)) (fun i => n - (intOf i).toNat)
  case atStart => exact ⟨0, Nat.zero_le _, rfl, Lib.hid (by intro q hq; omega)⟩
  case round =>
    obtain ⟨j, hj, rfl, hr⟩ := hrel
    by_cases hlt : j < n
    · obtain ⟨b, o, rfl, hbl, hcs⟩ := HZ.out.open (by rw [kC_len, HL.out]; omega)
      have c0 := kind_at hcs (i := j) (by rw [HL.out]; exact hlt)
      clear hcs
      cases hk : taskB (l.getD j 0)
      · have HR := Lib.hid (HKN.out j hlt hk)
        have HC := Lib.hid hk
        clear hk
        generalize l.getD j 0 = z at *
        go_wp2_with (go_at_call 31; refine (isTaskTime_bi HC.out _).mono ?_; rintro e w' ⟨rfl, rfl⟩)
        go_ret
        exact ⟨by rw [HR.out]; rfl, rfl⟩
      · have HC := Lib.hid hk
        have HN : Hid (∀ q, q < j + 1 → taskB (l.getD q 0) = true) := Lib.hid (fun q hq => by
          by_cases e : q = j
          · rw [e]; exact HC.out
          · exact hr.out q (by omega))
        clear hk
        generalize l.getD j 0 = z at *
        go_wp2_with (go_at_call 31; refine (isTaskTime_bi HC.out _).mono ?_; rintro e w' ⟨rfl, rfl⟩)
        go_round
        case rel => exact ⟨j + 1, by omega, by go_num, HN⟩
        case measure => simp [intOf]; omega
    · obtain rfl : j = n := by omega
      have HR := Lib.hid (HKY.out hr.out)
      go_wp2
      go_ret
      exact ⟨by rw [HR.out]; rfl, rfl⟩
def bzC (cs ps : List Int) (b : Int) : Int :=
  if 4096 < cs.length ∨ 4096 < ps.length then 2 else if cs.length ≠ ps.length then 8 else if 5 < cs.length then 6 else if (cs.all workB && ps.all taskB && workB b) = false then 4 else 0
theorem busyF_no {cs ps : List Int} {b : Int} (h : bzC cs ps b ≠ 0) : busyF cs ps b = (0, bzC cs ps b) := by
  unfold bzC at h ⊢
  unfold busyF
  by_cases h1 : 4096 < cs.length ∨ 4096 < ps.length
  · rw [if_pos h1, if_pos h1]
  rw [if_neg h1] at h ⊢
  rw [if_neg h1]
  by_cases h2 : cs.length ≠ ps.length
  · rw [if_pos h2, if_pos h2]
  rw [if_neg h2] at h ⊢
  rw [if_neg h2]
  by_cases h3 : 5 < cs.length
  · rw [if_pos h3, if_pos h3]
  rw [if_neg h3] at h ⊢
  rw [if_neg h3]
  by_cases h4 : (cs.all workB && ps.all taskB && workB b) = false
  · rw [if_pos h4, if_pos h4]
  · rw [if_neg h4] at h; exact absurd rfl h
theorem bzC_zero {cs ps : List Int} {b : Int} (h : bzC cs ps b = 0) : cs.length = ps.length ∧ cs.length ≤ 5 ∧ Rng cs ps ∧ (0 ≤ b ∧ b ≤ 5000) ∧ busyF cs ps b = bzV cs ps b := by
  unfold bzC at h
  by_cases h1 : 4096 < cs.length ∨ 4096 < ps.length
  · rw [if_pos h1] at h; exact absurd h (by decide)
  rw [if_neg h1] at h
  by_cases h2 : cs.length ≠ ps.length
  · rw [if_pos h2] at h; exact absurd h (by decide)
  rw [if_neg h2] at h
  by_cases h3 : 5 < cs.length
  · rw [if_pos h3] at h; exact absurd h (by decide)
  rw [if_neg h3] at h
  by_cases h4 : (cs.all workB && ps.all taskB && workB b) = false
  · rw [if_pos h4] at h; exact absurd h (by decide)
  have h5 := h4
  simp only [Bool.not_eq_false, Bool.and_eq_true] at h5
  refine ⟨by omega, by omega, rng_of (by omega) h5.1.1 h5.1.2, by simpa [workB] using h5.2, ?_⟩
  unfold busyF
  rw [if_neg h1, if_neg h2, if_neg h3, if_neg h4]
theorem busyError_any (cs ps : List Int) (b : Int) (x y : Option Addr) (c d : Nat) (hm : cs.length ≤ maxLen ∧ ps.length ≤ maxLen) (w : World) (hz : Lies w x (kC cs)) (hy : Lies w y (kC ps)) :
    Calls Try.prog 21 #[.slice x cs.length c, .slice y ps.length d, .int .i64 b] w fun e w' => e = .returned (.int .i64 (bzC cs ps b)) ∧ w = w' := by
  have HW := Lib.hid (everyWork_any cs x c hm.1 w hz)
  have HT := Lib.hid (everyTask_any ps y d hm.2 w hy)
  have hm1 := hm.1
  have hm2 := hm.2
  unfold maxLen at hm1 hm2
  clear hz hy hm
  by_cases h1 : 4096 < cs.length ∨ 4096 < ps.length
  · have HR := Lib.hid (show bzC cs ps b = 2 from if_pos h1)
    clear HW HT
    generalize bzC cs ps b = R at *
    generalize cs.length = n at *
    generalize ps.length = m at *
    by_cases ha : (4096 : Int) < (n : Int)
    · go_enter Try.func21, Try.ntmps21
      go_wp2
      go_ret
      exact ⟨bz_ri HR.out.symm, rfl⟩
    · have hb : (4096 : Int) < (m : Int) := by omega
      go_enter Try.func21, Try.ntmps21
      go_wp2
      go_ret
      exact ⟨bz_ri HR.out.symm, rfl⟩
  have a1 : ¬ (4096 : Int) < (cs.length : Int) := by omega
  have a2 : ¬ (4096 : Int) < (ps.length : Int) := by omega
  by_cases h2 : cs.length ≠ ps.length
  · have HR := Lib.hid (show bzC cs ps b = 8 from (if_neg h1).trans (if_pos h2))
    have a3 : ((cs.length : Int) != (ps.length : Int)) = true := by rw [bne_iff_ne]; omega
    clear HW HT
    generalize bzC cs ps b = R at *
    generalize cs.length = n at *
    generalize ps.length = m at *
    clear h1 h2
    go_enter Try.func21, Try.ntmps21
    go_wp2
    go_ret
    exact ⟨bz_ri HR.out.symm, rfl⟩
  have he : ps.length = cs.length := by omega
  rw [he] at HT
  by_cases h3 : 5 < cs.length
  · have HR := Lib.hid (show bzC cs ps b = 6 from (if_neg h1).trans ((if_neg h2).trans (if_pos h3)))
    rw [he]
    clear HW HT
    generalize bzC cs ps b = R at *
    generalize cs.length = n at *
    have a4 : (5 : Int) < (n : Int) := by omega
    have a5 : ((n : Int) != (n : Int)) = false := by simp
    clear h1 h2 a2 he hm2
    go_enter Try.func21, Try.ntmps21
    go_wp2
    go_ret
    exact ⟨bz_ri HR.out.symm, rfl⟩
  have HR : Hid (bzC cs ps b = if (cs.all workB && ps.all taskB && workB b) = false then 4 else 0) := Lib.hid ((if_neg h1).trans ((if_neg h2).trans (if_neg h3)))
  rw [he]
  generalize bzC cs ps b = R at *
  generalize cs.length = n at *
  have a4 : ¬ (5 : Int) < (n : Int) := by omega
  have a5 : ((n : Int) != (n : Int)) = false := by simp
  clear h1 h2 a2 he hm2 h3
  cases hA : cs.all workB
  · rw [hA] at HW HR
    have HR2 := Lib.hid (show R = 4 from HR.out)
    clear HR hA
    go_enter Try.func21, Try.ntmps21
    go_wp2_with fail
    refine Calls.mono HW.out ?_
    rintro e w' ⟨rfl, rfl⟩
    go_wp2
    go_ret
    exact ⟨bz_ri HR2.out.symm, rfl⟩
  cases hB : ps.all taskB
  · rw [hA] at HW HR
    rw [hB] at HT HR
    have HR2 := Lib.hid (show R = 4 from HR.out)
    clear HR hA hB
    go_enter Try.func21, Try.ntmps21
    go_wp2_with fail
    refine Calls.mono HW.out ?_
    rintro e w' ⟨rfl, rfl⟩
    go_wp2_with fail
    refine Calls.mono HT.out ?_
    rintro e w' ⟨rfl, rfl⟩
    go_wp2
    go_ret
    exact ⟨bz_ri HR2.out.symm, rfl⟩
  cases hC : workB b
  all_goals
    rw [hA] at HW HR
    rw [hB] at HT HR
    rw [hC] at HR
    have HR2 := Lib.hid (HR.out)
    have HC := Lib.hid hC
    clear HR hA hB hC
    go_enter Try.func21, Try.ntmps21
    go_wp2_with fail
    refine Calls.mono HW.out ?_
    rintro e w' ⟨rfl, rfl⟩
    go_wp2_with fail
    refine Calls.mono HT.out ?_
    rintro e w' ⟨rfl, rfl⟩
    go_wp2_with fail
    refine Calls.mono (isWork_bi HC.out _) ?_
    rintro e w' ⟨rfl, rfl⟩
    go_wp2
    go_ret
    exact ⟨bz_ri (by rw [HR2.out]; rfl), rfl⟩
/-- Claims: a cost and a period each. -/
def clC (z : Int × Int) : List Value := [.int .i64 z.1, .int .i64 z.2]
theorem clC_len (z : Int × Int) : (clC z).length = 2 := rfl
abbrev csO (zs : List (Int × Int)) : List Int := zs.map Prod.fst
abbrev psO (zs : List (Int × Int)) : List Int := zs.map Prod.snd
theorem csO_at (zs : List (Int × Int)) (k : Nat) : (csO zs).getD k 0 = (zs.getD k (0, 0)).1 := by
  simp only [List.getD, List.getElem?_map]; cases zs[k]? <;> rfl
theorem psO_at (zs : List (Int × Int)) (k : Nat) : (psO zs).getD k 0 = (zs.getD k (0, 0)).2 := by
  simp only [List.getD, List.getElem?_map]; cases zs[k]? <;> rfl
theorem cl_at {w : World} {b o : Nat} {zs : List (Int × Int)} (h : ∀ (j : Nat) v, (flat clC zs)[j]? = some v → w.cell? ⟨b, o + j, none⟩ = some v) {i : Nat} (hi : i < zs.length) :
    w.cell? ⟨b, o + i * 2, none⟩ = some (.int .i64 (zs.getD i (0, 0)).1) ∧ w.cell? ⟨b, o + i * 2 + 1, none⟩ = some (.int .i64 (zs.getD i (0, 0)).2) := by
  have hx : zs[i]? = some (zs.getD i (0, 0)) := by simp [List.getD, hi]
  exact ⟨h (i * 2) _ (flat_at clC_len hx (j := 0) (by omega)), h (i * 2 + 1) _ (flat_at clC_len hx (j := 1) (by omega))⟩
theorem mul_bd {q c : Int} (h1 : 0 ≤ q) (h2 : q ≤ 5000) (h3 : 0 ≤ c) (h4 : c ≤ 5000) : 0 ≤ c * q ∧ c * q ≤ 25000000 := by
  refine ⟨Int.mul_nonneg h3 h1, ?_⟩
  have := Int.mul_le_mul h4 h2 h1 (by omega : (0 : Int) ≤ 5000)
  omega
set_option maxHeartbeats 2000000 in
theorem demand_any (zs : List (Int × Int)) (b n : Int) (a : Option Addr) (c g1 g2 : Nat) (hr : Rng (csO zs) (psO zs)) (hl : zs.length ≤ 100) (hb : 0 ≤ b ∧ b ≤ 5000) (hn : 1 ≤ n ∧ n ≤ 5000) (w : World)
    (h1 : w.heap[g1]? = some (.cells #[.int .i64 b] 3 (0, 0))) (h2 : w.heap[g2]? = some (.cells #[.slice a zs.length c] 45 (0, 0))) (hz : Lies w a (flat clC zs)) :
    Calls Try.prog 35 #[.int .i64 n, .pointer (some ⟨g1, 0, none⟩), .pointer (some ⟨g2, 0, none⟩)] w fun e w' => e = .returned (.int .i64 (dem (csO zs) (psO zs) b n)) ∧ Below w.heap.size w w' := by
  have c1 := cell_of_row _ g1 0 _ _ _ h1
  have c2 := cell_of_row _ g2 0 _ _ _ h2
  have HZ := Lib.hid hz
  have HR1 := Lib.hid hr.2.1
  have HR2 := Lib.hid hr.2.2
  have HLC : Hid ((csO zs).length = zs.length) := Lib.hid (by simp [csO])
  have HST := Lib.hid (fun k (h : k < zs.length) acc => dem_step (cs := csO zs) (ps := psO zs) (k := k) (by rw [HLC.out]; exact h) hr.1 acc n)
  have HEN : Hid (∀ acc, dem ((csO zs).drop zs.length) ((psO zs).drop zs.length) acc n = acc) := Lib.hid (fun acc => by have h := dem_end (cs := csO zs) (ps := psO zs) hr.1 acc n; rwa [HLC.out] at h)
  have HD0 : Hid (dem ((csO zs).drop 0) ((psO zs).drop 0) b n = dem (csO zs) (psO zs) b n) := Lib.hid rfl
  obtain ⟨R, hR⟩ : ∃ R, dem (csO zs) (psO zs) b n = R := ⟨_, rfl⟩
  rw [hR] at HD0 ⊢
  obtain ⟨b1, b2⟩ := hb
  obtain ⟨n1, n2⟩ := hn
  clear hr h1 h2 hz hR
  go_enter Try.func35, Try.ntmps35
  go_wp2
  go_loopw [5, 11] (fun s i wr => ∃ (k : Nat) (acc : Int), k ≤ zs.length ∧ i = .int .i64 k ∧ s = .int .i64 acc ∧ 0 ≤ acc ∧ acc ≤ 5000 + 25000000 * (k : Int) ∧ Hid (dem ((csO zs).drop k) ((psO zs).drop k) acc n = R) ∧ Hid (Below w.heap.size w wr)) (fun _ i _ => zs.length - (intOf i).toNat)
  case atStart => exact ⟨0, b, Nat.zero_le _, rfl, rfl, b1, by omega, HD0, Lib.hid (Below.refl _ _)⟩
  case round =>
    obtain ⟨k, acc, hk, rfl, rfl, ha0, ha1, hd, hbl⟩ := hrel
    by_cases hlt : k < zs.length
    · obtain ⟨zb, zo, rfl, hzb, hcs⟩ := HZ.out.open (by rw [flat_len clC_len]; omega)
      obtain ⟨d0, d1⟩ := cl_at hcs hlt
      replace d0 := (hbl.out.cell (p := ⟨zb, zo + k * 2, none⟩) hzb).trans d0
      replace d1 := (hbl.out.cell (p := ⟨zb, zo + k * 2 + 1, none⟩) hzb).trans d1
      have r1 := HR1.out k (by rw [HLC.out]; exact hlt)
      have r2 := HR2.out k (by rw [HLC.out]; exact hlt)
      rw [csO_at] at r1
      rw [psO_at] at r2
      have HN := Lib.hid ((HST.out k hlt acc).symm.trans hd.out)
      rw [csO_at, psO_at] at HN
      generalize zs.getD k (0, 0) = z at *
      obtain ⟨x, p⟩ := z
      dsimp only at d0 d1 r1 r2 HN
      obtain ⟨r10, r11⟩ := r1
      obtain ⟨r20, r21⟩ := r2
      obtain ⟨q0, q1⟩ := quo_bd (n := n) (p := p) (by omega) r20
      have HQ := Lib.hid (fun X => quotientUp_any n p ⟨by omega, by omega⟩ ⟨r20, r21⟩ X)
      obtain ⟨q, hq⟩ : ∃ q, quo n p = q := ⟨_, rfl⟩
      rw [hq] at HQ HN q0 q1
      obtain ⟨m0, m1⟩ := mul_bd (q := q) (c := x) q0 (by omega) r10 r11
      rw [Int.mul_comm q x] at HN
      have e0 := dbox wr (.cells #[.int .i64 x, .int .i64 p] 47)
      have HB1 := Lib.hid (hbl.out.trans (e0.mono hbl.out.size))
      have hnew := heap_alloc_new wr (.cells #[.int .i64 x, .int .i64 p] 47)
      have HNEW := Lib.hid hnew
      clear hcs hnew e0 hq
      go_wp2
      generalize hG : wr.heap.size = g at *
      clear hG
      generalize wr.alloc (.cells #[.int .i64 x, .int .i64 p] 47) = W2 at *
      have t0 := cell_of_row _ g 0 _ _ _ HNEW.out
      have t1 := cell_of_row _ g 1 _ _ _ HNEW.out
      have v1 := IntWalk.i64_in (x * q) (by omega)
      have v2 := IntWalk.i64_in (acc + x * q) (by omega)
      clear HNEW d0 d1 hbl
      go_quiet ((go_at_call 36; refine Calls.mono (HQ.out _) ?_; exact fun e w' h => ⟨h.1, _, h.2.symm⟩))
      clear v1 v2
      go_wp2
      go_roundw
      case rel => exact ⟨k + 1, acc + x * q, by omega, by go_num, rfl, by omega, by omega, HN, Lib.hid (bel_dn HB1.out _)⟩
      case measure => simp [intOf]; omega
    · obtain rfl : k = zs.length := by omega
      have HF := Lib.hid ((HEN.out acc).symm.trans hd.out)
      go_wp2
      go_ret
      exact ⟨bz_ri HF.out, hbl.out⟩
theorem demandOf_any (b : Int) (a : Option Addr) (n c : Nat) (w : World) : Calls Try.prog 32 #[.int .i64 b, .slice a n c] w fun e w' =>
    e = .returned (.func (.func 35) #[] #[.pointer (some ⟨w.heap.size, 0, none⟩), .pointer (some ⟨w.heap.size + 1, 0, none⟩)]) ∧
    w'.heap[w.heap.size]? = some (.cells #[.int .i64 b] 3 (0, 0)) ∧ w'.heap[w.heap.size + 1]? = some (.cells #[.slice a n c] 45 (0, 0)) ∧ Below w.heap.size w w' := by
  have hmf : ∀ (fn : Fn) (first cap : Array Value) (w : World), (Instr.makeFunc fn first cap).run Try.prog w = .ok (.func fn first cap) w := fun _ _ _ _ => rfl
  have HX := Lib.hid (Bx2.start w (.cells #[.int .i64 b] 3) (.cells #[.slice a n c] 45))
  go_enter Try.func32, Try.ntmps32
  go_wp2
  go_ret
  exact ⟨rfl, HX.out.box, HX.out.box2, HX.out.bel⟩
def BzPost (r : Int × Int) (w : World) (e : Ending) (w' : World) : Prop := e = .returned (.tuple #[.int .i64 r.1, .int .i64 r.2]) ∧ Below w.heap.size w w'
set_option maxHeartbeats 1000000 in
theorem busyPeriod_any (zs : List (Int × Int)) (b : Int) (a : Option Addr) (c : Nat) (hr : Rng (csO zs) (psO zs)) (hl : zs.length ≤ 100) (hb : 0 ≤ b ∧ b ≤ 5000) (w : World) (hz : Lies w a (flat clC zs)) :
    Calls Try.prog 22 #[.int .i64 b, .slice a zs.length c] w (BzPost (bzV (csO zs) (psO zs) b) w) := by
  have HDM := Lib.hid (fun X (n : Int) g1 g2 (hX : Below w.heap.size w X) (hn : 1 ≤ n ∧ n ≤ 5000) h1 h2 => demand_any zs b n a c g1 g2 hr hl hb hn X h1 h2 (hz.below hX (Nat.le_refl _)))
  have HGE := Lib.hid (fun n (hn : (0 : Int) ≤ n) => dem_ge (csO zs) (psO zs) hr b n hn)
  obtain ⟨f, hf⟩ : ∃ f, dem (csO zs) (psO zs) b = f := ⟨_, rfl⟩
  have HF0 : Hid (bz f 5001 1 = bzV (csO zs) (psO zs) b) := Lib.hid (by rw [← hf]; rfl)
  obtain ⟨R, hR⟩ : ∃ R, bzV (csO zs) (psO zs) b = R := ⟨_, rfl⟩
  rw [hR] at HF0 ⊢
  have HDM2 : Hid (∀ X (n : Int) g1 g2, Below w.heap.size w X → 1 ≤ n ∧ n ≤ 5000 → X.heap[g1]? = some (.cells #[.int .i64 b] 3 (0, 0)) → X.heap[g2]? = some (.cells #[.slice a zs.length c] 45 (0, 0)) → Calls Try.prog 35 #[.int .i64 n, .pointer (some ⟨g1, 0, none⟩), .pointer (some ⟨g2, 0, none⟩)] X fun e w' => e = .returned (.int .i64 (f n)) ∧ Below X.heap.size X w') := Lib.hid (fun X n g1 g2 hX hn h1 h2 => by rw [← hf]; exact HDM.out X n g1 g2 hX hn h1 h2)
  clear hr hz HDM HGE hf hR
  have HP : Hid (∀ w', Below w.heap.size w w' → BzPost R w (.returned (.tuple #[.int .i64 R.1, .int .i64 R.2])) w') := Lib.hid (fun w' h => ⟨rfl, h⟩)
  obtain ⟨r, rc⟩ := R
  dsimp only at HP
  generalize zs.length = n at *
  go_enter Try.func22, Try.ntmps22
  go_wp2_with fail
  refine Calls.mono (demandOf_any b a n c _) ?_
  rintro e w1 ⟨rfl, h1, h2, hb1⟩
  have H1 := Lib.hid h1
  have H2 := Lib.hid h2
  have HB1 := Lib.hid hb1
  clear h1 h2 hb1
  generalize w.heap.size + 1 = g2 at *
  go_wp2
  go_loopw [7] (fun i wr => ∃ (t : Int) (k : Nat), i = .int .i64 t ∧ 1 ≤ t ∧ Hid (bz f k t = (r, rc)) ∧ 5001 ≤ k + t ∧ Hid (Below w1.heap.size w1 wr)) (fun i _ => (5001 - intOf i).toNat)
  case atStart => exact ⟨1, 5001, rfl, by omega, HF0, by omega, Lib.hid (Below.refl _ _)⟩
  case round =>
    obtain ⟨t, k, rfl, ht, hbz, hk, hw⟩ := hrel
    have HBr := Lib.hid (HB1.out.trans (hw.out.mono HB1.out.size))
    by_cases h5 : 5000 < t
    · have HE := Lib.hid ((bz_over (f := f) (k := k) h5).symm.trans hbz.out)
      have h5' : ¬ t ≤ 5000 := by omega
      clear hbz
      go_wp2
      go_ret2
      obtain ⟨e1, e2⟩ := Prod.mk.inj HE.out
      subst e1 e2
      exact HP.out _ HBr.out
    · have h5' : t ≤ 5000 := by omega
      have HC := Lib.hid (HDM2.out wr t w.heap.size g2 HBr.out ⟨ht, h5'⟩ (bz_keep H1.out hw.out) (bz_keep H2.out hw.out))
      by_cases hft : f t ≤ t
      · have HE := Lib.hid ((bz_done (f := f) h5' hk hft).symm.trans hbz.out)
        clear hbz
        generalize f t = ft at *
        go_wp2_with fail
        refine Calls.mono HC.out ?_
        rintro e w2 ⟨rfl, hb2⟩
        have HB2 := Lib.hid (HBr.out.trans (hb2.mono HBr.out.size))
        clear hb2
        go_wp2
        go_ret2
        obtain ⟨e1, e2⟩ := Prod.mk.inj HE.out
        subst e1 e2
        exact HP.out _ HB2.out
      · obtain ⟨k', e', hk'⟩ := bz_next (f := f) h5' hk hft
        have HE := Lib.hid (e'.symm.trans hbz.out)
        clear hbz e'
        have HFT : Hid (f t = f t) := Lib.hid rfl
        generalize f t = ft at *
        go_wp2_with fail
        refine Calls.mono HC.out ?_
        rintro e w2 ⟨rfl, hb2⟩
        have HB2 := Lib.hid (hw.out.trans (hb2.mono hw.out.size))
        clear hb2
        go_wp2
        go_roundw
        case rel => exact ⟨ft, k', rfl, by omega, HE, hk', HB2⟩
        case measure => simp [intOf]; omega
theorem wmaxB (x y : Int) : (if x < y then y else x) = max x y := by omega
set_option maxRecDepth 100000 in
set_option maxHeartbeats 2000000 in
theorem l09Demand_any (cs ps : List Int) (b n : Int) (x y : Option Addr) (c d : Nat) (hr : Rng cs ps) (hl : cs.length ≤ 100) (hb : 0 ≤ b ∧ b ≤ 5000) (hn : 1 ≤ n ∧ n ≤ 5000) (w : World) (hz : Lies w x (kC cs)) (hy : Lies w y (kC ps)) :
    Calls Try.prog 28 #[.slice x cs.length c, .slice y ps.length d, .int .i64 b, .int .i64 n] w fun e w' => e = .returned (.int .i64 (dem cs ps b n)) ∧ Below w.heap.size w w' := by
  have HZ := Lib.hid hz
  have HY := Lib.hid hy
  have HR1 := Lib.hid hr.2.1
  have HR2 := Lib.hid hr.2.2
  have HST := Lib.hid (fun k (h : k < cs.length) acc => dem_step h hr.1 acc n)
  have HEN := Lib.hid (fun acc => dem_end hr.1 acc n)
  have HD0 : Hid (dem (cs.drop 0) (ps.drop 0) b n = dem cs ps b n) := Lib.hid rfl
  have HE1 := Lib.hid hr.1
  have he := hr.1
  rw [← he]
  obtain ⟨R, hR⟩ : ∃ R, dem cs ps b n = R := ⟨_, rfl⟩
  rw [hR] at HD0 ⊢
  obtain ⟨b1, b2⟩ := hb
  obtain ⟨n1, n2⟩ := hn
  clear hr hz hy hR he
  have HCL : Hid (cs.length = cs.length) := Lib.hid rfl
  generalize hL : cs.length = m at *
  have HLN := Lib.hid hL
  clear hL
  go_enter Try.func28, Try.ntmps28
  go_wp2
  go_loopw [9, 10] (fun s i wr => ∃ (k : Nat) (acc : Int), k ≤ m ∧ i = .int .i64 k ∧ s = .int .i64 acc ∧ 0 ≤ acc ∧ acc ≤ 5000 + 25000000 * (k : Int) ∧ Hid (dem (cs.drop k) (ps.drop k) acc n = R) ∧ Hid (Below w.heap.size w wr)) (fun _ i _ => m - (intOf i).toNat)
  case atStart => exact ⟨0, b, Nat.zero_le _, rfl, rfl, b1, by omega, HD0, Lib.hid (Below.refl _ _)⟩
  case round =>
    obtain ⟨k, acc, hk, rfl, rfl, ha0, ha1, hd, hbl⟩ := hrel
    by_cases hlt : k < m
    · obtain ⟨zb, zo, rfl, hzb, hcs⟩ := HZ.out.open (by rw [kC_len, HLN.out]; omega)
      obtain ⟨yb, yo, rfl, hyb, hys⟩ := HY.out.open (by rw [kC_len, ← HE1.out]; omega)
      have d0 := (hbl.out.cell (p := ⟨zb, zo + k, none⟩) hzb).trans (kind_at hcs (i := k) (by rw [HLN.out]; exact hlt))
      have d1 := (hbl.out.cell (p := ⟨yb, yo + k, none⟩) hyb).trans (kind_at hys (i := k) (by rw [← HE1.out]; exact hlt))
      obtain ⟨r10, r11⟩ := HR1.out k hlt
      obtain ⟨r20, r21⟩ := HR2.out k hlt
      have HN := Lib.hid ((HST.out k hlt acc).symm.trans hd.out)
      generalize cs.getD k 0 = u at *
      generalize ps.getD k 0 = p at *
      obtain ⟨q0, q1⟩ := quo_bd (n := n) (p := p) (by omega) r20
      have HQ : Hid (quo n p = (n + p - 1) / p) := Lib.hid rfl
      have hq := HQ.out
      obtain ⟨q, hq2⟩ : ∃ q, quo n p = q := ⟨_, rfl⟩
      rw [hq2] at HN q0 q1 hq
      obtain ⟨m0, m1⟩ := mul_bd (q := q) (c := u) q0 (by omega) r10 r11
      rw [Int.mul_comm u q] at m0 m1
      have v1 := IntWalk.i64_in (n + p) (by omega)
      have v2 := IntWalk.i64_in (n + p - 1) (by omega)
      have v3 := IntWalk.i64_in q (by omega)
      have v4 := IntWalk.i64_in (q * u) (by omega)
      have v5 := IntWalk.i64_in (acc + q * u) (by omega)
      have t1 : (n + p - 1).tdiv p = q := by rw [Int.tdiv_eq_ediv_of_nonneg (by omega)]; exact hq.symm
      have p0 : (p == 0) = false := beq_eq_false_iff_ne.2 (by omega)
      have p1 : ¬ p = 0 := by omega
      have lk : (k : Int) < (m : Int) := by omega
      have v6 := IntWalk.i64_in (k : Int) (by omega)
      clear hcs hys hq hq2
      go_wp2_with fail
      go_quiet (fail)
      clear v1 v2 v3 v4 v5 v6 t1 p0 p1
      go_wp2
      go_roundw
      case rel => exact ⟨k + 1, acc + q * u, by omega, by go_num, rfl, by omega, by omega, HN, Lib.hid (bel_dn hbl.out _)⟩
      case measure => simp [intOf]; omega
    · obtain rfl : k = m := by omega
      have HF := Lib.hid ((HEN.out acc).symm.trans hd.out)
      go_wp2
      go_ret
      exact ⟨bz_ri HF.out, hbl.out⟩
def l09P (r : Int × Int) (w : World) (e : Ending) (w' : World) : Prop := e = .returned (.tuple #[.int .i64 r.1, .bool (r.2 == 0)]) ∧ Below w.heap.size w w'
set_option maxHeartbeats 1000000 in
theorem l09Busy_any (cs ps : List Int) (b : Int) (x y : Option Addr) (c d : Nat) (hr : Rng cs ps) (hl : cs.length ≤ 100) (hb : 0 ≤ b ∧ b ≤ 5000) (w : World) (hz : Lies w x (kC cs)) (hy : Lies w y (kC ps)) :
    Calls Try.prog 20 #[.slice x cs.length c, .slice y ps.length d, .int .i64 b] w (l09P (bzV cs ps b) w) := by
  have HDM := Lib.hid (fun X (n : Int) (hX : Below w.heap.size w X) (hn : 1 ≤ n ∧ n ≤ 5000) => l09Demand_any cs ps b n x y c d hr hl hb hn X (hz.below hX (Nat.le_refl _)) (hy.below hX (Nat.le_refl _)))
  obtain ⟨f, hf⟩ : ∃ f, dem cs ps b = f := ⟨_, rfl⟩
  have HF0 : Hid (bz f 5001 (max (f 1) 1) = bzV cs ps b) := Lib.hid (by rw [← bz_first (f := f) (k := 5000) (by omega), ← hf]; rfl)
  obtain ⟨R, hR⟩ : ∃ R, bzV cs ps b = R := ⟨_, rfl⟩
  rw [hR] at HF0 ⊢
  have HDM2 : Hid (∀ X (n : Int), Below w.heap.size w X → 1 ≤ n ∧ n ≤ 5000 → Calls Try.prog 28 #[.slice x cs.length c, .slice y ps.length d, .int .i64 b, .int .i64 n] X fun e w' => e = .returned (.int .i64 (f n)) ∧ Below X.heap.size X w') := Lib.hid (fun X n hX hn => by rw [← hf]; exact HDM.out X n hX hn)
  clear hr hz hy HDM hf hR
  have HP : Hid (∀ w', Below w.heap.size w w' → l09P R w (.returned (.tuple #[.int .i64 R.1, .bool (R.2 == 0)])) w') := Lib.hid (fun w' h => ⟨rfl, h⟩)
  obtain ⟨r, rc⟩ := R
  dsimp only at HP
  generalize cs.length = n at *
  generalize ps.length = m at *
  have HC1 := Lib.hid (HDM2.out w 1 (Below.refl _ _) ⟨by omega, by omega⟩)
  have hwm := wmaxB
  go_enter Try.func20, Try.ntmps20
  go_wp2_with fail
  refine Calls.mono HC1.out ?_
  rintro e w1 ⟨rfl, hb1⟩
  have HB1 := Lib.hid hb1
  clear hb1 HC1
  generalize f 1 = f1 at *
  go_wp2
  go_loopw [8] (fun i wr => ∃ (t : Int) (k : Nat), i = .int .i64 t ∧ 1 ≤ t ∧ Hid (bz f k t = (r, rc)) ∧ 5001 ≤ k + t ∧ Hid (Below w.heap.size w wr)) (fun i _ => (5001 - intOf i).toNat)
  case atStart => exact ⟨max f1 1, 5001, rfl, by omega, HF0, by omega, HB1⟩
  case round =>
    obtain ⟨t, k, rfl, ht, hbz, hk, HBr⟩ := hrel
    by_cases h5 : 5000 < t
    · have HE := Lib.hid ((bz_over (f := f) (k := k) h5).symm.trans hbz.out)
      have h5' : ¬ t ≤ 5000 := by omega
      clear hbz
      go_wp2
      go_ret2
      obtain ⟨e1, e2⟩ := Prod.mk.inj HE.out
      subst e1 e2
      exact HP.out _ HBr.out
    · have h5' : t ≤ 5000 := by omega
      have HC := Lib.hid (HDM2.out wr t HBr.out ⟨ht, h5'⟩)
      by_cases hft : f t ≤ t
      · have HE := Lib.hid ((bz_done (f := f) h5' hk hft).symm.trans hbz.out)
        clear hbz
        generalize f t = ft at *
        go_wp2_with fail
        refine Calls.mono HC.out ?_
        rintro e w2 ⟨rfl, hb2⟩
        have HB2 := Lib.hid (HBr.out.trans (hb2.mono HBr.out.size))
        clear hb2
        go_wp2
        go_ret2
        obtain ⟨e1, e2⟩ := Prod.mk.inj HE.out
        subst e1 e2
        exact HP.out _ HB2.out
      · obtain ⟨k', e', hk'⟩ := bz_next (f := f) h5' hk hft
        have HE := Lib.hid (e'.symm.trans hbz.out)
        clear hbz e'
        generalize f t = ft at *
        go_wp2_with fail
        refine Calls.mono HC.out ?_
        rintro e w2 ⟨rfl, hb2⟩
        have HB2 := Lib.hid (HBr.out.trans (hb2.mono HBr.out.size))
        clear hb2
        go_wp2
        go_roundw
        case rel => exact ⟨ft, k', rfl, by omega, HE, hk', HB2⟩
        case measure => simp [intOf]; omega
theorem zip_cs {cs ps : List Int} (h : cs.length = ps.length) : csO (cs.zip ps) = cs := List.map_fst_zip (by omega)
theorem zip_ps {cs ps : List Int} (h : cs.length = ps.length) : psO (cs.zip ps) = ps := List.map_snd_zip (by omega)
set_option maxRecDepth 100000 in
set_option maxHeartbeats 2000000 in
theorem BusyPeriod_any (cs ps : List Int) (b : Int) (x y : Option Addr) (c d : Nat) (hm : cs.length ≤ maxLen ∧ ps.length ≤ maxLen) (w : World) (hz : Lies w x (kC cs)) (hy : Lies w y (kC ps)) :
    Calls Try.prog 12 #[.slice x cs.length c, .slice y ps.length d, .int .i64 b] w (BzPost (busyF cs ps b) w) := by
  have HER := Lib.hid (busyError_any cs ps b x y c d hm w hz hy)
  by_cases hc : bzC cs ps b = 0
  · obtain ⟨e1, h5, hr, hb, e2⟩ := bzC_zero hc
    rw [hc] at HER
    rw [e2]
    obtain ⟨i0, hi, hz0, hz1, hz2⟩ := info_parts (show (Try.prog.info? 47).map (fun i => (i.zero, i.size, i.bytes)) = some (some (.agg #[.int .i64 0, .int .i64 0]), 2, 16) by kernel_rfl)
    have HI := Lib.hid (And.intro hi (And.intro hz0 (And.intro hz1 hz2)))
    clear hi hz0 hz1 hz2
    have HZ := Lib.hid hz
    have HY := Lib.hid hy
    have HZL : Hid ((cs.zip ps).length = cs.length) := Lib.hid (by rw [List.length_zip]; omega)
    have HBZ := Lib.hid (fun X (a : Option Addr) (k : Nat) (hX : Lies X a (flat clC (cs.zip ps))) => busyPeriod_any (cs.zip ps) b a k (by rw [zip_cs e1, zip_ps e1]; exact hr) (by rw [HZL.out]; omega) hb X hX)
    rw [zip_cs e1, zip_ps e1, HZL.out] at HBZ
    have HTK : Hid (∀ k, k < cs.length → flat clC ((cs.zip ps).take k) ++ [.int .i64 (cs.getD k 0), .int .i64 (ps.getD k 0)] = flat clC ((cs.zip ps).take (k + 1))) := Lib.hid (fun k hk => by
      have h1 : (cs.zip ps)[k]? = some (cs.getD k 0, ps.getD k 0) := by
        have h2 : k < ps.length := by omega
        simp [List.getD, hk, h2, List.getElem?_zip_eq_some]
      rw [List.take_add_one, h1, flat_app]
      rfl)
    have HP : Hid (∀ w0 e w', Below w.heap.size w w0 → BzPost (bzV cs ps b) w0 e w' → BzPost (bzV cs ps b) w e w') := Lib.hid (fun w0 e w' h1 h2 => ⟨h2.1, h1.trans (h2.2.mono h1.size)⟩)
    have HFU : Hid (flat clC ((cs.zip ps).take cs.length) = flat clC (cs.zip ps)) := Lib.hid (by rw [List.take_of_length_le (by rw [HZL.out]; exact Nat.le_refl _)])
    have HCL := Lib.hid (kC_len cs)
    have HPL := Lib.hid (kC_len ps)
    have HE1 := Lib.hid e1
    rw [← e1] at HER ⊢
    generalize bzV cs ps b = R at *
    clear hz hy hc hm e2 hr e1
    generalize hL : cs.length = n at *
    have hn5 : n ≤ 5 := h5
    have HLN := Lib.hid hL
    clear hL
    go_enter Try.func12, Try.ntmps12
    go_wp2_with fail
    refine Calls.mono HER.out ?_
    rintro e w' ⟨rfl, rfl⟩
    go_wp2
    go_loopw [9, 21] (fun s i wr => ∃ (k : Nat) (a : Option Addr) (q : Nat), k ≤ n ∧ i = .int .i64 k ∧ s = .slice a k q ∧ Hid (wr.ownsRow w.heap.size 47 2 (.slice a k q) k (flat clC ((cs.zip ps).take k))) ∧ Hid (Below w.heap.size w wr)) (fun _ i _ => n - (intOf i).toNat)
    case atStart => exact ⟨0, none, 0, Nat.zero_le _, rfl, rfl, Lib.hid (World.ownsRow_nil _ _ _ _), Lib.hid (Below.refl _ _)⟩
    case round =>
      obtain ⟨k, a, q, hk, rfl, rfl, ho, hb'⟩ := hrel
      by_cases hlt : k < n
      · obtain ⟨zb, zo, rfl, hzb, hcs⟩ := HZ.out.open (by rw [HCL.out]; omega)
        obtain ⟨yb, yo, rfl, hyb, hys⟩ := HY.out.open (by rw [HPL.out, ← HE1.out]; omega)
        have d0 := (hb'.out.cell (p := ⟨zb, zo + k, none⟩) hzb).trans (kind_at hcs (i := k) (by rw [HLN.out]; exact hlt))
        have d1 := (hb'.out.cell (p := ⟨yb, yo + k, none⟩) hyb).trans (kind_at hys (i := k) (by rw [← HE1.out]; exact hlt))
        have HX := Lib.hid (HTK.out k hlt)
        have hBr := hb'.out.size
        clear hcs hys
        generalize cs.getD k 0 = u at *
        generalize ps.getD k 0 = v at *
        go_wp2_with (at_builtin; go_must (refine wpList_append_own _ rfl (.tmp 26) (.tmp 33) _ rfl w.heap.size 47 i0 _ 2 16 Try.underlying45 HI.out.1 HI.out.2.1 HI.out.2.2.1 HI.out.2.2.2 rfl (by decide) (.slice a k q) k (flat clC ((cs.zip ps).take k)) rfl (ho.out.alloc _) ⟨wr.heap.size, 0, none⟩ 1 1 [.int .i64 u, .int .i64 v] rfl rfl (bz_cells wr [.int .i64 u, .int .i64 v] 47) (by simp [Value.oneCell']) (by unfold maxLen; omega) (by omega) (by simp; omega) ?_); intro v' w' g1 g2 _; obtain ⟨a', c', rfl⟩ := wk_slice g1; have G1 := Lib.hid g1; have G2 := Lib.hid (hb'.out.trans ((dbox wr (.cells #[.int .i64 u, .int .i64 v] 47)).mono hBr)); have G3 := Lib.hid (G2.out.grown g2 (by simp; omega) (fun g hg => (ho.out.lt g hg).1)); clear g1 g2)
        go_roundw
        case rel => exact ⟨k + 1, a', c', by omega, by go_num, rfl, HX.out ▸ G1, G3⟩
        case measure => simp [intOf]; omega
      · obtain rfl : k = n := by omega
        rw [HFU.out] at ho
        have HC := Lib.hid (HBZ.out wr a q (lies_own ho.out))
        clear ho
        obtain ⟨r, rc⟩ := R
        go_wp2_with fail
        refine Calls.mono HC.out ?_
        rintro e w2 ⟨rfl, hb2⟩
        have HB2 := Lib.hid (HP.out wr _ w2 hb'.out ⟨rfl, hb2⟩)
        clear hb2
        go_wp2
        go_ret2
        exact HB2.out
  · have hbne : (bzC cs ps b != 0) = true := by rw [bne_iff_ne]; exact hc
    rw [busyF_no hc]
    have HP := Lib.hid (show BzPost (0, bzC cs ps b) w (.returned (.tuple #[.int .i64 0, .int .i64 (bzC cs ps b)])) w from ⟨rfl, Below.refl _ _⟩)
    clear hz hy hm hc
    generalize bzC cs ps b = R at *
    generalize BzPost (0, R) w = POST at *
    generalize cs.length = n at *
    generalize ps.length = m at *
    go_enter Try.func12, Try.ntmps12
    go_wp2_with fail
    refine Calls.mono HER.out ?_
    rintro e w' ⟨rfl, rfl⟩
    go_wp2
    exact HP.out
def inB (n a b : Int) : Bool := decide (a ≤ n ∧ n ≤ b)
theorem inB_is {n a b : Int} {q : Bool} (h : inB n a b = q) (w : World) : Calls Try.prog 19 #[.int .i64 n, .int .i64 a, .int .i64 b] w fun e w' => e = .returned (.bool q) ∧ w = w' := by
  have H := Lib.hid h
  clear h
  go_enter Try.func19, Try.ntmps19
  go_wp2
  all_goals (go_ret; refine ⟨bz_rb ?_, rfl⟩; rw [← H.out]; simp only [inB]; rw [Bool.eq_iff_iff]; first | (simp; omega) | (simp; done))
set_option maxRecDepth 100000 in
set_option maxHeartbeats 2000000 in
theorem specBusyPeriod_any (cs ps : List Int) (b : Int) (x y : Option Addr) (c d : Nat) (hm : cs.length ≤ maxLen ∧ ps.length ≤ maxLen) (w : World) (hz : Lies w x (kC cs)) (hy : Lies w y (kC ps)) :
    Calls Try.prog 10 #[.slice x cs.length c, .slice y ps.length d, .int .i64 b] w (BzPost (busyF cs ps b) w) := by
  have hm1 := hm.1
  have hm2 := hm.2
  unfold maxLen at hm1 hm2
  have HP : Hid (∀ r w', busyF cs ps b = r → Below w.heap.size w w' → BzPost (busyF cs ps b) w (.returned (.tuple #[.int .i64 r.1, .int .i64 r.2])) w') := Lib.hid (fun r w' e h => ⟨by rw [e], h⟩)
  by_cases h1 : 4096 < cs.length ∨ 4096 < ps.length
  · have HQ := Lib.hid (HP.out (0, 2) w (if_pos h1) (Below.refl _ _))
    clear HP hz hy
    generalize BzPost (busyF cs ps b) w = POST at *
    generalize cs.length = n at *
    generalize ps.length = m at *
    by_cases ha : (4096 : Int) < (n : Int)
    · go_enter Try.func10, Try.ntmps10
      go_wp2
      exact HQ.out
    · have hb : (4096 : Int) < (m : Int) := by omega
      go_enter Try.func10, Try.ntmps10
      go_wp2
      exact HQ.out
  have a1 : ¬ (4096 : Int) < (cs.length : Int) := by omega
  have a2 : ¬ (4096 : Int) < (ps.length : Int) := by omega
  by_cases h2 : cs.length ≠ ps.length
  · have HQ := Lib.hid (HP.out (0, 8) w ((if_neg h1).trans (if_pos h2)) (Below.refl _ _))
    have a3 : ((cs.length : Int) != (ps.length : Int)) = true := by rw [bne_iff_ne]; omega
    clear HP hz hy
    generalize BzPost (busyF cs ps b) w = POST at *
    generalize cs.length = n at *
    generalize ps.length = m at *
    clear h1 h2
    go_enter Try.func10, Try.ntmps10
    go_wp2
    exact HQ.out
  have he : ps.length = cs.length := by omega
  by_cases h3 : 5 < cs.length
  · have HQ := Lib.hid (HP.out (0, 6) w ((if_neg h1).trans ((if_neg h2).trans (if_pos h3))) (Below.refl _ _))
    rw [he]
    clear HP hz hy
    generalize BzPost (busyF cs ps b) w = POST at *
    generalize cs.length = n at *
    have a4 : (5 : Int) < (n : Int) := by omega
    have a5 : ((n : Int) != (n : Int)) = false := by simp
    clear h1 h2 a2 he hm2
    go_enter Try.func10, Try.ntmps10
    go_wp2
    exact HQ.out
  have HE : Hid (busyF cs ps b = if (cs.all workB && ps.all taskB && workB b) = false then (0, 4) else bzV cs ps b) := Lib.hid ((if_neg h1).trans ((if_neg h2).trans (if_neg h3)))
  have HQ4 : Hid ((cs.all workB && ps.all taskB && workB b) = false → BzPost (busyF cs ps b) w (.returned (.tuple #[.int .i64 0, .int .i64 4])) w) := Lib.hid (fun h => HP.out (0, 4) w (HE.out.trans (if_pos h)) (Below.refl _ _))
  have HBY := Lib.hid (fun (hr : Rng cs ps) (hb : 0 ≤ b ∧ b ≤ 5000) => l09Busy_any cs ps b x y c d hr (by omega) hb w hz hy)
  have HQ0 : Hid ((cs.all workB && ps.all taskB && workB b) = true → ∀ w', Below w.heap.size w w' → ∀ u v, (u, v) = bzV cs ps b → BzPost (busyF cs ps b) w (.returned (.tuple #[.int .i64 u, .int .i64 v])) w') := Lib.hid (fun h w' hb u v e => HP.out (u, v) w' (HE.out.trans ((if_neg (by rw [h]; decide)).trans e.symm)) hb)
  have HBC := Lib.hid (bz_code (dem cs ps b) 5001 1)
  have HZ := Lib.hid hz
  have HY := Lib.hid hy
  have HE1 : Hid (cs.length = ps.length) := Lib.hid he.symm
  have HW := Lib.hid (fun j (h : j < cs.length) (g : workB (cs.getD j 0) = false) => all_no workB 0 h g)
  have HT := Lib.hid (fun j (h : j < cs.length) (g : taskB (ps.getD j 0) = false) => all_no taskB 0 (l := ps) (j := j) (by rw [← HE1.out]; exact h) g)
  have HWY := Lib.hid (fun h => all_yes workB 0 (l := cs) h)
  have HTY := Lib.hid (fun h => all_yes taskB 0 (l := ps) h)
  have HRO := Lib.hid (fun h1 h2 => rng_of (cs := cs) (ps := ps) HE1.out h1 h2)
  rw [he] at HBY ⊢
  clear HP hz hy hm a2 he h1 h2
  generalize BzPost (busyF cs ps b) w = POST at *
  generalize hL : cs.length = n at *
  have HLN := Lib.hid hL
  have a4 : ¬ (5 : Int) < (n : Int) := by omega
  have a5 : ((n : Int) != (n : Int)) = false := by simp
  clear hL hm2 h3
  go_enter Try.func10, Try.ntmps10
  go_wp2
  go_loop [8] (fun i => ∃ k : Nat, k ≤ n ∧ i = .int .i64 k ∧ Hid (∀ q, q < k → workB (cs.getD q 0) = true ∧ taskB (ps.getD q 0) = true)) (fun i => n - (intOf i).toNat)
  case atStart => exact ⟨0, Nat.zero_le _, rfl, Lib.hid (by intro q hq; omega)⟩
  case round =>
    obtain ⟨k, hk, rfl, hq⟩ := hrel
    by_cases hlt : k < n
    · obtain ⟨zb, zo, rfl, hzb, hcs⟩ := HZ.out.open (by rw [kC_len, HLN.out]; omega)
      obtain ⟨yb, yo, rfl, hyb, hys⟩ := HY.out.open (by rw [kC_len, ← HE1.out]; omega)
      have d0 := kind_at hcs (i := k) (by rw [HLN.out]; exact hlt)
      have d1 := kind_at hys (i := k) (by rw [← HE1.out]; exact hlt)
      have HX1 := Lib.hid (HW.out k hlt)
      have HX2 := Lib.hid (HT.out k hlt)
      have HK : Hid (workB (cs.getD k 0) = true → taskB (ps.getD k 0) = true → ∀ q, q < k + 1 → workB (cs.getD q 0) = true ∧ taskB (ps.getD q 0) = true) := Lib.hid (fun g1 g2 q hq' => by
        by_cases e : q = k
        · rw [e]; exact ⟨g1, g2⟩
        · exact hq.out q (by omega))
      clear hcs hys
      generalize cs.getD k 0 = u at *
      generalize ps.getD k 0 = v at *
      cases hu : workB u
      · have HF := Lib.hid (show inB u 0 5000 = false from hu)
        have HQ := Lib.hid (HQ4.out (by rw [HX1.out hu]; rfl))
        clear hu HX1 HX2 HK
        go_wp2_with (go_at_call 19; (with_reducible refine (inB_is HF.out _).mono ?_); rintro e w' ⟨rfl, rfl⟩)
        exact HQ.out
      cases hv : taskB v
      · have HF := Lib.hid (show inB u 0 5000 = true from hu)
        have HG := Lib.hid (show inB v 1 5000 = false from hv)
        have HQ := Lib.hid (HQ4.out (by rw [HX2.out hv, Bool.and_false]; rfl))
        clear hu hv HX1 HX2 HK
        go_wp2_with (go_at_call 19; (first | (with_reducible refine (inB_is HF.out _).mono ?_) | (with_reducible refine (inB_is HG.out _).mono ?_)); rintro e w' ⟨rfl, rfl⟩)
        exact HQ.out
      · have HF := Lib.hid (show inB u 0 5000 = true from hu)
        have HG := Lib.hid (show inB v 1 5000 = true from hv)
        have HK2 := Lib.hid (HK.out hu hv)
        clear hu hv HX1 HX2 HK
        go_wp2_with (go_at_call 19; (first | (with_reducible refine (inB_is HF.out _).mono ?_) | (with_reducible refine (inB_is HG.out _).mono ?_)); rintro e w' ⟨rfl, rfl⟩)
        go_round
        case rel => exact ⟨k + 1, by omega, by go_num, HK2⟩
        case measure => simp [intOf]; omega
    · obtain rfl : k = n := by omega
      have hA : cs.all workB = true := HWY.out (fun j hj => (hq.out j hj).1)
      have hB : ps.all taskB = true := HTY.out (fun j hj => (hq.out j (by rw [HE1.out]; exact hj)).2)
      rw [hA, hB] at HQ4 HQ0
      have HR := Lib.hid (HRO.out hA hB)
      clear hA hB
      cases hC : workB b
      · rw [hC] at HQ4
        have HF := Lib.hid (show inB b 0 5000 = false from hC)
        have HQ := Lib.hid (HQ4.out rfl)
        clear hC
        go_wp2_with (go_at_call 19; (with_reducible refine (inB_is HF.out _).mono ?_); rintro e w' ⟨rfl, rfl⟩)
        exact HQ.out
      · rw [hC] at HQ0
        have HF := Lib.hid (show inB b 0 5000 = true from hC)
        have HC := Lib.hid (HBY.out HR.out (by simpa [workB] using hC))
        have HQ := Lib.hid (HQ0.out rfl)
        rcases HBC.out with ⟨g1, -, -, -⟩ | g1
        · have HV : Hid ((bzV cs ps b).2 = 0) := Lib.hid g1
          clear hC g1
          generalize bzV cs ps b = R at *
          obtain ⟨r, rc⟩ := R
          obtain rfl : rc = 0 := HV.out
          go_wp2_with (go_at_call 19; (with_reducible refine (inB_is HF.out _).mono ?_); rintro e w' ⟨rfl, rfl⟩)
          refine Calls.mono HC.out ?_
          rintro e w2 ⟨rfl, hb2⟩
          have HB2 := Lib.hid (HQ.out w2 hb2 r 0 rfl)
          clear hb2
          go_wp2
          exact HB2.out
        · have HV : Hid (bzV cs ps b = (0, 18)) := Lib.hid g1
          clear hC g1
          rw [HV.out] at HC HQ
          go_wp2_with (go_at_call 19; (with_reducible refine (inB_is HF.out _).mono ?_); rintro e w' ⟨rfl, rfl⟩)
          refine Calls.mono HC.out ?_
          rintro e w2 ⟨rfl, hb2⟩
          have HB2 := Lib.hid (HQ.out w2 hb2 0 18 rfl)
          clear hb2
          go_wp2
          exact HB2.out
end Go.Proofs.Ytppgknjpbfopjaa
