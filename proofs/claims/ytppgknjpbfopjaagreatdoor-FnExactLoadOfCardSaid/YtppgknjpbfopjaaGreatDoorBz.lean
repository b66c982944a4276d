/- Busy periods: impl's and spec's. (Written by tools/gen_bz.py.) -/
import Derived.Test.YtppgknjpbfopjaaGreatDoorBzP
import Derived.Test.YtppgknjpbfopjaaGreatDoorInts
import Derived.Test.YtppgknjpbfopjaaGreatDoorGen
import Derived.WalkKit
import Derived.ProofKit
import Derived.Lib.Hide
import Derived.Below
import Derived.Deep.QuietTactic
import Derived.BigQuiet
namespace Go.Proofs.YtppgknjpbfopjaaGreatDoor
open Go.ChangeShapes Go.WideShapes Go.ChangeAt Go.RowKit
set_option linter.unusedVariables false
theorem bz_rb {a b : Bool} (h : a = b) : Ending.returned (.bool a) = .returned (.bool b) := by rw [h]
theorem bz_ri {a b : Int} (h : a = b) : Ending.returned (.int .i64 a) = .returned (.int .i64 b) := by rw [h]
theorem bz_r2 {a b c d : Int} (h : a = c) (g : b = d) : Ending.returned (.tuple #[.int .i64 a, .int .i64 b]) = .returned (.tuple #[.int .i64 c, .int .i64 d]) := by rw [h, g]
theorem bz_keep {w1 w2 : World} {k : Nat} {Q : Obj} (h : w1.heap[k]? = some Q) (g : Below w1.heap.size w1 w2) : w2.heap[k]? = some Q := (g.block _ (Array.getElem?_eq_some_iff.1 h).1).trans h
theorem bz_cells (w : World) (us : List Value) (t : TypeId) : ∀ (j : Nat) u, us[j]? = some u → (w.alloc (.cells us.toArray t)).cell? ((⟨w.heap.size, 0, none⟩ : Addr).add j) = some u := by
  intro j u hj
  have h := cell_of_row _ w.heap.size j _ _ _ (heap_alloc_new w (.cells us.toArray t))
  have e : (⟨w.heap.size, 0, none⟩ : Addr).add j = ⟨w.heap.size, j, none⟩ := by
    unfold Addr.add
    split
    · rename_i h0; rw [h0]
    · simp
  rw [e, h]
  simpa using hj
theorem bz_no {α : Type} (p : α → Bool) (d : α) {l : List α} {j : Nat} (h : j < l.length) (g : p (l.getD j d) = false) : l.all p = false := by
  rw [List.all_eq_false]
  exact ⟨l.getD j d, by simp [List.getD, h], by rw [g]; simp⟩
theorem bz_yes {α : Type} (p : α → Bool) (d : α) {l : List α} (g : ∀ j, j < l.length → p (l.getD j d) = true) : l.all p = true := by
  rw [List.all_eq_true]
  intro z hz
  obtain ⟨j, hj, rfl⟩ := List.getElem_of_mem hz
  have := g j hj
  simpa [List.getD, hj] using this
theorem quotientUp_any (a b : Int) (ha : 0 ≤ a ∧ a ≤ 3000000000000) (hb : 1 ≤ b ∧ b ≤ 5000) (w : World) : Calls Tryz.prog 55 #[.int .i64 a, .int .i64 b] w fun e w' => e = .returned (.int .i64 (quo a b)) ∧ w = w' := by
  have HE : Hid (quo a b = (a + b - 1) / b) := Lib.hid rfl
  obtain ⟨a1, a2⟩ := ha
  obtain ⟨b1, b2⟩ := hb
  go_enter Tryz.func55, Tryz.ntmps55
  go_wp2
  go_ret
  exact ⟨bz_ri HE.out.symm, rfl⟩
theorem isTaskTime_bz (n : Int) (w : World) : Calls Tryz.prog 182 #[.int .i64 n] w fun e w' => e = .returned (.bool (taskB n)) ∧ w = w' := by
  go_enter Tryz.func182, Tryz.ntmps182
  go_wp2
  all_goals (go_ret; refine ⟨bz_rb ?_, rfl⟩; simp only [taskB]; rw [Bool.eq_iff_iff]; first | (simp; omega) | (simp; done))
theorem isTaskTime_bi {n : Int} {b : Bool} (h : taskB n = b) (w : World) : Calls Tryz.prog 182 #[.int .i64 n] w fun e w' => e = .returned (.bool b) ∧ w = w' := h ▸ isTaskTime_bz n w
theorem everyTask_any (l : List Int) (a : Option Addr) (c : Nat) (hm : l.length ≤ maxLen) (w : World) (hz : Lies w a (kC l)) :
    Calls Tryz.prog 132 #[.slice a l.length c, .func (.func 182) #[] #[]] w fun e w' => e = .returned (.bool (l.all taskB)) ∧ w = w' := by
  unfold maxLen at hm
  have HZ := Lib.hid hz
  have HKN := Lib.hid (fun j (h : j < l.length) (g : taskB (l.getD j 0) = false) => bz_no taskB 0 h g)
  have HKY := Lib.hid (fun h => bz_yes taskB 0 (l := l) h)
  clear hz
  generalize l.all taskB = R at *
  generalize hL : l.length = n at *
  have HL := Lib.hid hL
  clear hL
  go_enter Tryz.func132, Tryz.ntmps132
  go_wp2
  go_loop [9] (fun i => ∃ j : Nat, j ≤ n ∧ i = .int .i64 j ∧ Hid (∀ q, q < j → taskB (l.getD q 0) = true)) (fun i => n - (intOf i).toNat)
  case atStart => exact ⟨0, Nat.zero_le _, rfl, Lib.hid (by intro q hq; omega)⟩
  case round =>
    obtain ⟨j, hj, rfl, hr⟩ := hrel
    by_cases hlt : j < n
    · obtain ⟨b, o, rfl, hbl, hcs⟩ := HZ.out.open (by rw [kC_len, HL.out]; omega)
      have c0 := kind_at hcs (i := j) (by rw [HL.out]; exact hlt)
      clear hcs
      cases hk : taskB (l.getD j 0)
      · have HR := Lib.hid (HKN.out j hlt hk)
        have HC := Lib.hid hk
        clear hk
        generalize l.getD j 0 = z at *
        go_wp2_with (go_at_call 182; refine (isTaskTime_bi HC.out _).mono ?_; rintro e w' ⟨rfl, rfl⟩)
        go_ret
        exact ⟨by rw [HR.out]; rfl, rfl⟩
      · have HC := Lib.hid hk
        have HN : Hid (∀ q, q < j + 1 → taskB (l.getD q 0) = true) := Lib.hid (fun q hq => by
          by_cases e : q = j
          · rw [e]; exact HC.out
          · exact hr.out q (by omega))
        clear hk
        generalize l.getD j 0 = z at *
        go_wp2_with (go_at_call 182; refine (isTaskTime_bi HC.out _).mono ?_; rintro e w' ⟨rfl, rfl⟩)
        go_round
        case rel => exact ⟨j + 1, by omega, by go_num, HN⟩
        case measure => simp [intOf]; omega
    · obtain rfl : j = n := by omega
      have HR := Lib.hid (HKY.out hr.out)
      go_wp2
      go_ret
      exact ⟨by rw [HR.out]; rfl, rfl⟩
def bzC (cs ps : List Int) (b : Int) : Int :=
  if 4096 < cs.length ∨ 4096 < ps.length then 2 else if cs.length ≠ ps.length then 8 else if 5 < cs.length then 6 else if (cs.all workB && ps.all taskB && workB b) = false then 4 else 0
theorem busyF_no {cs ps : List Int} {b : Int} (h : bzC cs ps b ≠ 0) : busyF cs ps b = (0, bzC cs ps b) := by
  unfold bzC at h ⊢
  unfold busyF
  by_cases h1 : 4096 < cs.length ∨ 4096 < ps.length
  · rw [if_pos h1, if_pos h1]
  rw [if_neg h1] at h ⊢
  rw [if_neg h1]
  by_cases h2 : cs.length ≠ ps.length
  · rw [if_pos h2, if_pos h2]
  rw [if_neg h2] at h ⊢
  rw [if_neg h2]
  by_cases h3 : 5 < cs.length
  · rw [if_pos h3, if_pos h3]
  rw [if_neg h3] at h ⊢
  rw [if_neg h3]
  by_cases h4 : (cs.all workB && ps.all taskB && workB b) = false
  · rw [if_pos h4, if_pos h4]
  · rw [if_neg h4] at h; exact absurd rfl h
theorem bzC_zero {cs ps : List Int} {b : Int} (h : bzC cs ps b = 0) : cs.length = ps.length ∧ cs.length ≤ 5 ∧ Rng cs ps ∧ (0 ≤ b ∧ b ≤ 5000) ∧ busyF cs ps b = bzV cs ps b := by
  unfold bzC at h
  by_cases h1 : 4096 < cs.length ∨ 4096 < ps.length
  · rw [if_pos h1] at h; exact absurd h (by decide)
  rw [if_neg h1] at h
  by_cases h2 : cs.length ≠ ps.length
  · rw [if_pos h2] at h; exact absurd h (by decide)
  rw [if_neg h2] at h
  by_cases h3 : 5 < cs.length
  · rw [if_pos h3] at h; exact absurd h (by decide)
  rw [if_neg h3] at h
  by_cases h4 : (cs.all workB && ps.all taskB && workB b) = false
  · rw [if_pos h4] at h; exact absurd h (by decide)
  have h5 := h4
  simp only [Bool.not_eq_false, Bool.and_eq_true] at h5
  refine ⟨by omega, by omega, rng_of (by omega) h5.1.1 h5.1.2, by simpa [workB] using h5.2, ?_⟩
  unfold busyF
  rw [if_neg h1, if_neg h2, if_neg h3, if_neg h4]
/-- Claims: a cost and a period each. -/
def clC (z : Int × Int) : List Value := [.int .i64 z.1, .int .i64 z.2]
theorem clC_len (z : Int × Int) : (clC z).length = 2 := rfl
abbrev csO (zs : List (Int × Int)) : List Int := zs.map Prod.fst
abbrev psO (zs : List (Int × Int)) : List Int := zs.map Prod.snd
theorem csO_at (zs : List (Int × Int)) (k : Nat) : (csO zs).getD k 0 = (zs.getD k (0, 0)).1 := by
  simp only [List.getD, List.getElem?_map]; cases zs[k]? <;> rfl
theorem psO_at (zs : List (Int × Int)) (k : Nat) : (psO zs).getD k 0 = (zs.getD k (0, 0)).2 := by
  simp only [List.getD, List.getElem?_map]; cases zs[k]? <;> rfl
theorem cl_at {w : World} {b o : Nat} {zs : List (Int × Int)} (h : ∀ (j : Nat) v, (flat clC zs)[j]? = some v → w.cell? ⟨b, o + j, none⟩ = some v) {i : Nat} (hi : i < zs.length) :
    w.cell? ⟨b, o + i * 2, none⟩ = some (.int .i64 (zs.getD i (0, 0)).1) ∧ w.cell? ⟨b, o + i * 2 + 1, none⟩ = some (.int .i64 (zs.getD i (0, 0)).2) := by
  have hx : zs[i]? = some (zs.getD i (0, 0)) := by simp [List.getD, hi]
  exact ⟨h (i * 2) _ (flat_at clC_len hx (j := 0) (by omega)), h (i * 2 + 1) _ (flat_at clC_len hx (j := 1) (by omega))⟩
theorem mul_bd {q c : Int} (h1 : 0 ≤ q) (h2 : q ≤ 5000) (h3 : 0 ≤ c) (h4 : c ≤ 5000) : 0 ≤ c * q ∧ c * q ≤ 25000000 := by
  refine ⟨Int.mul_nonneg h3 h1, ?_⟩
  have := Int.mul_le_mul h4 h2 h1 (by omega : (0 : Int) ≤ 5000)
  omega
set_option maxHeartbeats 2000000 in
theorem demand_any (zs : List (Int × Int)) (b n : Int) (a : Option Addr) (c g1 g2 : Nat) (hr : Rng (csO zs) (psO zs)) (hl : zs.length ≤ 100) (hb : 0 ≤ b ∧ b ≤ 5000) (hn : 1 ≤ n ∧ n ≤ 5000) (w : World)
    (h1 : w.heap[g1]? = some (.cells #[.int .i64 b] 3 (0, 0))) (h2 : w.heap[g2]? = some (.cells #[.slice a zs.length c] 124 (0, 0))) (hz : Lies w a (flat clC zs)) :
    Calls Tryz.prog 185 #[.int .i64 n, .pointer (some ⟨g1, 0, none⟩), .pointer (some ⟨g2, 0, none⟩)] w fun e w' => e = .returned (.int .i64 (dem (csO zs) (psO zs) b n)) ∧ Below w.heap.size w w' := by
  have c1 := cell_of_row _ g1 0 _ _ _ h1
  have c2 := cell_of_row _ g2 0 _ _ _ h2
  have HZ := Lib.hid hz
  have HR1 := Lib.hid hr.2.1
  have HR2 := Lib.hid hr.2.2
  have HLC : Hid ((csO zs).length = zs.length) := Lib.hid (by simp [csO])
  have HST := Lib.hid (fun k (h : k < zs.length) acc => dem_step (cs := csO zs) (ps := psO zs) (k := k) (by rw [HLC.out]; exact h) hr.1 acc n)
  have HEN : Hid (∀ acc, dem ((csO zs).drop zs.length) ((psO zs).drop zs.length) acc n = acc) := Lib.hid (fun acc => by have h := dem_end (cs := csO zs) (ps := psO zs) hr.1 acc n; rwa [HLC.out] at h)
  have HD0 : Hid (dem ((csO zs).drop 0) ((psO zs).drop 0) b n = dem (csO zs) (psO zs) b n) := Lib.hid rfl
  obtain ⟨R, hR⟩ : ∃ R, dem (csO zs) (psO zs) b n = R := ⟨_, rfl⟩
  rw [hR] at HD0 ⊢
  obtain ⟨b1, b2⟩ := hb
  obtain ⟨n1, n2⟩ := hn
  clear hr h1 h2 hz hR
  go_enter Tryz.func185, Tryz.ntmps185
  go_wp2
  go_loopw [5, 11] (fun s i wr => ∃ (k : Nat) (acc : Int), k ≤ zs.length ∧ i = .int .i64 k ∧ s = .int .i64 acc ∧ 0 ≤ acc ∧ acc ≤ 5000 + 25000000 * (k : Int) ∧ Hid (dem ((csO zs).drop k) ((psO zs).drop k) acc n = R) ∧ Hid (Below w.heap.size w wr)) (fun _ i _ => zs.length - (intOf i).toNat)
  case atStart => exact ⟨0, b, Nat.zero_le _, rfl, rfl, b1, by omega, HD0, Lib.hid (Below.refl _ _)⟩
  case round =>
    obtain ⟨k, acc, hk, rfl, rfl, ha0, ha1, hd, hbl⟩ := hrel
    by_cases hlt : k < zs.length
    · obtain ⟨zb, zo, rfl, hzb, hcs⟩ := HZ.out.open (by rw [flat_len clC_len]; omega)
      obtain ⟨d0, d1⟩ := cl_at hcs hlt
      replace d0 := (hbl.out.cell (p := ⟨zb, zo + k * 2, none⟩) hzb).trans d0
      replace d1 := (hbl.out.cell (p := ⟨zb, zo + k * 2 + 1, none⟩) hzb).trans d1
      have r1 := HR1.out k (by rw [HLC.out]; exact hlt)
      have r2 := HR2.out k (by rw [HLC.out]; exact hlt)
      rw [csO_at] at r1
      rw [psO_at] at r2
      have HN := Lib.hid ((HST.out k hlt acc).symm.trans hd.out)
      rw [csO_at, psO_at] at HN
      generalize zs.getD k (0, 0) = z at *
      obtain ⟨x, p⟩ := z
      dsimp only at d0 d1 r1 r2 HN
      obtain ⟨r10, r11⟩ := r1
      obtain ⟨r20, r21⟩ := r2
      obtain ⟨q0, q1⟩ := quo_bd (n := n) (p := p) (by omega) r20
      have HQ := Lib.hid (fun X => quotientUp_any n p ⟨by omega, by omega⟩ ⟨r20, r21⟩ X)
      obtain ⟨q, hq⟩ : ∃ q, quo n p = q := ⟨_, rfl⟩
      rw [hq] at HQ HN q0 q1
      obtain ⟨m0, m1⟩ := mul_bd (q := q) (c := x) q0 (by omega) r10 r11
      rw [Int.mul_comm q x] at HN
      have e0 := dbox wr (.cells #[.int .i64 x, .int .i64 p] 126)
      have HB1 := Lib.hid (hbl.out.trans (e0.mono hbl.out.size))
      have hnew := heap_alloc_new wr (.cells #[.int .i64 x, .int .i64 p] 126)
      have HNEW := Lib.hid hnew
      clear hcs hnew e0 hq
      go_wp2
      generalize hG : wr.heap.size = g at *
      clear hG
      generalize wr.alloc (.cells #[.int .i64 x, .int .i64 p] 126) = W2 at *
      have t0 := cell_of_row _ g 0 _ _ _ HNEW.out
      have t1 := cell_of_row _ g 1 _ _ _ HNEW.out
      have v1 := IntWalk.i64_in (x * q) (by omega)
      have v2 := IntWalk.i64_in (acc + x * q) (by omega)
      clear HNEW d0 d1 hbl
      go_quiet ((go_at_call 55; refine Calls.mono (HQ.out _) ?_; exact fun e w' h => ⟨h.1, _, h.2.symm⟩))
      clear v1 v2
      go_wp2
      go_roundw
      case rel => exact ⟨k + 1, acc + x * q, by omega, by go_num, rfl, by omega, by omega, HN, Lib.hid (bel_dn HB1.out _)⟩
      case measure => simp [intOf]; omega
    · obtain rfl : k = zs.length := by omega
      have HF := Lib.hid ((HEN.out acc).symm.trans hd.out)
      go_wp2
      go_ret
      exact ⟨bz_ri HF.out, hbl.out⟩
theorem demandOf_any (b : Int) (a : Option Addr) (n c : Nat) (w : World) : Calls Tryz.prog 144 #[.int .i64 b, .slice a n c] w fun e w' =>
    e = .returned (.func (.func 185) #[] #[.pointer (some ⟨w.heap.size, 0, none⟩), .pointer (some ⟨w.heap.size + 1, 0, none⟩)]) ∧
    w'.heap[w.heap.size]? = some (.cells #[.int .i64 b] 3 (0, 0)) ∧ w'.heap[w.heap.size + 1]? = some (.cells #[.slice a n c] 124 (0, 0)) ∧ Below w.heap.size w w' := by
  have hmf : ∀ (fn : Fn) (first cap : Array Value) (w : World), (Instr.makeFunc fn first cap).run Tryz.prog w = .ok (.func fn first cap) w := fun _ _ _ _ => rfl
  have HX := Lib.hid (Bx2.start w (.cells #[.int .i64 b] 3) (.cells #[.slice a n c] 124))
  go_enter Tryz.func144, Tryz.ntmps144
  go_wp2
  go_ret
  exact ⟨rfl, HX.out.box, HX.out.box2, HX.out.bel⟩
def BzPost (r : Int × Int) (w : World) (e : Ending) (w' : World) : Prop := e = .returned (.tuple #[.int .i64 r.1, .int .i64 r.2]) ∧ Below w.heap.size w w'
set_option maxHeartbeats 1000000 in
theorem busyPeriod_any (zs : List (Int × Int)) (b : Int) (a : Option Addr) (c : Nat) (hr : Rng (csO zs) (psO zs)) (hl : zs.length ≤ 100) (hb : 0 ≤ b ∧ b ≤ 5000) (w : World) (hz : Lies w a (flat clC zs)) :
    Calls Tryz.prog 89 #[.int .i64 b, .slice a zs.length c] w (BzPost (bzV (csO zs) (psO zs) b) w) := by
  have HDM := Lib.hid (fun X (n : Int) g1 g2 (hX : Below w.heap.size w X) (hn : 1 ≤ n ∧ n ≤ 5000) h1 h2 => demand_any zs b n a c g1 g2 hr hl hb hn X h1 h2 (hz.below hX (Nat.le_refl _)))
  have HGE := Lib.hid (fun n (hn : (0 : Int) ≤ n) => dem_ge (csO zs) (psO zs) hr b n hn)
  obtain ⟨f, hf⟩ : ∃ f, dem (csO zs) (psO zs) b = f := ⟨_, rfl⟩
  have HF0 : Hid (bz f 5001 1 = bzV (csO zs) (psO zs) b) := Lib.hid (by rw [← hf]; rfl)
  obtain ⟨R, hR⟩ : ∃ R, bzV (csO zs) (psO zs) b = R := ⟨_, rfl⟩
  rw [hR] at HF0 ⊢
  have HDM2 : Hid (∀ X (n : Int) g1 g2, Below w.heap.size w X → 1 ≤ n ∧ n ≤ 5000 → X.heap[g1]? = some (.cells #[.int .i64 b] 3 (0, 0)) → X.heap[g2]? = some (.cells #[.slice a zs.length c] 124 (0, 0)) → Calls Tryz.prog 185 #[.int .i64 n, .pointer (some ⟨g1, 0, none⟩), .pointer (some ⟨g2, 0, none⟩)] X fun e w' => e = .returned (.int .i64 (f n)) ∧ Below X.heap.size X w') := Lib.hid (fun X n g1 g2 hX hn h1 h2 => by rw [← hf]; exact HDM.out X n g1 g2 hX hn h1 h2)
  clear hr hz HDM HGE hf hR
  have HP : Hid (∀ w', Below w.heap.size w w' → BzPost R w (.returned (.tuple #[.int .i64 R.1, .int .i64 R.2])) w') := Lib.hid (fun w' h => ⟨rfl, h⟩)
  obtain ⟨r, rc⟩ := R
  dsimp only at HP
  generalize zs.length = n at *
  go_enter Tryz.func89, Tryz.ntmps89
  go_wp2_with fail
  refine Calls.mono (demandOf_any b a n c _) ?_
  rintro e w1 ⟨rfl, h1, h2, hb1⟩
  have H1 := Lib.hid h1
  have H2 := Lib.hid h2
  have HB1 := Lib.hid hb1
  clear h1 h2 hb1
  generalize w.heap.size + 1 = g2 at *
  go_wp2
  go_loopw [7] (fun i wr => ∃ (t : Int) (k : Nat), i = .int .i64 t ∧ 1 ≤ t ∧ Hid (bz f k t = (r, rc)) ∧ 5001 ≤ k + t ∧ Hid (Below w1.heap.size w1 wr)) (fun i _ => (5001 - intOf i).toNat)
  case atStart => exact ⟨1, 5001, rfl, by omega, HF0, by omega, Lib.hid (Below.refl _ _)⟩
  case round =>
    obtain ⟨t, k, rfl, ht, hbz, hk, hw⟩ := hrel
    have HBr := Lib.hid (HB1.out.trans (hw.out.mono HB1.out.size))
    by_cases h5 : 5000 < t
    · have HE := Lib.hid ((bz_over (f := f) (k := k) h5).symm.trans hbz.out)
      have h5' : ¬ t ≤ 5000 := by omega
      clear hbz
      go_wp2
      go_ret2
      obtain ⟨e1, e2⟩ := Prod.mk.inj HE.out
      subst e1 e2
      exact HP.out _ HBr.out
    · have h5' : t ≤ 5000 := by omega
      have HC := Lib.hid (HDM2.out wr t w.heap.size g2 HBr.out ⟨ht, h5'⟩ (bz_keep H1.out hw.out) (bz_keep H2.out hw.out))
      by_cases hft : f t ≤ t
      · have HE := Lib.hid ((bz_done (f := f) h5' hk hft).symm.trans hbz.out)
        clear hbz
        generalize f t = ft at *
        go_wp2_with fail
        refine Calls.mono HC.out ?_
        rintro e w2 ⟨rfl, hb2⟩
        have HB2 := Lib.hid (HBr.out.trans (hb2.mono HBr.out.size))
        clear hb2
        go_wp2
        go_ret2
        obtain ⟨e1, e2⟩ := Prod.mk.inj HE.out
        subst e1 e2
        exact HP.out _ HB2.out
      · obtain ⟨k', e', hk'⟩ := bz_next (f := f) h5' hk hft
        have HE := Lib.hid (e'.symm.trans hbz.out)
        clear hbz e'
        have HFT : Hid (f t = f t) := Lib.hid rfl
        generalize f t = ft at *
        go_wp2_with fail
        refine Calls.mono HC.out ?_
        rintro e w2 ⟨rfl, hb2⟩
        have HB2 := Lib.hid (hw.out.trans (hb2.mono hw.out.size))
        clear hb2
        go_wp2
        go_roundw
        case rel => exact ⟨ft, k', rfl, by omega, HE, hk', HB2⟩
        case measure => simp [intOf]; omega
theorem wmaxB (x y : Int) : (if x < y then y else x) = max x y := by omega
set_option maxRecDepth 100000 in
set_option maxHeartbeats 2000000 in
theorem l09Demand_any (cs ps : List Int) (b n : Int) (x y : Option Addr) (c d : Nat) (hr : Rng cs ps) (hl : cs.length ≤ 100) (hb : 0 ≤ b ∧ b ≤ 5000) (hn : 1 ≤ n ∧ n ≤ 5000) (w : World) (hz : Lies w x (kC cs)) (hy : Lies w y (kC ps)) :
    Calls Tryz.prog 141 #[.slice x cs.length c, .slice y ps.length d, .int .i64 b, .int .i64 n] w fun e w' => e = .returned (.int .i64 (dem cs ps b n)) ∧ Below w.heap.size w w' := by
  have HZ := Lib.hid hz
  have HY := Lib.hid hy
  have HR1 := Lib.hid hr.2.1
  have HR2 := Lib.hid hr.2.2
  have HST := Lib.hid (fun k (h : k < cs.length) acc => dem_step h hr.1 acc n)
  have HEN := Lib.hid (fun acc => dem_end hr.1 acc n)
  have HD0 : Hid (dem (cs.drop 0) (ps.drop 0) b n = dem cs ps b n) := Lib.hid rfl
  have HE1 := Lib.hid hr.1
  have he := hr.1
  rw [← he]
  obtain ⟨R, hR⟩ : ∃ R, dem cs ps b n = R := ⟨_, rfl⟩
  rw [hR] at HD0 ⊢
  obtain ⟨b1, b2⟩ := hb
  obtain ⟨n1, n2⟩ := hn
  clear hr hz hy hR he
  have HCL : Hid (cs.length = cs.length) := Lib.hid rfl
  generalize hL : cs.length = m at *
  have HLN := Lib.hid hL
  clear hL
  go_enter Tryz.func141, Tryz.ntmps141
  go_wp2
  go_loopw [9, 10] (fun s i wr => ∃ (k : Nat) (acc : Int), k ≤ m ∧ i = .int .i64 k ∧ s = .int .i64 acc ∧ 0 ≤ acc ∧ acc ≤ 5000 + 25000000 * (k : Int) ∧ Hid (dem (cs.drop k) (ps.drop k) acc n = R) ∧ Hid (Below w.heap.size w wr)) (fun _ i _ => m - (intOf i).toNat)
  case atStart => exact ⟨0, b, Nat.zero_le _, rfl, rfl, b1, by omega, HD0, Lib.hid (Below.refl _ _)⟩
  case round =>
    obtain ⟨k, acc, hk, rfl, rfl, ha0, ha1, hd, hbl⟩ := hrel
    by_cases hlt : k < m
    · obtain ⟨zb, zo, rfl, hzb, hcs⟩ := HZ.out.open (by rw [kC_len, HLN.out]; omega)
      obtain ⟨yb, yo, rfl, hyb, hys⟩ := HY.out.open (by rw [kC_len, ← HE1.out]; omega)
      have d0 := (hbl.out.cell (p := ⟨zb, zo + k, none⟩) hzb).trans (kind_at hcs (i := k) (by rw [HLN.out]; exact hlt))
      have d1 := (hbl.out.cell (p := ⟨yb, yo + k, none⟩) hyb).trans (kind_at hys (i := k) (by rw [← HE1.out]; exact hlt))
      obtain ⟨r10, r11⟩ := HR1.out k hlt
      obtain ⟨r20, r21⟩ := HR2.out k hlt
      have HN := Lib.hid ((HST.out k hlt acc).symm.trans hd.out)
      generalize cs.getD k 0 = u at *
      generalize ps.getD k 0 = p at *
      obtain ⟨q0, q1⟩ := quo_bd (n := n) (p := p) (by omega) r20
      have HQ : Hid (quo n p = (n + p - 1) / p) := Lib.hid rfl
      have hq := HQ.out
      obtain ⟨q, hq2⟩ : ∃ q, quo n p = q := ⟨_, rfl⟩
      rw [hq2] at HN q0 q1 hq
      obtain ⟨m0, m1⟩ := mul_bd (q := q) (c := u) q0 (by omega) r10 r11
      rw [Int.mul_comm u q] at m0 m1
      have v1 := IntWalk.i64_in (n + p) (by omega)
      have v2 := IntWalk.i64_in (n + p - 1) (by omega)
      have v3 := IntWalk.i64_in q (by omega)
      have v4 := IntWalk.i64_in (q * u) (by omega)
      have v5 := IntWalk.i64_in (acc + q * u) (by omega)
      have t1 : (n + p - 1).tdiv p = q := by rw [Int.tdiv_eq_ediv_of_nonneg (by omega)]; exact hq.symm
      have p0 : (p == 0) = false := beq_eq_false_iff_ne.2 (by omega)
      have p1 : ¬ p = 0 := by omega
      have lk : (k : Int) < (m : Int) := by omega
      have v6 := IntWalk.i64_in (k : Int) (by omega)
      clear hcs hys hq hq2
      go_wp2_with fail
      go_quiet (fail)
      clear v1 v2 v3 v4 v5 v6 t1 p0 p1
      go_wp2
      go_roundw
      case rel => exact ⟨k + 1, acc + q * u, by omega, by go_num, rfl, by omega, by omega, HN, Lib.hid (bel_dn hbl.out _)⟩
      case measure => simp [intOf]; omega
    · obtain rfl : k = m := by omega
      have HF := Lib.hid ((HEN.out acc).symm.trans hd.out)
      go_wp2
      go_ret
      exact ⟨bz_ri HF.out, hbl.out⟩
def l09P (r : Int × Int) (w : World) (e : Ending) (w' : World) : Prop := e = .returned (.tuple #[.int .i64 r.1, .bool (r.2 == 0)]) ∧ Below w.heap.size w w'
set_option maxHeartbeats 1000000 in
theorem l09Busy_any (cs ps : List Int) (b : Int) (x y : Option Addr) (c d : Nat) (hr : Rng cs ps) (hl : cs.length ≤ 100) (hb : 0 ≤ b ∧ b ≤ 5000) (w : World) (hz : Lies w x (kC cs)) (hy : Lies w y (kC ps)) :
    Calls Tryz.prog 83 #[.slice x cs.length c, .slice y ps.length d, .int .i64 b] w (l09P (bzV cs ps b) w) := by
  have HDM := Lib.hid (fun X (n : Int) (hX : Below w.heap.size w X) (hn : 1 ≤ n ∧ n ≤ 5000) => l09Demand_any cs ps b n x y c d hr hl hb hn X (hz.below hX (Nat.le_refl _)) (hy.below hX (Nat.le_refl _)))
  obtain ⟨f, hf⟩ : ∃ f, dem cs ps b = f := ⟨_, rfl⟩
  have HF0 : Hid (bz f 5001 (max (f 1) 1) = bzV cs ps b) := Lib.hid (by rw [← bz_first (f := f) (k := 5000) (by omega), ← hf]; rfl)
  obtain ⟨R, hR⟩ : ∃ R, bzV cs ps b = R := ⟨_, rfl⟩
  rw [hR] at HF0 ⊢
  have HDM2 : Hid (∀ X (n : Int), Below w.heap.size w X → 1 ≤ n ∧ n ≤ 5000 → Calls Tryz.prog 141 #[.slice x cs.length c, .slice y ps.length d, .int .i64 b, .int .i64 n] X fun e w' => e = .returned (.int .i64 (f n)) ∧ Below X.heap.size X w') := Lib.hid (fun X n hX hn => by rw [← hf]; exact HDM.out X n hX hn)
  clear hr hz hy HDM hf hR
  have HP : Hid (∀ w', Below w.heap.size w w' → l09P R w (.returned (.tuple #[.int .i64 R.1, .bool (R.2 == 0)])) w') := Lib.hid (fun w' h => ⟨rfl, h⟩)
  obtain ⟨r, rc⟩ := R
  dsimp only at HP
  generalize cs.length = n at *
  generalize ps.length = m at *
  have HC1 := Lib.hid (HDM2.out w 1 (Below.refl _ _) ⟨by omega, by omega⟩)
  have hwm := wmaxB
  go_enter Tryz.func83, Tryz.ntmps83
  go_wp2_with fail
  refine Calls.mono HC1.out ?_
  rintro e w1 ⟨rfl, hb1⟩
  have HB1 := Lib.hid hb1
  clear hb1 HC1
  generalize f 1 = f1 at *
  go_wp2
  go_loopw [8] (fun i wr => ∃ (t : Int) (k : Nat), i = .int .i64 t ∧ 1 ≤ t ∧ Hid (bz f k t = (r, rc)) ∧ 5001 ≤ k + t ∧ Hid (Below w.heap.size w wr)) (fun i _ => (5001 - intOf i).toNat)
  case atStart => exact ⟨max f1 1, 5001, rfl, by omega, HF0, by omega, HB1⟩
  case round =>
    obtain ⟨t, k, rfl, ht, hbz, hk, HBr⟩ := hrel
    by_cases h5 : 5000 < t
    · have HE := Lib.hid ((bz_over (f := f) (k := k) h5).symm.trans hbz.out)
      have h5' : ¬ t ≤ 5000 := by omega
      clear hbz
      go_wp2
      go_ret2
      obtain ⟨e1, e2⟩ := Prod.mk.inj HE.out
      subst e1 e2
      exact HP.out _ HBr.out
    · have h5' : t ≤ 5000 := by omega
      have HC := Lib.hid (HDM2.out wr t HBr.out ⟨ht, h5'⟩)
      by_cases hft : f t ≤ t
      · have HE := Lib.hid ((bz_done (f := f) h5' hk hft).symm.trans hbz.out)
        clear hbz
        generalize f t = ft at *
        go_wp2_with fail
        refine Calls.mono HC.out ?_
        rintro e w2 ⟨rfl, hb2⟩
        have HB2 := Lib.hid (HBr.out.trans (hb2.mono HBr.out.size))
        clear hb2
        go_wp2
        go_ret2
        obtain ⟨e1, e2⟩ := Prod.mk.inj HE.out
        subst e1 e2
        exact HP.out _ HB2.out
      · obtain ⟨k', e', hk'⟩ := bz_next (f := f) h5' hk hft
        have HE := Lib.hid (e'.symm.trans hbz.out)
        clear hbz e'
        generalize f t = ft at *
        go_wp2_with fail
        refine Calls.mono HC.out ?_
        rintro e w2 ⟨rfl, hb2⟩
        have HB2 := Lib.hid (HBr.out.trans (hb2.mono HBr.out.size))
        clear hb2
        go_wp2
        go_roundw
        case rel => exact ⟨ft, k', rfl, by omega, HE, hk', HB2⟩
        case measure => simp [intOf]; omega
theorem zip_cs {cs ps : List Int} (h : cs.length = ps.length) : csO (cs.zip ps) = cs := List.map_fst_zip (by omega)
theorem zip_ps {cs ps : List Int} (h : cs.length = ps.length) : psO (cs.zip ps) = ps := List.map_snd_zip (by omega)
def inBz (n a b : Int) : Bool := decide (a ≤ n ∧ n ≤ b)
theorem inBz_is {n a b : Int} {q : Bool} (h : inBz n a b = q) (w : World) : Calls Tryz.prog 166 #[.int .i64 n, .int .i64 a, .int .i64 b] w fun e w' => e = .returned (.bool q) ∧ w = w' := by
  have H := Lib.hid h
  clear h
  go_enter Tryz.func166, Tryz.ntmps166
  go_wp2
  all_goals (go_ret; refine ⟨bz_rb ?_, rfl⟩; rw [← H.out]; simp only [inBz]; rw [Bool.eq_iff_iff]; first | (simp; omega) | (simp; done))
end Go.Proofs.YtppgknjpbfopjaaGreatDoor
