/- RisesOf of impl and of spec. (Written by tools/gen_ris.py.) -/
import Derived.Test.YtgbnoaclklbjbaaBits
import Derived.Test.YtgbnoaclklbjbaaGen
import Derived.Deep.DeepCutAuto
namespace Go.Proofs.Ytgbnoaclklbjbaa
open Go.ChangeShapes Go.WideShapes Go.ChangeAt Go.RowKit
set_option linter.unusedVariables false
def risL (o n : List Bool) : Nat → List Int
  | 0 => []
  | k + 1 => risL o n k ++ (if n.getD k false && !o.getD k false then [(k : Int)] else [])
def risF (o n : List Bool) : List Int × Int := if o.length > 4096 ∨ n.length > 4096 then ([], 2) else if o.length ≠ 8 ∨ n.length ≠ 8 then ([], 8) else (risL o n 8, 0)
theorem risL_len (o n : List Bool) (k : Nat) : (risL o n k).length ≤ k := by
  induction k with
  | zero => exact Nat.le_refl _
  | succ k ih =>
    rw [risL, List.length_append]
    split <;> simp <;> omega
theorem ris_no {o n : List Bool} {k : Nat} (h : (n.getD k false && !o.getD k false) = false) : risL o n (k + 1) = risL o n k := by rw [risL, h]; simp
theorem ris_yes {o n : List Bool} {k : Nat} (h : (n.getD k false && !o.getD k false) = true) : risL o n (k + 1) = risL o n k ++ [(k : Int)] := by rw [risL, h]; rfl
theorem kC_snoc (q : List Int) (x : Int) : kC q ++ [Value.int .i64 x] = kC (q ++ [x]) := by simp [kC]
theorem cell_one_nw (w : World) (a : Value) (t : TypeId) : ∀ j u, [a][j]? = some u → (w.alloc (.cells #[a] t)).cell? ((⟨w.heap.size, 0, none⟩ : Addr).add j) = some u := by
  intro j u hj
  match j, hj with
  | 0, hj => simp at hj; subst hj; simp [Addr.add]
  | j + 1, hj => simp at hj
def RisPost (R : List Int × Int) (w : World) (e : Ending) (w' : World) : Prop :=
  ∃ a c, e = .returned (.tuple #[.slice a R.1.length c, .int .i64 R.2]) ∧ w'.ownsRow w.heap.size 3 1 (.slice a R.1.length c) R.1.length (kC R.1) ∧ Below w.heap.size w w'
theorem ris_lit (w : World) : (w.alloc (.cells #[] 3)).ownsRow w.heap.size 3 1 (.slice (some ⟨w.heap.size, 0, none⟩) 0 0) 0 [] := World.ownsRow_lit w #[] 0 (Nat.le_refl _) (by decide) rfl
set_option maxHeartbeats 1600000 in
theorem implRisesOf_any (o n : List Bool) (x y : Option Addr) (c d : Nat) (ho : o.length ≤ maxLen) (hn : n.length ≤ maxLen) (w : World) (hz : Lies w x (flat bI o)) (hy : Lies w y (flat bI n)) :
    Calls Try.prog 30 #[.slice x o.length c, .slice y n.length d] w (RisPost (risF o n) w) := by
  obtain ⟨i0, hi, hz0, hz1, hz2⟩ := info_parts (show (Try.prog.info? 3).map (fun i => (i.zero, i.size, i.bytes)) = some (some (.int .i64 0), 1, 8) by kernel_rfl)
  have HI := Lib.hid (And.intro hi (And.intro hz0 (And.intro hz1 hz2)))
  clear hi hz0 hz1 hz2
  have HZ := Lib.hid hz
  have HY := Lib.hid hy
  have HF : Hid (risF o n = if o.length > 4096 ∨ n.length > 4096 then ([], 2) else if o.length ≠ 8 ∨ n.length ≠ 8 then ([], 8) else (risL o n 8, 0)) := Lib.hid rfl
  have HLN := Lib.hid (risL_len o n)
  have HNO := Lib.hid (fun k => @ris_no o n k)
  have HYE := Lib.hid (fun k => @ris_yes o n k)
  have H00 : Hid (risL o n 0 = []) := Lib.hid rfl
  generalize risF o n = R at *
  generalize hP : RisPost R w = POST at *
  clear hz hy
  unfold maxLen at ho hn
  generalize hlo : o.length = p at *
  generalize hln : n.length = m at *
  have HLO := Lib.hid hlo
  have HLM := Lib.hid hln
  clear hlo hln
  by_cases h1 : 4096 < p ∨ 4096 < m
  · have HR := Lib.hid (HF.out.trans (if_pos h1))
    rw [HR.out] at hP
    by_cases h2 : (4096 : Int) < p
    · go_enter Try.func30, Try.ntmps30
      go_wp2
      rw [← hP]
      exact ⟨none, 0, rfl, World.ownsRow_nil _ _ _ _, Below.refl _ _⟩
    have h3 : (4096 : Int) < m := by omega
    go_enter Try.func30, Try.ntmps30
    go_wp2
    rw [← hP]
    exact ⟨none, 0, rfl, World.ownsRow_nil _ _ _ _, Below.refl _ _⟩
  have HF := Lib.hid (HF.out.trans (if_neg h1))
  have g1 : ¬ (4096 : Int) < p := by omega
  have g2 : ¬ (4096 : Int) < m := by omega
  by_cases h2 : p ≠ 8 ∨ m ≠ 8
  · have HR := Lib.hid (HF.out.trans (if_pos h2))
    rw [HR.out] at hP
    by_cases h3 : p = 8
    · have b1 : ((p : Int) != 8) = false := by simp [h3]
      have b2 : ((m : Int) != 8) = true := by rw [bne_iff_ne]; omega
      clear h3 h1 h2
      go_enter Try.func30, Try.ntmps30
      go_wp2
      rw [← hP]
      exact ⟨none, 0, rfl, World.ownsRow_nil _ _ _ _, Below.refl _ _⟩
    have b1 : ((p : Int) != 8) = true := by rw [bne_iff_ne]; omega
    clear h3 h1 h2
    go_enter Try.func30, Try.ntmps30
    go_wp2
    rw [← hP]
    exact ⟨none, 0, rfl, World.ownsRow_nil _ _ _ _, Below.refl _ _⟩
  have HR := Lib.hid (HF.out.trans (if_neg h2))
  rw [HR.out] at hP
  have b1 : ((p : Int) != 8) = false := by rw [bne_eq_false_iff_eq]; omega
  have b2 : ((m : Int) != 8) = false := by rw [bne_eq_false_iff_eq]; omega
  have p1 : 8 ≤ p ∧ p ≤ 8 := by omega
  have p2 : 8 ≤ m ∧ m ≤ 8 := by omega
  clear h1 h2 HF HR
  have HB0 : Hid (Below w.heap.size w w) := Lib.hid (Below.refl _ _)
  have HO0 : Hid (w.ownsRow w.heap.size 3 1 (.slice none 0 0) (risL o n 0).length (kC (risL o n 0))) := Lib.hid (World.ownsRow_nil _ _ _ _)
  go_enter Try.func30, Try.ntmps30
  go_wp2
  go_loopw [6, 28] (fun s i wr => ∃ (k : Nat) (a : Option Addr) (q : Nat), k ≤ 8 ∧ i = .int .i64 k ∧ s = .slice a (risL o n k).length q ∧ Hid (wr.ownsRow w.heap.size 3 1 (.slice a (risL o n k).length q) (risL o n k).length (kC (risL o n k))) ∧ Hid (Below w.heap.size w wr)) (fun _ i _ => 8 - (intOf i).toNat)
  case atStart => exact ⟨0, _, _, by omega, rfl, rfl, HO0, HB0⟩
  case round =>
    obtain ⟨k, a, q, hk, rfl, rfl, hown, hbel⟩ := hrel
    by_cases hlt : k < 8
    case neg =>
      obtain rfl : k = 8 := by omega
      go_wp2
      rw [← hP]
      exact ⟨a, q, rfl, hown.out, hbel.out⟩
    obtain ⟨b2, o2, rfl, hb2, hc2⟩ := HY.out.open (by rw [bC_len, HLM.out]; omega)
    have d2 := (hbel.out.cell (p := ⟨b2, o2 + k, none⟩) hb2).trans (bool_at hc2 (i := k) (by rw [HLM.out]; omega))
    obtain ⟨b1', o1, rfl, hb1, hc1⟩ := HZ.out.open (by rw [bC_len, HLO.out]; omega)
    have d1 := (hbel.out.cell (p := ⟨b1', o1 + k, none⟩) hb1).trans (bool_at hc1 (i := k) (by rw [HLO.out]; omega))
    have hkp : k < p := by omega
    have hkm : k < m := by omega
    have HN := Lib.hid (HNO.out k)
    have HYK := Lib.hid (HYE.out k)
    have HL := Lib.hid (HLN.out k)
    clear hc1 hc2
    generalize o.getD k false = u1 at *
    generalize n.getD k false = u2 at *
    cases u2
    · have HE := Lib.hid (HN.out rfl)
      have Hown : Hid (wr.ownsRow w.heap.size 3 1 (.slice a (risL o n (k + 1)).length q) (risL o n (k + 1)).length (kC (risL o n (k + 1)))) := Lib.hid (by rw [HE.out]; exact hown.out)
      have HS : Hid (.slice a (risL o n k).length q = Value.slice a (risL o n (k + 1)).length q) := Lib.hid (by rw [HE.out])
      generalize (risL o n k).length = l0 at *
      go_wp2
      go_roundw
      case rel => exact ⟨k + 1, a, q, by omega, by go_num, HS.out, Hown, hbel⟩
      case measure => simp [intOf]; omega
    cases u1
    · have HE := Lib.hid (HYK.out rfl)
      have HL1 : Hid ((risL o n (k + 1)).length = (risL o n k).length + 1) := Lib.hid (by rw [HE.out]; simp)
      have hll : (risL o n k).length ≤ 8 := by have := HL.out; omega
      have HSN := Lib.hid (kC_snoc (risL o n k) k)
      rw [← HE.out] at HSN
      generalize hl1 : (risL o n (k + 1)).length = l1 at *
      have HE1 := Lib.hid hl1
      clear hl1
      generalize (risL o n k).length = l0 at *
      generalize kC (risL o n k) = Q0 at *
      generalize hq1 : kC (risL o n (k + 1)) = Q1 at *
      have HE2 := Lib.hid hq1
      clear hq1
      have hls := hbel.out.size
      go_wp2_with (at_builtin; go_must (refine wpList_append_own _ rfl (.tmp 42) (.tmp 44) _ rfl w.heap.size 3 i0 _ 1 8 Try.underlying22 HI.out.1 HI.out.2.1 HI.out.2.2.1 HI.out.2.2.2 rfl (by decide) (.slice a l0 q) l0 Q0 rfl (own_bl hown.out (dbox _ _)) ⟨wr.heap.size, 0, none⟩ 1 1 [.int .i64 k] rfl rfl (cell_one_nw _ _ _) (by simp [Value.oneCell']) (by unfold maxLen; omega) (by omega) (by simp; omega) ?_); intro v' w2 g1' g2' _; rw [HSN.out, ← HL1.out] at g1'; obtain ⟨a', q', rfl⟩ := wk_slice g1'; have Hown := Lib.hid g1'; have Hbel := Lib.hid ((hbel.out.trans ((dbox wr (.cells #[.int .i64 k] 3)).mono hls)).grown g2' (by simp; omega) (fun j hj => (hown.out.lt j hj).1)); clear g1' g2')
      go_roundw
      case rel => exact ⟨k + 1, a', q', by omega, by go_num, by rw [HE1.out], by rw [HE1.out, HE2.out]; exact Hown, Hbel⟩
      case measure => simp [intOf]; omega
    · have HE := Lib.hid (HN.out rfl)
      have Hown : Hid (wr.ownsRow w.heap.size 3 1 (.slice a (risL o n (k + 1)).length q) (risL o n (k + 1)).length (kC (risL o n (k + 1)))) := Lib.hid (by rw [HE.out]; exact hown.out)
      have HS : Hid (.slice a (risL o n k).length q = Value.slice a (risL o n (k + 1)).length q) := Lib.hid (by rw [HE.out])
      generalize (risL o n k).length = l0 at *
      go_wp2
      go_roundw
      case rel => exact ⟨k + 1, a, q, by omega, by go_num, HS.out, Hown, hbel⟩
      case measure => simp [intOf]; omega
set_option maxHeartbeats 1600000 in
theorem specRisesOf_any (o n : List Bool) (x y : Option Addr) (c d : Nat) (ho : o.length ≤ maxLen) (hn : n.length ≤ maxLen) (w : World) (hz : Lies w x (flat bI o)) (hy : Lies w y (flat bI n)) :
    Calls Try.prog 28 #[.slice x o.length c, .slice y n.length d] w (RisPost (risF o n) w) := by
  obtain ⟨i0, hi, hz0, hz1, hz2⟩ := info_parts (show (Try.prog.info? 3).map (fun i => (i.zero, i.size, i.bytes)) = some (some (.int .i64 0), 1, 8) by kernel_rfl)
  have HI := Lib.hid (And.intro hi (And.intro hz0 (And.intro hz1 hz2)))
  clear hi hz0 hz1 hz2
  have HZ := Lib.hid hz
  have HY := Lib.hid hy
  have HF : Hid (risF o n = if o.length > 4096 ∨ n.length > 4096 then ([], 2) else if o.length ≠ 8 ∨ n.length ≠ 8 then ([], 8) else (risL o n 8, 0)) := Lib.hid rfl
  have HLN := Lib.hid (risL_len o n)
  have HNO := Lib.hid (fun k => @ris_no o n k)
  have HYE := Lib.hid (fun k => @ris_yes o n k)
  have H00 : Hid (risL o n 0 = []) := Lib.hid rfl
  generalize risF o n = R at *
  generalize hP : RisPost R w = POST at *
  clear hz hy
  unfold maxLen at ho hn
  generalize hlo : o.length = p at *
  generalize hln : n.length = m at *
  have HLO := Lib.hid hlo
  have HLM := Lib.hid hln
  clear hlo hln
  by_cases h1 : 4096 < p ∨ 4096 < m
  · have HR := Lib.hid (HF.out.trans (if_pos h1))
    rw [HR.out] at hP
    by_cases h2 : (4096 : Int) < p
    · go_enter Try.func28, Try.ntmps28
      go_wp2
      rw [← hP]
      exact ⟨_, _, rfl, ris_lit w, dbox w _⟩
    have h3 : (4096 : Int) < m := by omega
    go_enter Try.func28, Try.ntmps28
    go_wp2
    rw [← hP]
    exact ⟨_, _, rfl, ris_lit w, dbox w _⟩
  have HF := Lib.hid (HF.out.trans (if_neg h1))
  have g1 : ¬ (4096 : Int) < p := by omega
  have g2 : ¬ (4096 : Int) < m := by omega
  by_cases h2 : p ≠ 8 ∨ m ≠ 8
  · have HR := Lib.hid (HF.out.trans (if_pos h2))
    rw [HR.out] at hP
    by_cases h3 : p = 8
    · have b1 : ((p : Int) != 8) = false := by simp [h3]
      have b2 : ((m : Int) != 8) = true := by rw [bne_iff_ne]; omega
      clear h3 h1 h2
      go_enter Try.func28, Try.ntmps28
      go_wp2
      rw [← hP]
      exact ⟨_, _, rfl, ris_lit w, dbox w _⟩
    have b1 : ((p : Int) != 8) = true := by rw [bne_iff_ne]; omega
    clear h3 h1 h2
    go_enter Try.func28, Try.ntmps28
    go_wp2
    rw [← hP]
    exact ⟨_, _, rfl, ris_lit w, dbox w _⟩
  have HR := Lib.hid (HF.out.trans (if_neg h2))
  rw [HR.out] at hP
  have b1 : ((p : Int) != 8) = false := by rw [bne_eq_false_iff_eq]; omega
  have b2 : ((m : Int) != 8) = false := by rw [bne_eq_false_iff_eq]; omega
  have p1 : 8 ≤ p ∧ p ≤ 8 := by omega
  have p2 : 8 ≤ m ∧ m ≤ 8 := by omega
  clear h1 h2 HF HR
  have HB0 : Hid (Below w.heap.size w (w.alloc (.cells #[] 3))) := Lib.hid (dbox w _)
  have HO0 : Hid ((w.alloc (.cells #[] 3)).ownsRow w.heap.size 3 1 (.slice (some ⟨w.heap.size, 0, none⟩) 0 0) (risL o n 0).length (kC (risL o n 0))) := Lib.hid (ris_lit w)
  go_enter Try.func28, Try.ntmps28
  go_wp2
  go_loopw [6, 7] (fun s i wr => ∃ (k : Nat) (a : Option Addr) (q : Nat), k ≤ 8 ∧ i = .int .i64 k ∧ s = .slice a (risL o n k).length q ∧ Hid (wr.ownsRow w.heap.size 3 1 (.slice a (risL o n k).length q) (risL o n k).length (kC (risL o n k))) ∧ Hid (Below w.heap.size w wr)) (fun _ i _ => 8 - (intOf i).toNat)
  case atStart => exact ⟨0, _, _, by omega, rfl, rfl, HO0, HB0⟩
  case round =>
    obtain ⟨k, a, q, hk, rfl, rfl, hown, hbel⟩ := hrel
    by_cases hlt : k < 8
    case neg =>
      obtain rfl : k = 8 := by omega
      go_wp2
      rw [← hP]
      exact ⟨a, q, rfl, hown.out, hbel.out⟩
    obtain ⟨b2, o2, rfl, hb2, hc2⟩ := HY.out.open (by rw [bC_len, HLM.out]; omega)
    have d2 := (hbel.out.cell (p := ⟨b2, o2 + k, none⟩) hb2).trans (bool_at hc2 (i := k) (by rw [HLM.out]; omega))
    obtain ⟨b1', o1, rfl, hb1, hc1⟩ := HZ.out.open (by rw [bC_len, HLO.out]; omega)
    have d1 := (hbel.out.cell (p := ⟨b1', o1 + k, none⟩) hb1).trans (bool_at hc1 (i := k) (by rw [HLO.out]; omega))
    have hkp : k < p := by omega
    have hkm : k < m := by omega
    have HN := Lib.hid (HNO.out k)
    have HYK := Lib.hid (HYE.out k)
    have HL := Lib.hid (HLN.out k)
    clear hc1 hc2
    generalize o.getD k false = u1 at *
    generalize n.getD k false = u2 at *
    cases u2
    · have HE := Lib.hid (HN.out rfl)
      have Hown : Hid (wr.ownsRow w.heap.size 3 1 (.slice a (risL o n (k + 1)).length q) (risL o n (k + 1)).length (kC (risL o n (k + 1)))) := Lib.hid (by rw [HE.out]; exact hown.out)
      have HS : Hid (.slice a (risL o n k).length q = Value.slice a (risL o n (k + 1)).length q) := Lib.hid (by rw [HE.out])
      generalize (risL o n k).length = l0 at *
      go_wp2
      go_roundw
      case rel => exact ⟨k + 1, a, q, by omega, by go_num, HS.out, Hown, hbel⟩
      case measure => simp [intOf]; omega
    cases u1
    · have HE := Lib.hid (HYK.out rfl)
      have HL1 : Hid ((risL o n (k + 1)).length = (risL o n k).length + 1) := Lib.hid (by rw [HE.out]; simp)
      have hll : (risL o n k).length ≤ 8 := by have := HL.out; omega
      have HSN := Lib.hid (kC_snoc (risL o n k) k)
      rw [← HE.out] at HSN
      generalize hl1 : (risL o n (k + 1)).length = l1 at *
      have HE1 := Lib.hid hl1
      clear hl1
      generalize (risL o n k).length = l0 at *
      generalize kC (risL o n k) = Q0 at *
      generalize hq1 : kC (risL o n (k + 1)) = Q1 at *
      have HE2 := Lib.hid hq1
      clear hq1
      have hls := hbel.out.size
      go_wp2_with (at_builtin; go_must (refine wpList_append_own _ rfl (.tmp 42) (.tmp 44) _ rfl w.heap.size 3 i0 _ 1 8 Try.underlying22 HI.out.1 HI.out.2.1 HI.out.2.2.1 HI.out.2.2.2 rfl (by decide) (.slice a l0 q) l0 Q0 rfl (own_bl hown.out (dbox _ _)) ⟨wr.heap.size, 0, none⟩ 1 1 [.int .i64 k] rfl rfl (cell_one_nw _ _ _) (by simp [Value.oneCell']) (by unfold maxLen; omega) (by omega) (by simp; omega) ?_); intro v' w2 g1' g2' _; rw [HSN.out, ← HL1.out] at g1'; obtain ⟨a', q', rfl⟩ := wk_slice g1'; have Hown := Lib.hid g1'; have Hbel := Lib.hid ((hbel.out.trans ((dbox wr (.cells #[.int .i64 k] 3)).mono hls)).grown g2' (by simp; omega) (fun j hj => (hown.out.lt j hj).1)); clear g1' g2')
      go_roundw
      case rel => exact ⟨k + 1, a', q', by omega, by go_num, by rw [HE1.out], by rw [HE1.out, HE2.out]; exact Hown, Hbel⟩
      case measure => simp [intOf]; omega
    · have HE := Lib.hid (HN.out rfl)
      have Hown : Hid (wr.ownsRow w.heap.size 3 1 (.slice a (risL o n (k + 1)).length q) (risL o n (k + 1)).length (kC (risL o n (k + 1)))) := Lib.hid (by rw [HE.out]; exact hown.out)
      have HS : Hid (.slice a (risL o n k).length q = Value.slice a (risL o n (k + 1)).length q) := Lib.hid (by rw [HE.out])
      generalize (risL o n k).length = l0 at *
      go_wp2
      go_roundw
      case rel => exact ⟨k + 1, a, q, by omega, by go_num, HS.out, Hown, hbel⟩
      case measure => simp [intOf]; omega
end Go.Proofs.Ytgbnoaclklbjbaa
