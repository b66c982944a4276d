/- The sizes of routines; the exact law of VerifyAll. -/
import Derived.Test.YtbbhoaljldgjeaaDoorAll5
namespace Go.Proofs.YtbbhoaljldgjeaaDoor
open Go.ChangeShapes Go.WideShapes Go.ChangeAt Go.RowKit
set_option linter.unusedVariables false
theorem szRoutine_ok (a : Option Addr) (n c : Nat) (left : Int) (h : (n : Int) ≤ left) (hl : left ≤ 1048576) (w : World) : Calls Tryd.prog 56 #[.agg #[.slice a n c], .int .i64 left] w fun e w' => e = .returned (.int .i64 (left - n)) ∧ Below w.heap.size w w' := by
  have hd : ¬ (left - (n : Int) < 0) := by omega
  go_enter Tryd.func56, Tryd.ntmps56
  go_wp2_with (go_at_call 22; refine (szInstrS_ok a n c left h hl _).mono ?_; rintro e w' ⟨rfl, rfl⟩)
  go_ret
  exact ⟨rfl, (Below.refl w.heap.size w).alloc (Nat.le_refl _) _⟩
theorem szRoutine_no (a : Option Addr) (n c : Nat) (left : Int) (hn : n ≤ maxLen) (h : left < (n : Int)) (hl : 0 ≤ left) (w : World) : Calls Tryd.prog 56 #[.agg #[.slice a n c], .int .i64 left] w fun e w' => e = .returned (.int .i64 (-1)) ∧ Below w.heap.size w w' := by
  go_enter Tryd.func56, Tryd.ntmps56
  go_wp2_with (go_at_call 22; refine (szInstrS_no a n c left hn h hl _).mono ?_; rintro e w' ⟨rfl, rfl⟩)
  go_ret
  exact ⟨rfl, (Below.refl w.heap.size w).alloc (Nat.le_refl _) _⟩
def SzPost (ls : List (List Ins)) (w : World) (e : Ending) (w' : World) : Prop := ∃ v : Int, e = .returned (.int .i64 v) ∧ Below w.heap.size w w' ∧ (v < 0 ∨ 0 ≤ v ∧ ls.length ≤ 1048576 ∧ ∀ j, j < ls.length → (ls.getD j []).length ≤ 1048576)
theorem szRoutineS_any (ls : List (List Ins)) (a : Option Addr) (c : Nat) (hm : ls.length ≤ maxLen) (hl : ∀ j, j < ls.length → (ls.getD j []).length ≤ maxLen) (w : World) (hz : Routs w a ls) :
    Calls Tryd.prog 27 #[.slice a ls.length c, .int .i64 1048576] w (SzPost ls w) := by
  have HM := Lib.hid hl
  have HZ := Lib.hid hz
  have HA := Lib.hid (fun w (h : Routs w a ls) j (hj : j < ls.length) => h.at hj)
  have HNO : Hid (∀ w', Below w.heap.size w w' → SzPost ls w (.returned (.int .i64 (-1))) w') := Lib.hid (fun w' hb => ⟨-1, rfl, hb, .inl (by decide)⟩)
  have HOK : Hid (∀ (v : Int) w', 0 ≤ v → ls.length ≤ 1048576 → (∀ j, j < ls.length → (ls.getD j []).length ≤ 1048576) → Below w.heap.size w w' → SzPost ls w (.returned (.int .i64 v)) w') := Lib.hid (fun v w' h1 h2 h3 hb => ⟨v, rfl, hb, .inr ⟨h1, h2, h3⟩⟩)
  unfold maxLen at hm
  clear hl hz
  generalize SzPost ls w = POST at *
  generalize hL : ls.length = n at *
  have HL := Lib.hid hL
  clear hL
  by_cases h1 : (1048576 : Int) < n
  · go_enter Tryd.func27, Tryd.ntmps27
    go_wp2
    exact HNO.out _ (Below.refl _ _)
  have h0 : (0 : Int) ≤ 1048576 - n := by omega
  go_enter Tryd.func27, Tryd.ntmps27
  go_wp2
  go_loopw [1, 5] (fun q i wr => ∃ (j : Nat) (l : Int), j ≤ n ∧ i = .int .i64 j ∧ q = .int .i64 l ∧ 0 ≤ l ∧ l ≤ 1048576 ∧ Hid (∀ q, q < j → (ls.getD q []).length ≤ 1048576) ∧ Hid (Below w.heap.size w wr)) (fun _ i _ => n - (intOf i).toNat)
  case atStart => exact ⟨0, 1048576 - n, Nat.zero_le _, rfl, rfl, h0, by omega, Lib.hid (by intro q hq; omega), Lib.hid (Below.refl _ _)⟩
  case round =>
    obtain ⟨j, l, hj, rfl, rfl, hl0, hl1, hr, hb⟩ := hrel
    by_cases hlt : j < n
    · obtain ⟨b, o, x, c2, rfl, hbl, hcell, _⟩ := HA.out w HZ.out j hlt
      have d0 := (hb.out.cell (p := ⟨b, o + j, none⟩) hbl).trans hcell
      have HMj := Lib.hid (HM.out j hlt)
      have HX : Hid ((ls.getD j []).length ≤ 1048576 → ∀ q, q < j + 1 → (ls.getD q []).length ≤ 1048576) := Lib.hid (fun g q hq => by
        by_cases e : q = j
        · rw [e]; exact g
        · exact hr.out q (by omega))
      clear hcell
      generalize (ls.getD j []).length = m at *
      by_cases h2 : (m : Int) ≤ l
      · have HX2 := Lib.hid (HX.out (by omega))
        have hp : ¬ (l - (m : Int) < 0) := by omega
        go_wp2_with fail
        refine Calls.mono (szRoutine_ok x m c2 l h2 hl1 _) ?_
        rintro e w2 ⟨rfl, hb2⟩
        have Hb2 := Lib.hid (hb.out.trans (hb2.mono hb.out.size))
        clear hb2 d0
        go_wp2
        go_roundw
        case rel => exact ⟨j + 1, l - m, by omega, by go_num, rfl, by omega, by omega, HX2, Hb2⟩
        case measure => simp [intOf]; omega
      · have h3 : l < (m : Int) := by omega
        go_wp2_with fail
        refine Calls.mono (szRoutine_no x m c2 l HMj.out h3 hl0 _) ?_
        rintro e w2 ⟨rfl, hb2⟩
        have Hb2 := Lib.hid (hb.out.trans (hb2.mono hb.out.size))
        clear hb2 d0
        go_wp2
        exact HNO.out _ Hb2.out
    · obtain rfl : j = n := by omega
      go_wp2
      exact HOK.out _ _ hl0 (by omega) hr.out hb.out
theorem FnExactVerifyAll_came (a : Option Addr) (n c : Nat) (k : Option Addr) (m kc : Nat) (W : World) (h : Came Tryd.prog W 46 [.slice a n c]) (hk : Came Tryd.prog W 23 [.slice k m kc]) (hf : OpTab W ∧ EffTab W ∧ FbTab W) :
    Calls Tryd.prog 6 #[.slice a n c, .slice k m kc] W fun e w' => e = .returned (.bool true) ∧ Below W.heap.size W w' := by
  obtain ⟨hT, hE, hF⟩ := hf
  obtain ⟨hm, ls, rfl, hz, hlm⟩ := came_rts h
  obtain ⟨hm2, _, ks, rfl, hy⟩ := came_ks hk
  clear h hk
  have hmm := hm
  have hmm2 := hm2
  unfold maxLen at hmm hmm2
  have HM := Lib.hid hm
  have HM2 := Lib.hid hm2
  by_cases hk2 : (1048576 : Int) < ks.length
  · clear hz hy hT hE hF hm hm2 hlm
    generalize ls.length = n at *
    generalize ks.length = m at *
    go_enter Tryd.func6, Tryd.ntmps6
    go_wp2
    go_ret
    exact ⟨rfl, Below.refl _ _⟩
  have Hz := Lib.hid hz
  have Hy := Lib.hid hy
  have HT : Hid (∀ w, Below W.heap.size W w → VTabs w) := Lib.hid (fun w hb => (VTabs.mk hT hE hF).below hb (Nat.le_refl _))
  have HS := Lib.hid (szRoutineS_any ls a c hm hlm W hz)
  have HA := Lib.hid (fun (hn : ls.length ≤ 1048576) hl w hz => toRoutineS_any ls a c hn hl w hz)
  have HA2 := Lib.hid (fun w hz => toIntS_any ks k kc (by omega) w hz)
  have HB := Lib.hid (fun a c k kc w hz hy => specVerifyAll_any a c ls ks k kc hm hlm hm2 w hz hy)
  have HC := Lib.hid (fun a c k kc w ht hz hy => verifyAll_any a c ls ks k kc hm hlm hm2 w ht hz hy)
  have HEI := Lib.hid (fun (hn : ls.length ≤ 1048576) hl a b c d w hz hy => eqRoutineS_same ls a b c d hn hl w hz hy)
  have HEK := Lib.hid (fun a b c d w hz hy => eqIntS_same ks a b c d (by omega) w hz hy)
  clear hz hy hT hE hF hm hm2 hlm
  generalize (allF ls ks).1 = x at *
  generalize (allF ls ks).2.1 = y at *
  generalize (allF ls ks).2.2 = z at *
  have e1 : (x != x) = false := by simp
  have e2 : (y != y) = false := by simp
  have e3 : (z != z) = false := by simp
  have HSP : Hid (∀ e w', SzPost ls W e w' → ∃ v : Int, e = .returned (.int .i64 v) ∧ Below W.heap.size W w' ∧ (v < 0 ∨ 0 ≤ v ∧ ls.length ≤ 1048576 ∧ ∀ j, j < ls.length → (ls.getD j []).length ≤ 1048576)) := Lib.hid (fun e w' h => h)
  generalize hj : ls.length = n at *
  have HN := Lib.hid hj
  generalize hq : ks.length = m at *
  have HQ := Lib.hid hq
  clear hj hq
  go_enter Tryd.func6, Tryd.ntmps6
  go_wp2_with fail
  refine Calls.mono HS.out ?_
  intro e w0 hsp
  obtain ⟨v, rfl, hb0, hv⟩ := HSP.out _ _ hsp
  have Hb0 := Lib.hid hb0
  clear hsp hb0
  by_cases hv0 : v < 0
  · clear hv
    go_wp2
    go_ret
    exact ⟨rfl, Hb0.out⟩
  obtain ⟨hv1, hn1, hl1⟩ : 0 ≤ v ∧ n ≤ 1048576 ∧ ∀ j, j < n → (ls.getD j []).length ≤ 1048576 := by
    rcases hv with h | h
    · exact absurd h hv0
    · exact h
  have HL1 := Lib.hid hl1
  have HN1 := Lib.hid hn1
  clear hv hl1
  go_wp2_with fail
  refine Calls.mono (HA.out HN1.out HL1.out _ (Hz.out.below Hb0.out)) ?_
  rintro e w1 ⟨rfl, ho1, hb1⟩
  have Ho1 := Lib.hid ho1
  have Hb1 := Lib.hid (Hb0.out.trans (hb1.mono Hb0.out.size))
  clear ho1 hb1
  go_wp2_with fail
  refine Calls.mono (HA2.out _ (Hy.out.below Hb1.out (Nat.le_refl _))) ?_
  rintro e w2 ⟨rfl, ho2, hb2⟩
  have Ho2 := Lib.hid (lies_own ho2)
  have Ho1 := Lib.hid (Ho1.out.below hb2)
  have Hb2 := Lib.hid (Hb1.out.trans (hb2.mono Hb1.out.size))
  clear ho2 hb2
  go_wp2_with fail
  refine Calls.mono (HB.out _ _ _ _ _ Ho1.out Ho2.out) ?_
  rintro e w3 ⟨rfl, hb3⟩
  have Hb3 := Lib.hid (Hb2.out.trans (hb3.mono Hb2.out.size))
  clear hb3
  go_wp2_with fail
  refine Calls.mono (HA.out HN1.out HL1.out _ (Hz.out.below Hb3.out)) ?_
  rintro e w4 ⟨rfl, ho4, hb4⟩
  have Ho4 := Lib.hid ho4
  have Hb4 := Lib.hid (Hb3.out.trans (hb4.mono Hb3.out.size))
  clear ho4 hb4
  go_wp2_with fail
  refine Calls.mono (HA2.out _ (Hy.out.below Hb4.out (Nat.le_refl _))) ?_
  rintro e w5 ⟨rfl, ho5, hb5⟩
  have Ho5 := Lib.hid (lies_own ho5)
  have Ho4 := Lib.hid (Ho4.out.below hb5)
  have Hb5 := Lib.hid (Hb4.out.trans (hb5.mono Hb4.out.size))
  clear ho5 hb5
  go_wp2_with fail
  refine Calls.mono (HC.out _ _ _ _ _ (HT.out _ Hb5.out) Ho4.out Ho5.out) ?_
  rintro e w6 ⟨rfl, hb6⟩
  have Ho4 := Lib.hid (Ho4.out.below hb6)
  have Ho5 := Lib.hid (Ho5.out.below hb6 (Nat.le_refl _))
  have Hb6 := Lib.hid (Hb5.out.trans (hb6.mono Hb5.out.size))
  clear hb6
  go_wp2_with fail
  refine Calls.mono (HA.out HN1.out HL1.out _ (Hz.out.below Hb6.out)) ?_
  rintro e w7 ⟨rfl, ho7, hb7⟩
  have Ho7 := Lib.hid ho7
  have Ho4 := Lib.hid (Ho4.out.below hb7)
  have Ho5 := Lib.hid (Ho5.out.below hb7 (Nat.le_refl _))
  have Hb7 := Lib.hid (Hb6.out.trans (hb7.mono Hb6.out.size))
  clear ho7 hb7
  go_wp2_with fail
  refine Calls.mono (HEI.out HN1.out HL1.out _ _ _ _ _ Ho4.out Ho7.out) ?_
  rintro e w8 ⟨rfl, hb8⟩
  have Ho5 := Lib.hid (Ho5.out.below hb8 (Nat.le_refl _))
  have Hb8 := Lib.hid (Hb7.out.trans (hb8.mono Hb7.out.size))
  clear hb8
  go_wp2_with fail
  refine Calls.mono (HA2.out _ (Hy.out.below Hb8.out (Nat.le_refl _))) ?_
  rintro e w9 ⟨rfl, ho9, hb9⟩
  have Ho9 := Lib.hid (lies_own ho9)
  have Ho5 := Lib.hid (Ho5.out.below hb9 (Nat.le_refl _))
  have Hb9 := Lib.hid (Hb8.out.trans (hb9.mono Hb8.out.size))
  clear ho9 hb9
  go_wp2_with fail
  refine Calls.mono (HEK.out _ _ _ _ _ Ho5.out Ho9.out) ?_
  rintro e w10 ⟨rfl, hb10⟩
  have Hb10 := Lib.hid (Hb9.out.trans (hb10.mono Hb9.out.size))
  clear hb10
  go_wp2
  go_ret
  exact ⟨rfl, Hb10.out⟩
end Go.Proofs.YtbbhoaljldgjeaaDoor
