/- Lists of routines: the copies, comparisons, sizes of the laws; the exact law of VerifyAll. -/
import Derived.Test.YtbbhoaljldgjeaaDoorAll4
namespace Go.Proofs.YtbbhoaljldgjeaaDoor
open Go.ChangeShapes Go.WideShapes Go.ChangeAt Go.RowKit
set_option linter.unusedVariables false
theorem toRoutineS_any (ls : List (List Ins)) (a : Option Addr) (c : Nat) (hn : ls.length ≤ 1048576) (hl : ∀ j, j < ls.length → (ls.getD j []).length ≤ 1048576) (w : World) (hz : Routs w a ls) :
    Calls Tryd.prog 29 #[.slice a ls.length c] w fun e w' => e = .returned (.slice (some ⟨w.heap.size, 0, none⟩) ls.length ls.length) ∧ Routs w' (some ⟨w.heap.size, 0, none⟩) ls ∧ Below w.heap.size w w' := by
  obtain ⟨i0, hi, hz0, hz1, hz2⟩ := info_parts (show (Tryd.prog.info? 93).map (fun i => (i.zero, i.size, i.bytes)) = some (some (.agg #[.slice none 0 0]), 1, 24) by kernel_rfl)
  have HI := Lib.hid (And.intro hi (And.intro hz0 (And.intro hz1 hz2)))
  clear hi hz0 hz1 hz2
  have HZ := Lib.hid hz
  have HM := Lib.hid hl
  have HA := Lib.hid (fun w (h : Routs w a ls) j (hj : j < ls.length) => h.at hj)
  clear hz hl
  generalize hL : ls.length = n at *
  have HL := Lib.hid hL
  clear hL
  go_enter Tryd.func29, Tryd.ntmps29
  go_wp2_with (at_make; go_must (refine wpList_make_full _ rfl _ _ _ rfl w.heap.size 93 i0 _ 1 Tryd.underlying49 HI.out.1 HI.out.2.1 HI.out.2.2.1 .i64 .i64 _ _ n rfl rfl rfl rfl (by rw [HI.out.2.2.2]; omega) (by unfold maxLen; omega) (Nat.le_refl _) ?_); intro w1 hown1 hgrow1)
  have Ho1 : Hid (FillR w1 w.heap.size n []) := Lib.hid ⟨_, by have := hown1.1; simpa using this, Nat.zero_le _, hown1⟩
  have Hb1 := Lib.hid ((Below.refl w.heap.size w).grown hgrow1 (Nat.le_refl _) (by intro k hk; cases hk))
  clear hown1 hgrow1
  go_loopw [4] (fun i wr => ∃ (k : Nat) (rs : List RT), k ≤ n ∧ i = .int .i64 k ∧ Hid (rs.length = k) ∧ Hid (FillR wr w.heap.size n rs) ∧ Hid (CodesR wr w.heap.size rs ls) ∧ Hid (Below w.heap.size w wr)) (fun i _ => n - (intOf i).toNat)
  case atStart => exact ⟨0, [], Nat.zero_le _, rfl, Lib.hid rfl, Ho1, Lib.hid (by intro j hj; simp at hj), Hb1⟩
  case round =>
    obtain ⟨k, rs, hk, rfl, hrl, hf, hc, hb⟩ := hrel
    by_cases hlt : k < n
    · obtain ⟨b, o, x, c2, rfl, hbl, hcell, hlies⟩ := HA.out w HZ.out k hlt
      have hb' := hb.out
      have d0 := (hb'.cell (p := ⟨b, o + k, none⟩) hbl).trans hcell
      have HT := Lib.hid (toRoutine_any (ls.getD k []) x c2 (HM.out k hlt) wr (hlies.below hb' (Nat.le_refl _)))
      have hBw : w.heap.size < wr.heap.size := by
        obtain ⟨tl, _, _, h3⟩ := hf.out
        exact (h3.lt w.heap.size rfl).2
      have HLk := Lib.hid (rfl : (ls.getD k []).length = (ls.getD k []).length)
      clear hcell hlies hb'
      go_wp2_with fail
      refine Calls.mono HT.out ?_
      rintro e w2 ⟨g, hg, rfl, hz2, hb2⟩
      have hf2 := hf.out.bel hb2
      have hc2 := hc.out.bel hb2
      have hgB : g ≠ w.heap.size := by omega
      obtain ⟨⟨v0, e0⟩, f0⟩ := hf2.there (by rw [hrl.out]; exact hlt)
      have hf3 := hf2.store (by rw [hrl.out]; exact hlt) (some ⟨g, 0, none⟩, (ls.getD rs.length []).length, (ls.getD rs.length []).length)
      have hc3 := hc2.snoc hgB (c := (ls.getD rs.length []).length) (by rw [hrl.out]; exact hz2) (.slice (some ⟨g, 0, none⟩) (ls.getD rs.length []).length (ls.getD rs.length []).length)
      rw [hrl.out] at e0 f0 hf3 hc3
      have HF3 := Lib.hid hf3
      have HC3 := Lib.hid hc3
      have HB3 := Lib.hid ((hb.out.trans (hb2.mono hb.out.size)).setCell (p := ⟨w.heap.size, k, none⟩) (Nat.le_refl _) (.slice (some ⟨g, 0, none⟩) (ls.getD k []).length (ls.getD k []).length))
      have HRL : Hid ((rs ++ [((some ⟨g, 0, none⟩, (ls.getD k []).length, (ls.getD k []).length) : RT)]).length = k + 1) := Lib.hid (by simp [hrl.out])
      clear hf2 hc2 hf3 hc3 hb2 hz2 d0
      generalize (ls.getD k []).length = q at *
      go_wp2
      go_roundw
      case rel => exact ⟨k + 1, _, by omega, by go_num, HRL, HF3, HC3, HB3⟩
      case measure => simp [intOf]; omega
    · obtain rfl : k = n := by omega
      go_wp2
      go_ret
      exact ⟨rfl, routs_of hf.out hc.out HL.out hrl.out, hb.out⟩
theorem eqRoutine_same (zs : List Ins) (a b : Option Addr) (c d : Nat) (hn : zs.length ≤ 1048576) (w : World) (hz : Lies w a (flat insC zs)) (hy : Lies w b (flat insC zs)) :
    Calls Tryd.prog 63 #[.agg #[.slice a zs.length c], .agg #[.slice b zs.length d]] w fun e w' => e = .returned (.bool true) ∧ Below w.heap.size w w' := by
  have HE := Lib.hid (fun w hz hy => eqInstrS_same zs a b c d hn w hz hy)
  have HB : Hid (∀ O O' : Obj, Below w.heap.size w ((w.alloc O).alloc O')) := Lib.hid (fun O O' => ((Below.refl w.heap.size w).alloc (Nat.le_refl _) O).alloc (by simp) O')
  have HZ := Lib.hid hz
  have HY := Lib.hid hy
  clear hz hy
  generalize zs.length = n at *
  go_enter Tryd.func63, Tryd.ntmps63
  go_wp2_with fail
  refine Calls.mono (HE.out _ (HZ.out.below (HB.out _ _) (Nat.le_refl _)) (HY.out.below (HB.out _ _) (Nat.le_refl _))) ?_
  rintro e w1 ⟨rfl, hb1⟩
  have Hb1 := Lib.hid ((HB.out _ _).trans (hb1.mono (HB.out _ _).size))
  clear hb1
  go_wp2
  go_ret
  exact ⟨rfl, Hb1.out⟩
theorem eqRoutineS_same (ls : List (List Ins)) (a b : Option Addr) (c d : Nat) (hn : ls.length ≤ 1048576) (hl : ∀ j, j < ls.length → (ls.getD j []).length ≤ 1048576) (w : World) (hz : Routs w a ls) (hy : Routs w b ls) :
    Calls Tryd.prog 31 #[.slice a ls.length c, .slice b ls.length d] w fun e w' => e = .returned (.bool true) ∧ Below w.heap.size w w' := by
  have HA := Lib.hid (fun w a (h : Routs w a ls) j (hj : j < ls.length) => h.at hj)
  have HZ := Lib.hid hz
  have HY := Lib.hid hy
  have HM := Lib.hid hl
  clear hz hy hl
  generalize hL : ls.length = n at *
  have HL := Lib.hid hL
  clear hL
  have hs : ((n : Int) != n) = false := by simp
  go_enter Tryd.func31, Tryd.ntmps31
  go_wp2
  go_loopw [5] (fun i wr => ∃ k : Nat, k ≤ n ∧ i = .int .i64 k ∧ Hid (Below w.heap.size w wr)) (fun i _ => n - (intOf i).toNat)
  case atStart => exact ⟨0, Nat.zero_le _, rfl, Lib.hid (Below.refl _ _)⟩
  case round =>
    obtain ⟨k, hk, rfl, hb⟩ := hrel
    by_cases hlt : k < n
    · obtain ⟨b1, o1, x1, c1, rfl, hb1, hc1, hz1⟩ := HA.out w a HZ.out k hlt
      obtain ⟨b2, o2, x2, c2, rfl, hb2, hc2, hz2⟩ := HA.out w b HY.out k hlt
      have d0 := (hb.out.cell (p := ⟨b1, o1 + k, none⟩) hb1).trans hc1
      have d1 := (hb.out.cell (p := ⟨b2, o2 + k, none⟩) hb2).trans hc2
      have HE := Lib.hid (fun w2 (h : Below w.heap.size w w2) => eqRoutine_same (ls.getD k []) x1 x2 c1 c2 (HM.out k hlt) w2 (hz1.below h (Nat.le_refl _)) (hz2.below h (Nat.le_refl _)))
      clear hc1 hc2 hz1 hz2
      generalize (ls.getD k []).length = q at *
      go_wp2_with fail
      go_region_with (go_at_call 63; refine Calls.mono (HE.out _ (by exact bel_dn hb.out 1)) ?_; rintro e w2 ⟨rfl, hb3⟩; have Hb3 := Lib.hid (hb.out.trans ((below_from (n := 1) hb3 (Nat.le_refl _)).mono hb.out.size)); clear hb3)
      all_goals go_wp2
      all_goals go_roundw
      all_goals first | exact ⟨k + 1, by omega, by go_num, Hb3⟩ | (simp [intOf]; omega)
    · obtain rfl : k = n := by omega
      go_wp2
      go_ret
      exact ⟨rfl, hb.out⟩
end Go.Proofs.YtbbhoaljldgjeaaDoor
