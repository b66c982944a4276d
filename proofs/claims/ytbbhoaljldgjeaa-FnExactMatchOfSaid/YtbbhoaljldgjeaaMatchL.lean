/- MatchOf of spec; the exact law of MatchOf. -/
import Derived.Test.YtbbhoaljldgjeaaMatch
namespace Go.Proofs.Ytbbhoaljldgjeaa
open Go.ChangeShapes Go.WideShapes Go.ChangeAt Go.RowKit
theorem specMatchOf_any (zs : List Ins) (a : Option Addr) (c : Nat) (p : Int) (hm : zs.length ≤ maxLen) (w : World) (hz : Lies w a (flat insC zs)) :
    Calls Try.prog 5 #[.slice a zs.length c, .int .i64 p] w fun e w' => e = .returned (matchF zs p) ∧ w = w' := by
  unfold maxLen at hm
  by_cases h1 : 4096 < zs.length
  · have HF : Hid (matchF zs p = _) := Lib.hid (if_pos h1)
    generalize zs.length = n at *
    go_enter Try.func5, Try.ntmps5
    go_wp2
    go_ret3
    exact ⟨by rw [HF.out]; rfl, rfl⟩
  by_cases h2 : 40 < zs.length
  · have HF : Hid (matchF zs p = _) := Lib.hid ((if_neg h1).trans (if_pos h2))
    generalize zs.length = n at *
    go_enter Try.func5, Try.ntmps5
    go_wp2
    go_ret3
    exact ⟨by rw [HF.out]; rfl, rfl⟩
  by_cases h3 : p < 0 ∨ (zs.length : Int) ≤ p
  · have HF : Hid (matchF zs p = _) := Lib.hid ((if_neg h1).trans ((if_neg h2).trans (if_pos h3)))
    generalize zs.length = n at *
    rcases Int.lt_or_le p 0 with h4 | h4
    · go_enter Try.func5, Try.ntmps5
      go_wp2
      go_ret3
      exact ⟨by rw [HF.out]; rfl, rfl⟩
    · have h5 : ¬ p < 0 := by omega
      have h6 : (n : Int) ≤ p := by omega
      go_enter Try.func5, Try.ntmps5
      go_wp2
      go_ret3
      exact ⟨by rw [HF.out]; rfl, rfl⟩
  obtain ⟨k, rfl⟩ : ∃ k : Nat, p = k := ⟨p.toNat, by omega⟩
  have hk : k < zs.length := by omega
  have HF : Hid (matchF zs k = _) := Lib.hid ((if_neg h1).trans ((if_neg h2).trans (if_neg h3)))
  obtain ⟨b, q, rfl, hbl, hcs⟩ := hz.open (by rw [flat_len insC_len]; omega)
  obtain ⟨c0, c1⟩ := ins_at hcs (i := k) hk
  rw [Int.toNat_natCast] at HF
  by_cases h4 : (zs.getD k (0, 0)).1 = 21 ∨ (zs.getD k (0, 0)).1 = 24
  · have HG := Lib.hid (HF.out.trans (if_neg (by omega)))
    rcases hV : vMatch zs k with _ | ⟨u, v⟩
    all_goals
      have HM := Lib.hid (fun w hz => hV ▸ l04Match_any zs (some ⟨b, q, none⟩) c k hk (by omega) w hz)
      unfold sRes at HM
      dsimp only at HM
      rw [hV] at HG
      have Hz := Lib.hid hz
      clear hz hcs c1 HF hV
      generalize (zs.getD k (0, 0)).1 = x at *
      generalize zs.length = n at *
      rcases h4 with rfl | rfl
      all_goals
        go_enter Try.func5, Try.ntmps5
        go_wp2_with (go_at_call 9; refine (HM.out _ Hz.out).mono ?_; rintro e w' ⟨rfl, rfl⟩)
        go_ret3
        exact ⟨by rw [HG.out]; rfl, rfl⟩
  · have HG := Lib.hid (HF.out.trans (if_pos (by omega)))
    clear hz hcs c1 HF
    generalize (zs.getD k (0, 0)).1 = x at *
    have n21 : (x != 21) = true := by rw [bne_iff_ne]; omega
    have n24 : (x != 24) = true := by rw [bne_iff_ne]; omega
    have m21 : (x == 21) = false := by rw [beq_eq_false_iff_ne]; omega
    have m24 : (x == 24) = false := by rw [beq_eq_false_iff_ne]; omega
    clear h4
    generalize zs.length = n at *
    go_enter Try.func5, Try.ntmps5
    go_wp2
    go_ret3
    exact ⟨by rw [HG.out]; rfl, rfl⟩
theorem came_insM {W : World} {a : Option Addr} {n c : Nat} (h : Came Try.prog W 22 [.slice a n c]) : n ≤ maxLen ∧ n ≤ c ∧ ∃ zs : List (Int × Int), zs.length = n ∧ Lies W a (flat insC zs) :=
  lies_came insC insC_len (by decide) Try.underlying22 cLaw (fun es g => by
    obtain ⟨n, a, e, _, _⟩ := came_lawInstr (cs := es.toArray) (by simpa using g)
    exact ⟨(n, a), by have := congrArg Array.toList e; simpa [insC] using this⟩) h
theorem matchF_form (zs : List Ins) (p : Int) : ∃ x y z : Int, matchF zs p = .tuple #[.int .i64 x, .int .i64 y, .int .i64 z] := by
  unfold matchF mRes
  repeat' split
  all_goals exact ⟨_, _, _, rfl⟩
theorem FnExactMatchOf_came (a : Option Addr) (n c : Nat) (p : Int) (W : World) (h : Came Try.prog W 22 [.slice a n c]) (_ : (Lit.int .i64 p).wf = true) :
    Calls Try.prog 3 #[.slice a n c, .int .i64 p] W fun e w' => e = .returned (.bool true) ∧ Below W.heap.size W w' := by
  obtain ⟨hm, _, zs, rfl, hz⟩ := came_insM h
  clear h
  by_cases hn : (zs.length : Int) ≤ 1048576
  · have Hz := Lib.hid hz
    have HL := Lib.hid hn
    clear hz
    have HA := Lib.hid (fun w hz => toInstrS_any zs a c (by omega) w hz)
    obtain ⟨x, y, z, hf⟩ := matchF_form zs p
    have HB := Lib.hid (fun a c w hz => hf ▸ specMatchOf_any zs a c p hm w hz)
    have HC := Lib.hid (fun a c w hz => hf ▸ matchOf_any zs a c p hm w hz)
    have HE := Lib.hid (fun a b c d w hz hy => eqInstrS_same zs a b c d (by omega) w hz hy)
    clear hf hm
    have e1 : (x != x) = false := by simp
    have e2 : (y != y) = false := by simp
    have e3 : (z != z) = false := by simp
    generalize hk : zs.length = k at *
    have HK := Lib.hid hk
    clear hk
    go_enter Try.func3, Try.ntmps3
    go_wp2_with (go_at_call 4; refine (szInstrS_ok a k c 1048576 HL.out (by omega) _).mono ?_; rintro e w' ⟨rfl, rfl⟩)
    refine (HA.out _ Hz.out).mono ?_
    rintro e w1 ⟨rfl, ho1, hb1⟩
    have Ho1 := Lib.hid (lies_own ho1)
    have Hb1 := Lib.hid hb1
    clear ho1 hb1
    go_wp2_with fail
    refine (HB.out _ _ _ Ho1.out).mono ?_
    rintro e w2 ⟨rfl, rfl⟩
    go_wp2_with fail
    refine (HA.out _ (Hz.out.below Hb1.out (Nat.le_refl _))).mono ?_
    rintro e w3 ⟨rfl, ho3, hb3⟩
    have Ho3 := Lib.hid (lies_own ho3)
    have Hb3 := Lib.hid (Hb1.out.trans (hb3.mono Hb1.out.size))
    clear ho3 hb3
    go_wp2_with fail
    refine (HC.out _ _ _ Ho3.out).mono ?_
    rintro e w4 ⟨rfl, rfl⟩
    go_wp2_with fail
    refine (HA.out _ (Hz.out.below Hb3.out (Nat.le_refl _))).mono ?_
    rintro e w5 ⟨rfl, ho5, hb5⟩
    have Ho5 := Lib.hid (lies_own ho5)
    have Ho6 := Lib.hid (Ho3.out.below hb5 (Nat.le_refl _))
    have Hb5 := Lib.hid (Hb3.out.trans (hb5.mono Hb3.out.size))
    clear ho5 hb5
    go_wp2_with fail
    refine (HE.out _ _ _ _ _ Ho6.out Ho5.out).mono ?_
    rintro e w6 ⟨rfl, hb6⟩
    have Hb6 := Lib.hid (Hb5.out.trans (hb6.mono Hb5.out.size))
    clear hb6
    go_wp2
    go_ret
    exact ⟨rfl, Hb6.out⟩
  · have hm' := hm
    unfold maxLen at hm'
    have hn' : (1048576 : Int) < zs.length := by omega
    have HM := Lib.hid hm
    clear hz hm
    generalize zs.length = k at *
    go_enter Try.func3, Try.ntmps3
    go_wp2_with (go_at_call 4; refine (szInstrS_no a k c 1048576 HM.out (by omega) (by omega) _).mono ?_; rintro e w' ⟨rfl, rfl⟩)
    go_ret
    exact ⟨rfl, Below.refl _ _⟩
end Go.Proofs.Ytbbhoaljldgjeaa
