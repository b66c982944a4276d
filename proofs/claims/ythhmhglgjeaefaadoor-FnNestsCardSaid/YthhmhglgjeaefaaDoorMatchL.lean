/- MatchOf of spec; the exact law of MatchOf. -/
import Derived.Test.YthhmhglgjeaefaaDoorMatch
namespace Go.Proofs.YthhmhglgjeaefaaDoor
open Go.ChangeShapes Go.WideShapes Go.ChangeAt Go.RowKit
theorem specMatchOf_any (zs : List Ins) (a : Option Addr) (c : Nat) (p : Int) (hm : zs.length ≤ maxLen) (w : World) (hz : Lies w a (flat insC zs)) :
    Calls Tryd.prog 16 #[.slice a zs.length c, .int .i64 p] w fun e w' => e = .returned (matchF zs p) ∧ w = w' := by
  unfold maxLen at hm
  by_cases h1 : 4096 < zs.length
  · have HF : Hid (matchF zs p = _) := Lib.hid (if_pos h1)
    generalize zs.length = n at *
    go_enter Tryd.func16, Tryd.ntmps16
    go_wp2
    go_ret3
    exact ⟨by rw [HF.out]; rfl, rfl⟩
  by_cases h2 : 40 < zs.length
  · have HF : Hid (matchF zs p = _) := Lib.hid ((if_neg h1).trans (if_pos h2))
    generalize zs.length = n at *
    go_enter Tryd.func16, Tryd.ntmps16
    go_wp2
    go_ret3
    exact ⟨by rw [HF.out]; rfl, rfl⟩
  by_cases h3 : p < 0 ∨ (zs.length : Int) ≤ p
  · have HF : Hid (matchF zs p = _) := Lib.hid ((if_neg h1).trans ((if_neg h2).trans (if_pos h3)))
    generalize zs.length = n at *
    rcases Int.lt_or_le p 0 with h4 | h4
    · go_enter Tryd.func16, Tryd.ntmps16
      go_wp2
      go_ret3
      exact ⟨by rw [HF.out]; rfl, rfl⟩
    · have h5 : ¬ p < 0 := by omega
      have h6 : (n : Int) ≤ p := by omega
      go_enter Tryd.func16, Tryd.ntmps16
      go_wp2
      go_ret3
      exact ⟨by rw [HF.out]; rfl, rfl⟩
  obtain ⟨k, rfl⟩ : ∃ k : Nat, p = k := ⟨p.toNat, by omega⟩
  have hk : k < zs.length := by omega
  have HF : Hid (matchF zs k = _) := Lib.hid ((if_neg h1).trans ((if_neg h2).trans (if_neg h3)))
  obtain ⟨b, q, rfl, hbl, hcs⟩ := hz.open (by rw [flat_len insC_len]; omega)
  obtain ⟨c0, c1⟩ := ins_at hcs (i := k) hk
  rw [Int.toNat_natCast] at HF
  by_cases h4 : (zs.getD k (0, 0)).1 = 21 ∨ (zs.getD k (0, 0)).1 = 24
  · have HG := Lib.hid (HF.out.trans (if_neg (by omega)))
    rcases hV : vMatch zs k with _ | ⟨u, v⟩
    all_goals
      have HM := Lib.hid (fun w hz => hV ▸ l04Match_any zs (some ⟨b, q, none⟩) c k hk (by omega) w hz)
      unfold sRes at HM
      dsimp only at HM
      rw [hV] at HG
      have Hz := Lib.hid hz
      clear hz hcs c1 HF hV
      generalize (zs.getD k (0, 0)).1 = x at *
      generalize zs.length = n at *
      rcases h4 with rfl | rfl
      all_goals
        go_enter Tryd.func16, Tryd.ntmps16
        go_wp2_with (go_at_call 35; refine (HM.out _ Hz.out).mono ?_; rintro e w' ⟨rfl, rfl⟩)
        go_ret3
        exact ⟨by rw [HG.out]; rfl, rfl⟩
  · have HG := Lib.hid (HF.out.trans (if_pos (by omega)))
    clear hz hcs c1 HF
    generalize (zs.getD k (0, 0)).1 = x at *
    have n21 : (x != 21) = true := by rw [bne_iff_ne]; omega
    have n24 : (x != 24) = true := by rw [bne_iff_ne]; omega
    have m21 : (x == 21) = false := by rw [beq_eq_false_iff_ne]; omega
    have m24 : (x == 24) = false := by rw [beq_eq_false_iff_ne]; omega
    clear h4
    generalize zs.length = n at *
    go_enter Tryd.func16, Tryd.ntmps16
    go_wp2
    go_ret3
    exact ⟨by rw [HG.out]; rfl, rfl⟩
theorem matchF_form (zs : List Ins) (p : Int) : ∃ x y z : Int, matchF zs p = .tuple #[.int .i64 x, .int .i64 y, .int .i64 z] := by
  unfold matchF mRes
  repeat' split
  all_goals exact ⟨_, _, _, rfl⟩
end Go.Proofs.YthhmhglgjeaefaaDoor
