/- Lists of integers compared: slices.Equal, spec's own. -/
import Derived.Test.YtppgknjpbfopjaaGreatDoorGen
namespace Go.Proofs.YtppgknjpbfopjaaGreatDoor
open Go.ChangeShapes Go.WideShapes Go.ChangeAt Go.RowKit
set_option linter.unusedVariables false
set_option maxRecDepth 100000 in
set_option maxHeartbeats 1000000 in
theorem slEqI_any (l m : List Int) (a b : Option Addr) (c d : Nat) (hl : l.length ≤ maxLen) (hm : m.length ≤ maxLen) (w : World) (hz : Lies w a (kC l)) (hy : Lies w b (kC m)) :
    Calls Tryz.prog 76 #[.slice a l.length c, .slice b m.length d] w fun e w' => e = .returned (.bool (decide (l = m))) ∧ Below w.heap.size w w' := by
  have Hz := Lib.hid hz
  have Hy := Lib.hid hy
  clear hz hy
  have HE := Lib.hid (@eql_len Int _ l m)
  have HN := Lib.hid (fun j => @eql_no Int _ l m j 0)
  have HY := Lib.hid (@eql_yes Int _ l m 0)
  generalize decide (l = m) = R at *
  unfold maxLen at hl hm
  generalize hL : l.length = n at *
  have HL := Lib.hid hL
  generalize hM : m.length = p at *
  have HM := Lib.hid hM
  clear hL hM
  by_cases hnp : n = p
  case neg =>
    have HR := Lib.hid (HE.out hnp)
    have hb : ((n : Int) != p) = true := by rw [bne_iff_ne]; omega
    clear hnp
    go_enter Tryz.func76, Tryz.ntmps76
    go_wp2
    go_ret
    exact ⟨rb_eq (by rw [HR.out]), Below.refl _ _⟩
  subst hnp
  have hs : ((n : Int) != n) = false := by simp
  go_enter Tryz.func76, Tryz.ntmps76
  go_wp2
  go_loopw [13] (fun i wr => ∃ k : Nat, k ≤ n ∧ i = .int .i64 k ∧ Hid (∀ q, q < k → l.getD q 0 = m.getD q 0) ∧ Hid (Below w.heap.size w wr)) (fun i _ => n - (intOf i).toNat)
  case atStart => exact ⟨0, Nat.zero_le _, rfl, Lib.hid (by intro q hq; omega), Lib.hid (Below.refl _ _)⟩
  case round =>
    obtain ⟨k, hk, rfl, hr, hb⟩ := hrel
    by_cases hlt : k < n
    · obtain ⟨b1, o1, rfl, hb1, hc1⟩ := Hz.out.open (by rw [kC_len, HL.out]; omega)
      obtain ⟨b2, o2, rfl, hb2, hc2⟩ := Hy.out.open (by rw [kC_len, HM.out]; omega)
      have d0 := (hb.out.cell (p := ⟨b1, o1 + k, none⟩) hb1).trans (kind_at hc1 (i := k) (by rw [HL.out]; exact hlt))
      have d1 := (hb.out.cell (p := ⟨b2, o2 + k, none⟩) hb2).trans (kind_at hc2 (i := k) (by rw [HM.out]; exact hlt))
      clear hc1 hc2
      have HX := Lib.hid (HN.out k)
      have HK : Hid (l.getD k 0 = m.getD k 0 → ∀ q, q < k + 1 → l.getD q 0 = m.getD q 0) := Lib.hid (fun h q hq => by
        by_cases e : q = k
        · rw [e]; exact h
        · exact hr.out q (by omega))
      generalize l.getD k 0 = x at *
      generalize m.getD k 0 = y at *
      by_cases hxy : x = y
      · have HK2 := Lib.hid (HK.out hxy)
        have hxx := (show (x != y) = false by rw [bne_eq_false_iff_eq]; exact hxy)
        clear hxy HX HK
        go_wp2_with fail
        go_quiet (fail)
        go_wp2
        go_roundw
        case rel => exact ⟨k + 1, by omega, by go_num, HK2, Lib.hid (bel_dn hb.out _)⟩
        case measure => simp [intOf]; omega
      · have HR := Lib.hid (HX.out hxy)
        have hxx := (show (x != y) = true by rw [bne_iff_ne]; exact hxy)
        clear hxy HX HK
        go_wp2_with fail
        go_quiet (fail)
        go_wp2
        go_ret
        exact ⟨rb_eq (by rw [HR.out]), bel_dn hb.out _⟩
    · obtain rfl : k = n := by omega
      have HR := Lib.hid (HY.out (by first | rfl | trivial) hr.out)
      go_wp2
      go_ret
      exact ⟨rb_eq (by rw [HR.out]), hb.out⟩
end Go.Proofs.YtppgknjpbfopjaaGreatDoor
