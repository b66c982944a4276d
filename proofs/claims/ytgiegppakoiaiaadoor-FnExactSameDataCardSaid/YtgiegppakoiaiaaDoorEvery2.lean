/- impl.every over integers with isValue, over function blocks with FbOK. (Written by tools/gen_every.py.) -/
import Derived.Test.YtgiegppakoiaiaaDoorEvery
import Derived.Test.YtgiegppakoiaiaaDoorBits
import Derived.Test.YtgiegppakoiaiaaDoorFbState
namespace Go.Proofs.YtgiegppakoiaiaaDoor
open Go.ChangeShapes Go.WideShapes Go.ChangeAt Go.RowKit
set_option linter.unusedVariables false
theorem everyVal_any (l : List Int) (a : Option Addr) (c : Nat) (hm : l.length ≤ maxLen) (w : World) (hz : Lies w a (kC l)) :
    Calls Tryd.prog 57 #[.slice a l.length c, .func (.func 58) #[] #[]] w fun e w' => e = .returned (.bool (l.all inI32)) ∧ w = w' := by
  unfold maxLen at hm
  have HZ := Lib.hid hz
  have HKN := Lib.hid (fun j (h : j < l.length) (g : inI32 (l.getD j 0) = false) => all_no inI32 0 h g)
  have HKY := Lib.hid (fun h => all_yes inI32 0 (l := l) h)
  clear hz
  generalize l.all inI32 = R at *
  generalize hL : l.length = n at *
  have HL := Lib.hid hL
  clear hL
  go_enter Tryd.func57, Tryd.ntmps57
  go_wp2
  go_loop [9] (fun i => ∃ j : Nat, j ≤ n ∧ i = .int .i64 j ∧ Hid (∀ q, q < j → inI32 (l.getD q 0) = true)) (fun i => n - (intOf i).toNat)
  case atStart => exact ⟨0, Nat.zero_le _, rfl, Lib.hid (by intro q hq; omega)⟩
  case round =>
    obtain ⟨j, hj, rfl, hr⟩ := hrel
    by_cases hlt : j < n
    · obtain ⟨b, o, rfl, hbl, hcs⟩ := HZ.out.open (by rw [kC_len, HL.out]; omega)
      have c0 := kind_at hcs (i := j) (by rw [HL.out]; exact hlt)
      clear hcs
      cases hk : inI32 (l.getD j 0)
      · have HR := Lib.hid (HKN.out j hlt hk)
        have HC := Lib.hid hk
        clear hk
        generalize l.getD j 0 = z at *
        go_wp2_with (go_at_call 58; refine (fb_isValue_is HC.out _).mono ?_; rintro e w' ⟨rfl, rfl⟩)
        go_ret
        exact ⟨by rw [HR.out]; rfl, rfl⟩
      · have HC := Lib.hid hk
        have HN : Hid (∀ q, q < j + 1 → inI32 (l.getD q 0) = true) := Lib.hid (fun q hq => by
          by_cases e : q = j
          · rw [e]; exact HC.out
          · exact hr.out q (by omega))
        clear hk
        generalize l.getD j 0 = z at *
        go_wp2_with (go_at_call 58; refine (fb_isValue_is HC.out _).mono ?_; rintro e w' ⟨rfl, rfl⟩)
        go_round
        case rel => exact ⟨j + 1, by omega, by go_num, HN⟩
        case measure => simp [intOf]; omega
    · obtain rfl : j = n := by omega
      have HR := Lib.hid (HKY.out hr.out)
      go_wp2
      go_ret
      exact ⟨by rw [HR.out]; rfl, rfl⟩
def ftB (z : FT) : Bool := fbOKB z.1 z.2.1 z.2.2.1 z.2.2.2
theorem ftOK_is {z : FT} {b : Bool} (h : ftB z = b) (w : World) (ht : FbTab w) : Calls Tryd.prog 60 #[fV z] w fun e w' => e = .returned (.bool b) ∧ Below w.heap.size w w' := fbOK_is h w ht
set_option maxHeartbeats 1000000 in
theorem everyFb_any (l : List FT) (a : Option Addr) (c : Nat) (hm : l.length ≤ maxLen) (w : World) (ht : FbTab w) (hz : Lies w a (flat fC l)) :
    Calls Tryd.prog 59 #[.slice a l.length c, .func (.func 60) #[] #[]] w fun e w' => e = .returned (.bool (l.all ftB)) ∧ Below w.heap.size w w' := by
  unfold maxLen at hm
  have HZ := Lib.hid hz
  have HT : Hid (∀ w', Below w.heap.size w w' → FbTab w') := Lib.hid (fun w' h => ht.below h (Nat.le_refl _))
  have HKN := Lib.hid (fun j (h : j < l.length) (g : ftB (l.getD j f0) = false) => all_no ftB f0 h g)
  have HKY := Lib.hid (fun h => all_yes ftB f0 (l := l) h)
  clear hz ht
  generalize l.all ftB = R at *
  generalize hL : l.length = n at *
  have HL := Lib.hid hL
  clear hL
  go_enter Tryd.func59, Tryd.ntmps59
  go_wp2
  go_loopw [9] (fun i wr => ∃ j : Nat, j ≤ n ∧ i = .int .i64 j ∧ Hid (∀ q, q < j → ftB (l.getD q f0) = true) ∧ Hid (Below w.heap.size w wr)) (fun i _ => n - (intOf i).toNat)
  case atStart => exact ⟨0, Nat.zero_le _, rfl, Lib.hid (by intro q hq; omega), Lib.hid (Below.refl _ _)⟩
  case round =>
    obtain ⟨j, hj, rfl, hr, hb⟩ := hrel
    by_cases hlt : j < n
    · obtain ⟨b, o, rfl, hbl, hcs⟩ := HZ.out.open (by rw [flat_len fC_len, HL.out]; omega)
      have c4 : C4 b (o + j * 4) (l.getD j f0) w := ft_at hcs (by rw [HL.out]; exact hlt)
      obtain ⟨d0, d1, d2, d3⟩ := c4.bel hb.out hbl
      clear hcs c4
      cases hk : ftB (l.getD j f0)
      · have HR := Lib.hid (HKN.out j hlt hk)
        have HC := Lib.hid (fun w ht => ftOK_is hk w ht)
        clear hk
        generalize l.getD j f0 = z at *
        have Ha := Lib.hid (hb.out.alloc hb.out.size (.cells #[.int .i64 z.1, .bool z.2.1, .int .i64 z.2.2.1, .int .i64 z.2.2.2] 86))
        go_wp2_with fail
        refine Calls.mono (HC.out _ (HT.out _ Ha.out)) ?_
        rintro e w2 ⟨rfl, hb2⟩
        have Hb2 := Lib.hid (Ha.out.trans (hb2.mono Ha.out.size))
        clear hb2
        go_wp2
        go_ret
        exact ⟨by rw [HR.out]; rfl, Hb2.out⟩
      · have HN : Hid (∀ q, q < j + 1 → ftB (l.getD q f0) = true) := Lib.hid (fun q hq => by
          by_cases e : q = j
          · rw [e]; exact hk
          · exact hr.out q (by omega))
        have HC := Lib.hid (fun w ht => ftOK_is hk w ht)
        clear hk
        generalize l.getD j f0 = z at *
        have Ha := Lib.hid (hb.out.alloc hb.out.size (.cells #[.int .i64 z.1, .bool z.2.1, .int .i64 z.2.2.1, .int .i64 z.2.2.2] 86))
        go_wp2_with fail
        refine Calls.mono (HC.out _ (HT.out _ Ha.out)) ?_
        rintro e w2 ⟨rfl, hb2⟩
        have Hb2 := Lib.hid (Ha.out.trans (hb2.mono Ha.out.size))
        clear hb2 d0 d1 d2 d3
        go_wp2
        go_roundw
        case rel => exact ⟨j + 1, by omega, by go_num, HN, Hb2⟩
        case measure => simp [intOf]; omega
    · obtain rfl : j = n := by omega
      have HR := Lib.hid (HKY.out hr.out)
      go_wp2
      go_ret
      exact ⟨by rw [HR.out]; rfl, hb.out⟩
end Go.Proofs.YtgiegppakoiaiaaDoor
