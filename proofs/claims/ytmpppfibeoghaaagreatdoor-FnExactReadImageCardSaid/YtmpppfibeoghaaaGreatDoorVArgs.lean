/- What a verifier is handed: valid kinds, valid code. -/
import Derived.Test.YtmpppfibeoghaaaGreatDoorWalk12
import Derived.Test.YtmpppfibeoghaaaGreatDoorMatch
import Derived.Test.YtmpppfibeoghaaaGreatDoorCode
import Derived.Test.YtmpppfibeoghaaaGreatDoorEvery
namespace Go.Proofs.YtmpppfibeoghaaaGreatDoor
open Go.ChangeShapes Go.WideShapes Go.ChangeAt Go.RowKit
set_option linter.unusedVariables false
theorem l04Kinds_any (k : Option Addr) (c : Nat) (ks : List Int) (hm : ks.length ≤ maxLen) (w : World) (hz : Lies w k (kC ks)) : Calls Tryz.prog 77 #[.slice k ks.length c] w fun e w' => e = .returned (.bool (kindsB ks)) ∧ w = w' := by
  unfold maxLen at hm
  have HZ := Lib.hid hz
  have HK8 := Lib.hid (@kindsB_long ks)
  have HKN := Lib.hid (fun j (h : j < ks.length) g => kindsB_no (j := j) h g)
  have HKY := Lib.hid (@kindsB_yes ks)
  clear hz
  generalize kindsB ks = R at *
  generalize hL : ks.length = n at *
  have HL := Lib.hid hL
  clear hL
  by_cases h8 : 8 < n
  · have HR := Lib.hid (HK8.out h8)
    go_enter Tryz.func77, Tryz.ntmps77
    go_wp2
    go_ret
    exact ⟨by rw [HR.out]; rfl, rfl⟩
  go_enter Tryz.func77, Tryz.ntmps77
  go_wp2
  go_loop [3] (fun i => ∃ j : Nat, j ≤ n ∧ i = .int .i64 j ∧ Hid (∀ q, q < j → kindB (ks.getD q 0) = true)) (fun i => n - (intOf i).toNat)
  case atStart => exact ⟨0, Nat.zero_le _, rfl, Lib.hid (by intro q hq; omega)⟩
  case round =>
    obtain ⟨j, hj, rfl, hr⟩ := hrel
    by_cases hlt : j < n
    · obtain ⟨b, o, rfl, hbl, hcs⟩ := HZ.out.open (by rw [kC_len, HL.out]; omega)
      have c0 := kind_at hcs (i := j) (by rw [HL.out]; exact hlt)
      clear hcs
      cases hk : kindB (ks.getD j 0)
      · have HR := Lib.hid (HKN.out j hlt hk)
        have HC := Lib.hid hk
        clear hk
        generalize ks.getD j 0 = z at *
        go_wp2_with (go_at_call 122; refine (l03Kind_is HC.out _).mono ?_; rintro e w' ⟨rfl, rfl⟩)
        go_ret
        exact ⟨by rw [HR.out]; rfl, rfl⟩
      · have HC := Lib.hid hk
        have HN : Hid (∀ q, q < j + 1 → kindB (ks.getD q 0) = true) := Lib.hid (fun q hq => by
          by_cases e : q = j
          · rw [e]; exact HC.out
          · exact hr.out q (by omega))
        clear hk
        generalize ks.getD j 0 = z at *
        go_wp2_with (go_at_call 122; refine (l03Kind_is HC.out _).mono ?_; rintro e w' ⟨rfl, rfl⟩)
        go_round
        case rel => exact ⟨j + 1, by omega, by go_num, HN⟩
        case measure => simp [intOf]; omega
    · obtain rfl : j = n := by omega
      have HR := Lib.hid (HKY.out (by omega) hr.out)
      go_wp2
      go_ret
      exact ⟨by rw [HR.out]; rfl, rfl⟩
def wellB (zs : List Ins) : Bool := decide (zs.length ≤ 40) && okAll zs
set_option maxHeartbeats 1000000 in
theorem everyInstr_any (zs : List Ins) (a : Option Addr) (c : Nat) (hm : zs.length ≤ maxLen) (w : World) (ht : OpTab w) (hz : Lies w a (flat insC zs)) : Calls Tryz.prog 139 #[.slice a zs.length c, .func (.func 119) #[] #[]] w fun e w' => e = .returned (.bool (okAll zs)) ∧ Below w.heap.size w w' := by
  unfold maxLen at hm
  have HZ := Lib.hid hz
  have HT := Lib.hid ht
  have HN := Lib.hid (fun j (h : j < zs.length) g => okAll_no (k := j) h g)
  have HY := Lib.hid (@okAll_yes zs)
  generalize okAll zs = R at *
  clear hz ht
  generalize hL : zs.length = n at *
  have HL := Lib.hid hL
  clear hL
  go_enter Tryz.func139, Tryz.ntmps139
  go_wp2
  go_loopw [9] (fun i wr => ∃ j : Nat, j ≤ n ∧ i = .int .i64 j ∧ Hid (∀ q, q < j → okB (zs.getD q (0, 0)).1 (zs.getD q (0, 0)).2 = true) ∧ Hid (Below w.heap.size w wr)) (fun i _ => n - (intOf i).toNat)
  case atStart => exact ⟨0, Nat.zero_le _, rfl, Lib.hid (by intro q hq; omega), Lib.hid (Below.refl _ _)⟩
  case round =>
    obtain ⟨j, hj, rfl, hr, hb⟩ := hrel
    by_cases hlt : j < n
    · obtain ⟨b, o, rfl, hbl, hcs⟩ := HZ.out.open (by rw [flat_len insC_len, HL.out]; omega)
      obtain ⟨c0, c1⟩ := ins_at hcs (i := j) (by rw [HL.out]; exact hlt)
      have d0 := (hb.out.cell (p := ⟨b, o + j * 2, none⟩) hbl).trans c0
      have d1 := (hb.out.cell (p := ⟨b, o + j * 2 + 1, none⟩) hbl).trans c1
      clear hcs c0 c1
      cases hk : okB (zs.getD j (0, 0)).1 (zs.getD j (0, 0)).2
      · have HR := Lib.hid (HN.out j hlt hk)
        have HC := Lib.hid (fun w ht => hk ▸ instrOK_any (zs.getD j (0, 0)).1 (zs.getD j (0, 0)).2 w ht)
        clear hk
        generalize (zs.getD j (0, 0)).1 = x at *
        generalize (zs.getD j (0, 0)).2 = y at *
        have Ha := Lib.hid (hb.out.alloc hb.out.size (.cells #[.int .i64 x, .int .i64 y] 128))
        go_wp2_with fail
        refine Calls.mono (HC.out _ (HT.out.below Ha.out (Nat.le_refl _))) ?_
        rintro e w2 ⟨rfl, hb2⟩
        have Hb2 := Lib.hid (Ha.out.trans (hb2.mono Ha.out.size))
        clear hb2
        go_wp2
        go_ret
        exact ⟨by rw [HR.out]; rfl, Hb2.out⟩
      · have HX : Hid (∀ q, q < j + 1 → okB (zs.getD q (0, 0)).1 (zs.getD q (0, 0)).2 = true) := Lib.hid (fun q hq => by
          by_cases e : q = j
          · rw [e]; exact hk
          · exact hr.out q (by omega))
        have HC := Lib.hid (fun w ht => hk ▸ instrOK_any (zs.getD j (0, 0)).1 (zs.getD j (0, 0)).2 w ht)
        clear hk
        generalize (zs.getD j (0, 0)).1 = x at *
        generalize (zs.getD j (0, 0)).2 = y at *
        have Ha := Lib.hid (hb.out.alloc hb.out.size (.cells #[.int .i64 x, .int .i64 y] 128))
        go_wp2_with fail
        refine Calls.mono (HC.out _ (HT.out.below Ha.out (Nat.le_refl _))) ?_
        rintro e w2 ⟨rfl, hb2⟩
        have Hb2 := Lib.hid (Ha.out.trans (hb2.mono Ha.out.size))
        clear hb2 d0 d1
        go_wp2
        go_roundw
        case rel => exact ⟨j + 1, by omega, by go_num, HX, Hb2⟩
        case measure => simp [intOf]; omega
    · obtain rfl : j = n := by omega
      have HR := Lib.hid (HY.out hr.out)
      go_wp2
      go_ret
      exact ⟨by rw [HR.out]; rfl, hb.out⟩
theorem wellFormed_any (zs : List Ins) (a : Option Addr) (c : Nat) (hm : zs.length ≤ maxLen) (w : World) (ht : OpTab w) (hz : Lies w a (flat insC zs)) : Calls Tryz.prog 104 #[.slice a zs.length c] w fun e w' => e = .returned (.bool (wellB zs)) ∧ Below w.heap.size w w' := by
  have HE := Lib.hid (everyInstr_any zs a c hm w ht hz)
  unfold maxLen at hm
  by_cases h40 : 40 < zs.length
  · have HR : Hid (wellB zs = false) := Lib.hid (by unfold wellB; rw [decide_eq_false (by omega)]; rfl)
    clear HE
    generalize zs.length = n at *
    go_enter Tryz.func104, Tryz.ntmps104
    go_wp2
    go_ret
    exact ⟨by rw [HR.out]; rfl, Below.refl _ _⟩
  have HW : Hid (wellB zs = okAll zs) := Lib.hid (by unfold wellB; rw [decide_eq_true (by omega)]; rfl)
  rw [← HW.out] at HE
  have h9 : (zs.length : Int) ≤ 40 := by omega
  clear ht hz HW
  generalize wellB zs = R at *
  generalize zs.length = n at *
  go_enter Tryz.func104, Tryz.ntmps104
  go_wp2_with (go_at_call 139; refine HE.out.mono ?_; rintro e w2 ⟨rfl, hb2⟩; have Hb2 := Lib.hid hb2; clear hb2)
  go_ret
  exact ⟨rfl, Hb2.out⟩
/-- What is wrong with a verifier's arguments. -/
def argF (zs : List Ins) (ks : List Int) (r : Int) : Int :=
  if 4096 < ks.length ∨ 4096 < zs.length then 2 else if 40 < zs.length then 6 else if (kindsB ks && okAll zs) = false then 1 else if r < 0 ∨ 6 < r then 4 else 0
theorem argF_ok {zs : List Ins} {ks : List Int} {r : Int} (h : argF zs ks r = 0) : zs.length ≤ 40 ∧ kindsB ks = true ∧ okAll zs = true ∧ 0 ≤ r ∧ r ≤ 6 := by
  unfold argF at h
  split at h
  · exact absurd h (by decide)
  · split at h
    · exact absurd h (by decide)
    · split at h
      · exact absurd h (by decide)
      · rename_i h3
        split at h
        · exact absurd h (by decide)
        · simp only [Bool.not_eq_false, Bool.and_eq_true] at h3
          exact ⟨by omega, h3.1, h3.2, by omega, by omega⟩
end Go.Proofs.YtmpppfibeoghaaaGreatDoor
