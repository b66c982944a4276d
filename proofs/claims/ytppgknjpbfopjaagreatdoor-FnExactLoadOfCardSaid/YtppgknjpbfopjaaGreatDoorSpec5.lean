/- What a verifier is handed: valid kinds, valid code. -/
import Derived.Test.YtppgknjpbfopjaaGreatDoorWalk12
import Derived.Test.YtppgknjpbfopjaaGreatDoorMatchL
import Derived.Test.YtppgknjpbfopjaaGreatDoorCode
import Derived.Test.YtppgknjpbfopjaaGreatDoorEvery
namespace Go.Proofs.YtppgknjpbfopjaaGreatDoor
open Go.ChangeShapes Go.WideShapes Go.ChangeAt Go.RowKit
set_option linter.unusedVariables false
theorem l04Kinds_any (k : Option Addr) (c : Nat) (ks : List Int) (hm : ks.length ≤ maxLen) (w : World) (hz : Lies w k (kC ks)) : Calls Tryz.prog 110 #[.slice k ks.length c] w fun e w' => e = .returned (.bool (kindsB ks)) ∧ w = w' := by
  unfold maxLen at hm
  have HZ := Lib.hid hz
  have HK8 := Lib.hid (@kindsB_long ks)
  have HKN := Lib.hid (fun j (h : j < ks.length) g => kindsB_no (j := j) h g)
  have HKY := Lib.hid (@kindsB_yes ks)
  clear hz
  generalize kindsB ks = R at *
  generalize hL : ks.length = n at *
  have HL := Lib.hid hL
  clear hL
  by_cases h8 : 8 < n
  · have HR := Lib.hid (HK8.out h8)
    go_enter Tryz.func110, Tryz.ntmps110
    go_wp2
    go_ret
    exact ⟨by rw [HR.out]; rfl, rfl⟩
  go_enter Tryz.func110, Tryz.ntmps110
  go_wp2
  go_loop [3] (fun i => ∃ j : Nat, j ≤ n ∧ i = .int .i64 j ∧ Hid (∀ q, q < j → kindB (ks.getD q 0) = true)) (fun i => n - (intOf i).toNat)
  case atStart => exact ⟨0, Nat.zero_le _, rfl, Lib.hid (by intro q hq; omega)⟩
  case round =>
    obtain ⟨j, hj, rfl, hr⟩ := hrel
    by_cases hlt : j < n
    · obtain ⟨b, o, rfl, hbl, hcs⟩ := HZ.out.open (by rw [kC_len, HL.out]; omega)
      have c0 := kind_at hcs (i := j) (by rw [HL.out]; exact hlt)
      clear hcs
      cases hk : kindB (ks.getD j 0)
      · have HR := Lib.hid (HKN.out j hlt hk)
        have HC := Lib.hid hk
        clear hk
        generalize ks.getD j 0 = z at *
        go_wp2_with (go_at_call 163; refine (l03Kind_is HC.out _).mono ?_; rintro e w' ⟨rfl, rfl⟩)
        go_ret
        exact ⟨by rw [HR.out]; rfl, rfl⟩
      · have HC := Lib.hid hk
        have HN : Hid (∀ q, q < j + 1 → kindB (ks.getD q 0) = true) := Lib.hid (fun q hq => by
          by_cases e : q = j
          · rw [e]; exact HC.out
          · exact hr.out q (by omega))
        clear hk
        generalize ks.getD j 0 = z at *
        go_wp2_with (go_at_call 163; refine (l03Kind_is HC.out _).mono ?_; rintro e w' ⟨rfl, rfl⟩)
        go_round
        case rel => exact ⟨j + 1, by omega, by go_num, HN⟩
        case measure => simp [intOf]; omega
    · obtain rfl : j = n := by omega
      have HR := Lib.hid (HKY.out (by omega) hr.out)
      go_wp2
      go_ret
      exact ⟨by rw [HR.out]; rfl, rfl⟩
def wellB (zs : List Ins) : Bool := decide (zs.length ≤ 40) && okAll zs
set_option maxHeartbeats 1000000 in
theorem everyInstr_any (zs : List Ins) (a : Option Addr) (c : Nat) (hm : zs.length ≤ maxLen) (w : World) (ht : OpTab w) (hz : Lies w a (flat insC zs)) : Calls Tryz.prog 179 #[.slice a zs.length c, .func (.func 160) #[] #[]] w fun e w' => e = .returned (.bool (okAll zs)) ∧ Below w.heap.size w w' := by
  unfold maxLen at hm
  have HZ := Lib.hid hz
  have HT := Lib.hid ht
  have HN := Lib.hid (fun j (h : j < zs.length) g => okAll_no (k := j) h g)
  have HY := Lib.hid (@okAll_yes zs)
  generalize okAll zs = R at *
  clear hz ht
  generalize hL : zs.length = n at *
  have HL := Lib.hid hL
  clear hL
  go_enter Tryz.func179, Tryz.ntmps179
  go_wp2
  go_loopw [9] (fun i wr => ∃ j : Nat, j ≤ n ∧ i = .int .i64 j ∧ Hid (∀ q, q < j → okB (zs.getD q (0, 0)).1 (zs.getD q (0, 0)).2 = true) ∧ Hid (Below w.heap.size w wr)) (fun i _ => n - (intOf i).toNat)
  case atStart => exact ⟨0, Nat.zero_le _, rfl, Lib.hid (by intro q hq; omega), Lib.hid (Below.refl _ _)⟩
  case round =>
    obtain ⟨j, hj, rfl, hr, hb⟩ := hrel
    by_cases hlt : j < n
    · obtain ⟨b, o, rfl, hbl, hcs⟩ := HZ.out.open (by rw [flat_len insC_len, HL.out]; omega)
      obtain ⟨c0, c1⟩ := ins_at hcs (i := j) (by rw [HL.out]; exact hlt)
      have d0 := (hb.out.cell (p := ⟨b, o + j * 2, none⟩) hbl).trans c0
      have d1 := (hb.out.cell (p := ⟨b, o + j * 2 + 1, none⟩) hbl).trans c1
      clear hcs c0 c1
      cases hk : okB (zs.getD j (0, 0)).1 (zs.getD j (0, 0)).2
      · have HR := Lib.hid (HN.out j hlt hk)
        have HC := Lib.hid (fun w ht => hk ▸ instrOK_any (zs.getD j (0, 0)).1 (zs.getD j (0, 0)).2 w ht)
        clear hk
        generalize (zs.getD j (0, 0)).1 = x at *
        generalize (zs.getD j (0, 0)).2 = y at *
        have Ha := Lib.hid (hb.out.alloc hb.out.size (.cells #[.int .i64 x, .int .i64 y] 170))
        go_wp2_with fail
        refine Calls.mono (HC.out _ (HT.out.below Ha.out (Nat.le_refl _))) ?_
        rintro e w2 ⟨rfl, hb2⟩
        have Hb2 := Lib.hid (Ha.out.trans (hb2.mono Ha.out.size))
        clear hb2
        go_wp2
        go_ret
        exact ⟨by rw [HR.out]; rfl, Hb2.out⟩
      · have HX : Hid (∀ q, q < j + 1 → okB (zs.getD q (0, 0)).1 (zs.getD q (0, 0)).2 = true) := Lib.hid (fun q hq => by
          by_cases e : q = j
          · rw [e]; exact hk
          · exact hr.out q (by omega))
        have HC := Lib.hid (fun w ht => hk ▸ instrOK_any (zs.getD j (0, 0)).1 (zs.getD j (0, 0)).2 w ht)
        clear hk
        generalize (zs.getD j (0, 0)).1 = x at *
        generalize (zs.getD j (0, 0)).2 = y at *
        have Ha := Lib.hid (hb.out.alloc hb.out.size (.cells #[.int .i64 x, .int .i64 y] 170))
        go_wp2_with fail
        refine Calls.mono (HC.out _ (HT.out.below Ha.out (Nat.le_refl _))) ?_
        rintro e w2 ⟨rfl, hb2⟩
        have Hb2 := Lib.hid (Ha.out.trans (hb2.mono Ha.out.size))
        clear hb2 d0 d1
        go_wp2
        go_roundw
        case rel => exact ⟨j + 1, by omega, by go_num, HX, Hb2⟩
        case measure => simp [intOf]; omega
    · obtain rfl : j = n := by omega
      have HR := Lib.hid (HY.out hr.out)
      go_wp2
      go_ret
      exact ⟨by rw [HR.out]; rfl, hb.out⟩
theorem wellFormed_any (zs : List Ins) (a : Option Addr) (c : Nat) (hm : zs.length ≤ maxLen) (w : World) (ht : OpTab w) (hz : Lies w a (flat insC zs)) : Calls Tryz.prog 136 #[.slice a zs.length c] w fun e w' => e = .returned (.bool (wellB zs)) ∧ Below w.heap.size w w' := by
  have HE := Lib.hid (everyInstr_any zs a c hm w ht hz)
  unfold maxLen at hm
  by_cases h40 : 40 < zs.length
  · have HR : Hid (wellB zs = false) := Lib.hid (by unfold wellB; rw [decide_eq_false (by omega)]; rfl)
    clear HE
    generalize zs.length = n at *
    go_enter Tryz.func136, Tryz.ntmps136
    go_wp2
    go_ret
    exact ⟨by rw [HR.out]; rfl, Below.refl _ _⟩
  have HW : Hid (wellB zs = okAll zs) := Lib.hid (by unfold wellB; rw [decide_eq_true (by omega)]; rfl)
  rw [← HW.out] at HE
  have h9 : (zs.length : Int) ≤ 40 := by omega
  clear ht hz HW
  generalize wellB zs = R at *
  generalize zs.length = n at *
  go_enter Tryz.func136, Tryz.ntmps136
  go_wp2_with (go_at_call 179; refine HE.out.mono ?_; rintro e w2 ⟨rfl, hb2⟩; have Hb2 := Lib.hid hb2; clear hb2)
  go_ret
  exact ⟨rfl, Hb2.out⟩
/-- What is wrong with a verifier's arguments. -/
def argF (zs : List Ins) (ks : List Int) (r : Int) : Int :=
  if 4096 < ks.length ∨ 4096 < zs.length then 2 else if 40 < zs.length then 6 else if (kindsB ks && okAll zs) = false then 1 else if r < 0 ∨ 6 < r then 4 else 0
theorem argF_ok {zs : List Ins} {ks : List Int} {r : Int} (h : argF zs ks r = 0) : zs.length ≤ 40 ∧ kindsB ks = true ∧ okAll zs = true ∧ 0 ≤ r ∧ r ≤ 6 := by
  unfold argF at h
  split at h
  · exact absurd h (by decide)
  · split at h
    · exact absurd h (by decide)
    · split at h
      · exact absurd h (by decide)
      · rename_i h3
        split at h
        · exact absurd h (by decide)
        · simp only [Bool.not_eq_false, Bool.and_eq_true] at h3
          exact ⟨by omega, h3.1, h3.2, by omega, by omega⟩
end Go.Proofs.YtppgknjpbfopjaaGreatDoor
namespace Go.Proofs.YtppgknjpbfopjaaGreatDoor
open Go.ChangeShapes Go.WideShapes Go.ChangeAt Go.RowKit
set_option linter.unusedVariables false
/-- The three tables. -/
structure VTabs (W : World) : Prop where
  op : OpTab W
  eff : EffTab W
  fb : FbTab W
theorem VTabs.below {B : Nat} {w w' : World} (h : VTabs w) (g : Below B w w') (hB : w.heap.size ≤ B) : VTabs w' := ⟨h.op.below g hB, h.eff.below g hB, h.fb.below g hB⟩
theorem argumentError_any (zs : List Ins) (a : Option Addr) (c : Nat) (ks : List Int) (k : Option Addr) (kc : Nat) (r : Int) (hm : zs.length ≤ maxLen) (hk : ks.length ≤ maxLen) (w : World) (ht : OpTab w) (hz : Lies w a (flat insC zs)) (hy : Lies w k (kC ks)) :
    Calls Tryz.prog 180 #[.slice a zs.length c, .slice k ks.length kc, .int .i64 r] w fun e w' => e = .returned (.int .i64 (argF zs ks r)) ∧ Below w.heap.size w w' := by
  have HW := Lib.hid (fun w hz => wellFormed_any zs a c hm w hz)
  have HK := Lib.hid (fun w hz => kindsOK_any k kc ks hk w hz)
  have HZ := Lib.hid hz
  have HY := Lib.hid hy
  have HT := Lib.hid ht
  clear hz hy ht
  unfold maxLen at hm hk
  by_cases h1 : 4096 < ks.length
  · have HR : Hid (argF zs ks r = 2) := Lib.hid (if_pos (.inl h1))
    generalize zs.length = n at *
    generalize ks.length = m at *
    go_enter Tryz.func180, Tryz.ntmps180
    go_wp2
    go_ret
    exact ⟨by rw [HR.out]; rfl, Below.refl _ _⟩
  by_cases h2 : 4096 < zs.length
  · have HR : Hid (argF zs ks r = 2) := Lib.hid (if_pos (.inr h2))
    have HC := Lib.hid (fun w => lengthError_is (if_pos h2) a c w)
    generalize zs.length = n at *
    generalize ks.length = m at *
    go_enter Tryz.func180, Tryz.ntmps180
    go_wp2_with (go_at_call 159; refine (HC.out _).mono ?_; rintro e w' ⟨rfl, rfl⟩)
    go_ret
    exact ⟨by rw [HR.out]; rfl, Below.refl _ _⟩
  have e1 : argF zs ks r = if 40 < zs.length then 6 else if (kindsB ks && okAll zs) = false then 1 else if r < 0 ∨ 6 < r then 4 else 0 := if_neg (by omega)
  by_cases h3 : 40 < zs.length
  · have HR : Hid (argF zs ks r = 6) := Lib.hid (e1.trans (if_pos h3))
    have HC := Lib.hid (fun w => lengthError_is ((if_neg h2).trans (if_pos h3)) a c w)
    clear e1
    generalize zs.length = n at *
    generalize ks.length = m at *
    go_enter Tryz.func180, Tryz.ntmps180
    go_wp2_with (go_at_call 159; refine (HC.out _).mono ?_; rintro e w' ⟨rfl, rfl⟩)
    go_ret
    exact ⟨by rw [HR.out]; rfl, Below.refl _ _⟩
  have e2 := e1.trans (if_neg h3)
  have HC := Lib.hid (fun w => lengthError_is ((if_neg h2).trans (if_neg h3)) a c w)
  have hwe : wellB zs = okAll zs := by unfold wellB; rw [decide_eq_true (by omega)]; rfl
  cases hkb : kindsB ks
  · have HR : Hid (argF zs ks r = 1) := Lib.hid (e2.trans (if_pos (by rw [hkb]; rfl)))
    rw [hkb] at HK
    clear e1 e2 hkb hwe
    generalize zs.length = n at *
    generalize ks.length = m at *
    go_enter Tryz.func180, Tryz.ntmps180
    go_wp2_with first | (go_at_call 159; refine (HC.out _).mono ?_; rintro e w' ⟨rfl, rfl⟩) | (go_at_call 72; refine (HK.out _ HY.out).mono ?_; rintro e w' ⟨rfl, rfl⟩)
    go_ret
    exact ⟨by rw [HR.out]; rfl, Below.refl _ _⟩
  rw [hkb] at HK
  rw [hwe] at HW
  cases hok : okAll zs
  · have HR : Hid (argF zs ks r = 1) := Lib.hid (e2.trans (if_pos (by rw [hkb, hok]; rfl)))
    rw [hok] at HW
    clear e1 e2 hkb hwe hok
    generalize zs.length = n at *
    generalize ks.length = m at *
    go_enter Tryz.func180, Tryz.ntmps180
    go_wp2_with first | (go_at_call 159; refine (HC.out _).mono ?_; rintro e w' ⟨rfl, rfl⟩) | (go_at_call 72; refine (HK.out _ HY.out).mono ?_; rintro e w' ⟨rfl, rfl⟩) | (go_at_call 136; refine (HW.out _ HT.out HZ.out).mono ?_; rintro e w2 ⟨rfl, hb2⟩; have Hb2 := Lib.hid hb2; clear hb2)
    go_ret
    exact ⟨by rw [HR.out]; rfl, Hb2.out⟩
  rw [hok] at HW
  have e3 := e2.trans (if_neg (by rw [hkb, hok]; decide))
  by_cases h5 : r < 0
  · have HR : Hid (argF zs ks r = 4) := Lib.hid (e3.trans (if_pos (.inl h5)))
    clear e1 e2 e3 hkb hwe hok
    generalize zs.length = n at *
    generalize ks.length = m at *
    go_enter Tryz.func180, Tryz.ntmps180
    go_wp2_with first | (go_at_call 159; refine (HC.out _).mono ?_; rintro e w' ⟨rfl, rfl⟩) | (go_at_call 72; refine (HK.out _ HY.out).mono ?_; rintro e w' ⟨rfl, rfl⟩) | (go_at_call 136; refine (HW.out _ HT.out HZ.out).mono ?_; rintro e w2 ⟨rfl, hb2⟩; have Hb2 := Lib.hid hb2; clear hb2)
    go_ret
    exact ⟨by rw [HR.out]; rfl, Hb2.out⟩
  by_cases h6 : 6 < r
  · have HR : Hid (argF zs ks r = 4) := Lib.hid (e3.trans (if_pos (.inr h6)))
    clear e1 e2 e3 hkb hwe hok
    generalize zs.length = n at *
    generalize ks.length = m at *
    go_enter Tryz.func180, Tryz.ntmps180
    go_wp2_with first | (go_at_call 159; refine (HC.out _).mono ?_; rintro e w' ⟨rfl, rfl⟩) | (go_at_call 72; refine (HK.out _ HY.out).mono ?_; rintro e w' ⟨rfl, rfl⟩) | (go_at_call 136; refine (HW.out _ HT.out HZ.out).mono ?_; rintro e w2 ⟨rfl, hb2⟩; have Hb2 := Lib.hid hb2; clear hb2)
    go_ret
    exact ⟨by rw [HR.out]; rfl, Hb2.out⟩
  have HR : Hid (argF zs ks r = 0) := Lib.hid (e3.trans (if_neg (by omega)))
  clear e1 e2 e3 hkb hwe hok
  generalize zs.length = n at *
  generalize ks.length = m at *
  go_enter Tryz.func180, Tryz.ntmps180
  go_wp2_with first | (go_at_call 159; refine (HC.out _).mono ?_; rintro e w' ⟨rfl, rfl⟩) | (go_at_call 72; refine (HK.out _ HY.out).mono ?_; rintro e w' ⟨rfl, rfl⟩) | (go_at_call 136; refine (HW.out _ HT.out HZ.out).mono ?_; rintro e w2 ⟨rfl, hb2⟩; have Hb2 := Lib.hid hb2; clear hb2)
  go_ret
  exact ⟨by rw [HR.out]; rfl, Hb2.out⟩
/-- What VerifyCode answers. -/
def codeV (zs : List Ins) (ks : List Int) (r : Int) : Int × Int := if argF zs ks r ≠ 0 then (0, argF zs ks r) else vVer zs ks r
theorem okAll_at {zs : List Ins} (h : okAll zs = true) {j : Nat} (hj : j < zs.length) : okB (zs.getD j (0, 0)).1 (zs.getD j (0, 0)).2 = true := by
  unfold okAll at h
  rw [List.all_eq_true] at h
  exact h _ (by simp [List.getD, hj])
theorem ret_ii2 {a b c d : Int} (h : a = c) (g : b = d) : Ending.returned (.tuple #[.int .i64 a, .int .i64 b]) = .returned (.tuple #[.int .i64 c, .int .i64 d]) := by rw [h, g]
theorem verifyCode_any (zs : List Ins) (a : Option Addr) (c : Nat) (ks : List Int) (k : Option Addr) (kc : Nat) (r : Int) (hm : zs.length ≤ maxLen) (hk : ks.length ≤ maxLen) (w : World) (ht : VTabs w) (hz : Lies w a (flat insC zs)) (hy : Lies w k (kC ks)) :
    Calls Tryz.prog 137 #[.slice a zs.length c, .slice k ks.length kc, .int .i64 r] w fun e w' => e = .returned (.tuple #[.int .i64 (codeV zs ks r).1, .int .i64 (codeV zs ks r).2]) ∧ Below w.heap.size w w' := by
  have HA := Lib.hid (argumentError_any zs a c ks k kc r hm hk w ht.op hz hy)
  by_cases h0 : argF zs ks r = 0
  · obtain ⟨h40, hkb, hok, _, _⟩ := argF_ok h0
    have HR : Hid (codeV zs ks r = vVer zs ks r) := Lib.hid (if_neg (fun q => q h0))
    have HV : Hid (∀ w2, Below w.heap.size w w2 → Calls Tryz.prog 181 #[.slice a zs.length c, .slice k ks.length kc, .int .i64 r] w2 fun e w' => e = .returned (.agg #[.int .i64 (vVer zs ks r).1, .int .i64 (vVer zs ks r).2]) ∧ Below w2.heap.size w2 w') :=
      Lib.hid (fun w2 hb => verify_any k kc ks r zs a c h40 (fun j hj => okAll_at hok hj) w2 ⟨(ht.below hb (Nat.le_refl _)).eff, (ht.below hb (Nat.le_refl _)).fb, hy.below hb (Nat.le_refl _), (kindsB_all hkb).2⟩ (hz.below hb (Nat.le_refl _)))
    rw [h0] at HA
    clear h0 h40 hkb hok hz hy ht hm hk
    generalize vVer zs ks r = V at *
    obtain ⟨i, d⟩ := V
    dsimp only at HV
    generalize zs.length = n at *
    generalize ks.length = m at *
    go_enter Tryz.func137, Tryz.ntmps137
    go_wp2_with fail
    refine Calls.mono HA.out ?_
    rintro e w1 ⟨rfl, hb1⟩
    have Hb1 := Lib.hid hb1
    clear hb1
    go_wp2_with fail
    refine Calls.mono (HV.out _ Hb1.out) ?_
    rintro e w2 ⟨rfl, hb2⟩
    have Hb2 := Lib.hid (Hb1.out.trans (hb2.mono Hb1.out.size))
    clear hb2
    go_wp2
    go_quiet (fail)
    go_wp2
    go_ret2
    exact ⟨ret_ii2 (by rw [HR.out]) (by rw [HR.out]), bel_dn (Hb2.out.alloc Hb2.out.size _) _⟩
  · have HR : Hid (codeV zs ks r = (0, argF zs ks r)) := Lib.hid (if_pos h0)
    have hq : (argF zs ks r != 0) = true := by rw [bne_iff_ne]; exact h0
    clear hz hy ht hm hk h0
    generalize argF zs ks r = d at *
    generalize zs.length = n at *
    generalize ks.length = m at *
    go_enter Tryz.func137, Tryz.ntmps137
    go_wp2_with fail
    refine Calls.mono HA.out ?_
    rintro e w1 ⟨rfl, hb1⟩
    have Hb1 := Lib.hid hb1
    clear hb1
    go_wp2
    go_ret2
    exact ⟨ret_ii2 (by rw [HR.out]) (by rw [HR.out]), Hb1.out⟩
end Go.Proofs.YtppgknjpbfopjaaGreatDoor
namespace Go.Proofs.YtppgknjpbfopjaaGreatDoor
open Go.ChangeShapes Go.WideShapes Go.ChangeAt Go.RowKit
set_option linter.unusedVariables false
def bs (l : List UInt8) : ByteArray := ⟨l.toArray⟩
theorem bs_list (l : List UInt8) : (bs l).data.toList = l := by simp [bs]
theorem bs_size (l : List UInt8) : (bs l).size = l.length := by simp [bs, ByteArray.size]
theorem bs_of (s : ByteArray) : s = bs s.data.toList := by
  apply bytes_inj
  rw [bs_list]
theorem take_short (S T : ByteArray) (f : Nat) (h1 : S.size ≤ 100) (h2 : T.size ≤ 100) (h3 : f ≤ 100) (h : S.size < f + T.size) (w : World) :
    Calls Tryz.prog 226 #[.string S, .string T, .int .i64 f] w fun e w' => e = .returned (.tuple #[.string ⟨#[]⟩, .int .i64 13]) ∧ w = w' := by
  have hd : decide ((S.size : Int) - f < T.size) = true := decide_eq_true (by omega)
  have hd2 : ((S.size : Int) - f < T.size) := by omega
  go_enter Tryz.func226, Tryz.ntmps226
  go_wp2
  go_ret2
  exact ⟨rfl, rfl⟩
theorem ext_drop (l : List UInt8) (r : Nat) : (bs l).extract r l.length = bs (l.drop r) := by
  apply bytes_inj
  simp [bs, ByteArray.data_extract]
  exact List.take_of_length_le (by simp)
theorem ext_take (l : List UInt8) (r : Nat) : (bs l).extract 0 r = bs (l.take r) := by
  apply bytes_inj
  simp [bs, ByteArray.data_extract]
theorem ret_sb {a b : ByteArray} {c d : Int} (h : a = b) (g : c = d) : Ending.returned (.tuple #[.string a, .int .i64 c]) = .returned (.tuple #[.string b, .int .i64 d]) := by rw [h, g]
theorem l04Take_any (st : List UInt8) (T : ByteArray) (f : Nat) (h1 : st.length ≤ 100) (h2 : T.size ≤ 100) (h3 : f ≤ st.length) (w : World) :
    Calls Tryz.prog 226 #[.string (bs st), .string T, .int .i64 f] w fun e w' => e = .returned (.tuple #[.string (bs (vTake st T.data.toList f).1), .int .i64 (vTake st T.data.toList f).2]) ∧ w = w' := by
  have hts : T.data.toList.length = T.size := rfl
  by_cases h : st.length < f + T.size
  · have e : vTake st T.data.toList f = ([], 13) := if_pos (by omega)
    rw [e]
    exact take_short (bs st) T f (by rw [bs_size]; omega) h2 (by omega) (by rw [bs_size]; omega) w
  · obtain ⟨r, hr⟩ : ∃ r, st.length = r + T.size := ⟨st.length - T.size, by omega⟩
    have hS := bs_size st
    have hd : ¬ (((bs st).size : Int) - f < T.size) := by omega
    have hs : (((bs st).size : Int) - T.size) = r := by omega
    have hrl : r ≤ (bs st).size := by omega
    have hb1 : (bs st).size ≤ 100 := by omega
    have hfr : f ≤ r := by omega
    have HX1 := Lib.hid (show (bs st).extract r (bs st).size = bs (st.drop r) by rw [hS]; exact ext_drop st r)
    have HX2 := Lib.hid (ext_take st r)
    have HT : Hid (vTake st T.data.toList f = if st.drop r = T.data.toList then (st.take r, 0) else ([], 12)) := Lib.hid (by
      unfold vTake
      rw [if_neg (by omega), show st.length - T.data.toList.length = r by omega])
    have HU := Lib.hid (bs_list (st.drop r))
    clear hS hts hr h h1 h3
    generalize vTake st T.data.toList f = V at *
    generalize bs st = S at *
    go_enter Tryz.func226, Tryz.ntmps226
    go_wp2
    · rename_i hq
      have hne : st.drop r ≠ T.data.toList := fun e => by
        rw [HX1.out, beq_yes HU.out rfl e] at hq
        simp at hq
      go_ret2
      exact ⟨ret_sb (by rw [HT.out, if_neg hne]; rfl) (by rw [HT.out, if_neg hne]), rfl⟩
    · rename_i hq
      have heq : st.drop r = T.data.toList := Classical.byContradiction fun e => by
        rw [HX1.out, beq_no HU.out rfl e] at hq
        simp at hq
      go_ret2
      exact ⟨ret_sb (by rw [HT.out, if_pos heq]; exact HX2.out) (by rw [HT.out, if_pos heq]), rfl⟩
set_option maxHeartbeats 4000000 in
theorem l04Sign_plain (k : Nat) (y : Int) (h1 : 1 ≤ k) (h2 : k ≤ 26) (h19 : k ≠ 19) (a : Option Addr) (n c : Nat) (w : World) :
    Calls Tryz.prog 225 #[.agg #[.int .i64 (k : Int), .int .i64 y], .slice a n c] w fun e w' => e = .returned (.tuple #[.string (effT k), .string (effG k)]) ∧ Below w.heap.size w w' := by
  have : k = 1 ∨ k = 2 ∨ k = 3 ∨ k = 4 ∨ k = 5 ∨ k = 6 ∨ k = 7 ∨ k = 8 ∨ k = 9 ∨ k = 10 ∨ k = 11 ∨ k = 12 ∨ k = 13 ∨ k = 14 ∨ k = 15 ∨ k = 16 ∨ k = 17 ∨ k = 18 ∨ k = 20 ∨ k = 21 ∨ k = 22 ∨ k = 23 ∨ k = 24 ∨ k = 25 ∨ k = 26 := by omega
  clear h1 h2 h19
  rcases this with rfl | rfl | rfl | rfl | rfl | rfl | rfl | rfl | rfl | rfl | rfl | rfl | rfl | rfl | rfl | rfl | rfl | rfl | rfl | rfl | rfl | rfl | rfl | rfl | rfl
  all_goals
    go_enter Tryz.func225, Tryz.ntmps225
    go_wp2
    go_ret2
    exact ⟨rfl, (Below.refl w.heap.size w).alloc (Nat.le_refl _) _⟩
theorem l04Sign_block (b o n c : Nat) (y : Nat) (z : Int) (hy : y < n) (hz : kindB z = true) (w : World) (hb : b < w.heap.size) (hk : w.cell? ⟨b, o + y, none⟩ = some (.int .i64 z)) :
    Calls Tryz.prog 225 #[.agg #[.int .i64 19, .int .i64 y], .slice (some ⟨b, o, none⟩) n c] w fun e w' => e = .returned (.tuple #[.string (takesF z), .string ⟨#[98]⟩]) ∧ Below w.heap.size w w' := by
  have HT := Lib.hid (fun w => tk4 z hz w)
  have Hb := Lib.hid ((Below.refl w.heap.size w).alloc (Nat.le_refl _) (.cells #[.int .i64 19, .int .i64 y] 170))
  have d0 := (Hb.out.cell (p := ⟨b, o + y, none⟩) hb).trans hk
  clear hk hz hb
  go_enter Tryz.func225, Tryz.ntmps225
  go_wp2_with fail
  refine Calls.mono (HT.out _) ?_
  rintro e w2 ⟨rfl, hb2⟩
  have Hb2 := Lib.hid (Hb.out.trans (hb2.mono Hb.out.size))
  clear hb2 d0
  go_wp2
  go_ret2
  exact ⟨rfl, Hb2.out⟩
end Go.Proofs.YtppgknjpbfopjaaGreatDoor
namespace Go.Proofs.YtppgknjpbfopjaaGreatDoor
open Go.ChangeShapes Go.WideShapes Go.ChangeAt Go.RowKit
set_option linter.unusedVariables false
def spC (o : VO) : List Value := [.int .i64 o.pos, .int .i64 o.op, .string (bs o.stk)]
theorem spC_len (o : VO) : (spC o).length = 3 := rfl
abbrev swO (S : ByteArray) (a : Option Addr) (n c : Nat) : Obj := .cells #[.string S, .slice a n c] 234
structure SAt (B p : Nat) (a : Option Addr) (n c : Nat) (v : VW) (w : World) : Prop where
  base : B ≤ p
  blk : w.heap[p]? = some (swO (bs v.stk) a n c)
  opens : w.ownsRow B 237 3 (.slice a n c) n (flat spC v.opn)
def SStat (B p : Nat) (v : VW) (w : World) : Prop := ∃ a n c, SAt B p a n c v w
section
variable {B p : Nat} {a : Option Addr} {n c : Nat} {v : VW} {w w' : World}
theorem SAt.olen (h : SAt B p a n c v w) : v.opn.length = n := by
  have := h.opens.1
  rw [flat_len spC_len] at this
  omega
theorem SAt.plt (h : SAt B p a n c v w) : p < w.heap.size := (Array.getElem?_eq_some_iff.1 h.blk).1
theorem SAt.low (h : SAt B p a n c v w) : B ≤ w.heap.size := Nat.le_of_lt (Nat.lt_of_le_of_lt h.base h.plt)
theorem SAt.cells (h : SAt B p a n c v w) : w.cell? ⟨p, 0, none⟩ = some (.string (bs v.stk)) ∧ w.cell? ⟨p, 1, none⟩ = some (.slice a n c) := ⟨cell_of_row _ _ 0 _ _ _ h.blk, cell_of_row _ _ 1 _ _ _ h.blk⟩
theorem SAt.frozen (h : SAt B p a n c v w) (k : Nat) : w.frozen? ⟨p, k, none⟩ = false := frozen_of_row _ _ k _ _ h.blk
theorem SAt.neo (h : SAt B p a n c v w) : Value.ownBlock (.slice a n c) ≠ some p := own_ne h.opens h.blk (by decide)
theorem SAt.bel (h : SAt B p a n c v w) (hb : Below w.heap.size w w') : SAt B p a n c v w' := ⟨h.base, (hb.block p h.plt).trans h.blk, own_bl h.opens hb⟩
theorem SAt.dn (h : SAt B p a n c v w) (q : Nat) : SAt B p a n c v (w.drewN q) := ⟨h.base, h.blk, h.opens⟩
theorem SAt.row {st : List UInt8} {os : List VO} {o : VO} (h : SAt B p a n c ⟨st, os ++ [o]⟩ w) : ∃ g m, a = some ⟨g, 0, none⟩ ∧ n = m + 1 ∧ os.length = m ∧ m + 1 ≤ c := by
  have hl := h.olen
  simp only [List.length_append, List.length_singleton] at hl
  rcases h.opens.2 with ⟨_, h0⟩ | ⟨g, cap, cur, e, _, _, hc, _⟩
  · omega
  · simp only [Value.slice.injEq] at e
    obtain ⟨rfl, _, rfl⟩ := e
    exact ⟨g, os.length, rfl, hl.symm, rfl, by omega⟩
theorem SAt.last {st : List UInt8} {os : List VO} {o : VO} {g m : Nat} (h : SAt B p (some ⟨g, 0, none⟩) (m + 1) c ⟨st, os ++ [o]⟩ w) :
    w.cell? ⟨g, m * 3, none⟩ = some (.int .i64 o.pos) ∧ w.cell? ⟨g, m * 3 + 1, none⟩ = some (.int .i64 o.op) ∧ w.cell? ⟨g, m * 3 + 2, none⟩ = some (.string (bs o.stk)) ∧ ∀ k, w.frozen? ⟨g, k, none⟩ = false := by
  have hl : os.length = m := by have := h.olen; simp at this; omega
  have hat : ∀ j, j < 3 → w.cell? ⟨g, m * 3 + j, none⟩ = (spC o)[j]? := fun j hj => by
    rw [h.opens.cellAt _ (by omega)]
    exact flat_at spC_len (show (os ++ [o])[m]? = some o by rw [← hl]; simp) hj
  exact ⟨hat 0 (by omega), hat 1 (by omega), hat 2 (by omega), fun k => h.opens.frozenAt k⟩
/-- The stack is another. -/
theorem SAt.stacked (h : SAt B p a n c v w) (st : List UInt8) (q : Nat) : SAt B p a n c ⟨st, v.opn⟩ ((w.drewN q).setCell ⟨p, 0, none⟩ (.string (bs st))) ∧ Below B w ((w.drewN q).setCell ⟨p, 0, none⟩ (.string (bs st))) :=
  ⟨⟨h.base, by simpa using wk_set (h.dn q).blk 0 (.string (bs st)), ownsRow_setCell_other (h.dn q).opens h.neo _⟩, (bel_dn (Below.refl B w) q).setCell (p := ⟨p, 0, none⟩) h.base _⟩
theorem SAt.closed {st : List UInt8} {os : List VO} {o : VO} {g m : Nat} (h : SAt B p (some ⟨g, 0, none⟩) (m + 1) c ⟨st, os ++ [o]⟩ w) (q : Nat) :
    SAt B p (some ⟨g, 0, none⟩) m c ⟨st, os⟩ ((w.drewN q).setCell ⟨p, 1, none⟩ (.slice (some ⟨g, 0, none⟩) m c)) ∧ Below B w ((w.drewN q).setCell ⟨p, 1, none⟩ (.slice (some ⟨g, 0, none⟩) m c)) := by
  have hl := h.olen
  have ho : w.ownsRow B 237 3 (.slice (some ⟨g, 0, none⟩) (m + 1) c) (m + 1) (flat spC os ++ spC o) := by
    have := h.opens
    rwa [flat_snoc] at this
  refine ⟨⟨h.base, by simpa using wk_set (h.dn q).blk 1 (.slice (some ⟨g, 0, none⟩) m c), ownsRow_setCell_other (a := ⟨p, 1, none⟩) (own_dn (own_less ho (by rw [flat_len spC_len]; simp at hl; omega)) q) (show Value.ownBlock (.slice (some ⟨g, 0, none⟩) m c) ≠ some p from h.neo) _⟩, ?_⟩
  exact (bel_dn (Below.refl B w) q).setCell (p := ⟨p, 1, none⟩) h.base _
theorem sp_last {os : List VO} {o : VO} {m : Nat} (hm : os.length = m) (k : Int) : (flat spC (os ++ [o])).set (m * 3 + 1) (.int .i64 k) = flat spC (os ++ [⟨o.pos, k, o.stk⟩]) := by
  rw [flat_snoc, flat_snoc, List.set_append_right _ _ (by rw [flat_len spC_len]; omega), flat_len spC_len, hm, show m * 3 + 1 - m * 3 = 1 by omega]
  rfl
theorem SAt.elsed {st : List UInt8} {os : List VO} {o : VO} {g m : Nat} (h : SAt B p (some ⟨g, 0, none⟩) (m + 1) c ⟨st, os ++ [o]⟩ w) (q : Nat) (k : Int) :
    SAt B p (some ⟨g, 0, none⟩) (m + 1) c ⟨st, os ++ [⟨o.pos, k, o.stk⟩]⟩ ((w.drewN q).setCell ⟨g, m * 3 + 1, none⟩ (.int .i64 k)) ∧ Below B w ((w.drewN q).setCell ⟨g, m * 3 + 1, none⟩ (.int .i64 k)) := by
  have hl : os.length = m := by have := h.olen; simp at this; omega
  have hst := ((h.dn q).opens.stored (m * 3 + 1) (.int .i64 k)).1
  rw [sp_last hl] at hst
  have hgp : g ≠ p := fun e => h.neo (by simp [Value.ownBlock, e])
  refine ⟨⟨h.base, ?_, hst⟩, (bel_dn (Below.refl B w) q).setCell (p := ⟨g, m * 3 + 1, none⟩) (h.opens.lt g rfl).1 _⟩
  rw [heap_setCell_other _ _ _ _ (fun e => hgp e.symm)]
  exact (h.dn q).blk
/-- What an opening leaves. -/
def SOpened (B p n c : Nat) (a : Option Addr) (xs z : List Value) (w w' : World) : Prop :=
  ∃ a2 c2 w1 O O', w1.ownsRow B 237 3 (.slice a2 (n + 1) c2) (n + 1) (xs ++ z) ∧ ((w.alloc O).alloc O').grownBy w1 (Value.ownBlock (.slice a n c)) ∧ w' = w1.setCell ⟨p, 1, none⟩ (.slice a2 (n + 1) c2)
theorem SAt.opened {z : VO} (h : SAt B p a n c v w) (g : SOpened B p n c a (flat spC v.opn) (spC z) w w') : SStat B p ⟨v.stk, v.opn ++ [z]⟩ w' ∧ Below B w w' := by
  obtain ⟨a2, c2, w1, O, O', ho, hg, rfl⟩ := g
  have hp : w1.heap[p]? = some (swO (bs v.stk) a n c) := (hg.block p (by have := h.plt; simp; omega) (fun e => h.neo e.symm)).trans ((Below.heap_alloc _ O' p (by have := h.plt; simp; omega)).trans ((Below.heap_alloc w O p h.plt).trans h.blk))
  refine ⟨⟨a2, n + 1, c2, h.base, by simpa using wk_set hp 1 (.slice a2 (n + 1) c2), ?_⟩, ?_⟩
  · rw [← flat_snoc] at ho
    exact ownsRow_setCell_other ho (own_ne ho hp (by decide)) _
  · have hb := ((Below.refl B w).alloc h.low O).alloc (by have := h.low; simp; omega) O'
    exact (hb.grown hg (by have := h.low; simp; omega) (fun k hk => (h.opens.lt k hk).1)).setCell (p := ⟨p, 1, none⟩) h.base _
end
theorem sfloor_none (p c : Nat) (a : Option Addr) (w : World) (h : w.cell? ⟨p, 1, none⟩ = some (.slice a 0 c)) :
    Calls Tryz.prog 227 #[.pointer (some ⟨p, 0, none⟩)] w fun e w' => e = .returned (.int .i64 0) ∧ ∃ q, w' = w.drewN q := by
  go_enter Tryz.func227, Tryz.ntmps227
  go_wp2
  go_ret
  exact ⟨rfl, 0, rfl⟩
theorem sfloor_some (p g m c : Nat) (s : ByteArray) (hm : m + 1 ≤ 100) (w : World) (h : w.cell? ⟨p, 1, none⟩ = some (.slice (some ⟨g, 0, none⟩) (m + 1) c)) (hk : w.cell? ⟨g, m * 3 + 2, none⟩ = some (.string s)) :
    Calls Tryz.prog 227 #[.pointer (some ⟨p, 0, none⟩)] w fun e w' => e = .returned (.int .i64 s.size) ∧ ∃ q, w' = w.drewN q := by
  have h1 : ((m : Int) + 1 == 0) = false := by rw [beq_eq_false_iff_ne]; omega
  go_enter Tryz.func227, Tryz.ntmps227
  go_wp2
  go_quiet (fail)
  go_wp2
  go_ret
  exact ⟨rfl, _, rfl⟩
theorem sfloor_any {B p : Nat} {v : VW} {w : World} (h : SStat B p v w) (hp : v.pre) : Calls Tryz.prog 227 #[.pointer (some ⟨p, 0, none⟩)] w fun e w' => e = .returned (.int .i64 v.floor) ∧ ∃ q, w' = w.drewN q := by
  obtain ⟨a, n, c, h⟩ := h
  obtain ⟨st, opn⟩ := v
  rcases opn_cases opn with rfl | ⟨os, o, rfl⟩
  · have hl := h.olen
    simp at hl
    subst hl
    exact sfloor_none p c a w h.cells.2
  · obtain ⟨g, m, rfl, rfl, hm, hc⟩ := h.row
    have h4 := hp.o4
    simp at h4 hm
    have := sfloor_some p g m c (bs o.stk) (by omega) w h.cells.2 h.last.2.2.1
    rw [bs_size] at this
    rw [floor_snoc]
    exact this
end Go.Proofs.YtppgknjpbfopjaaGreatDoor
namespace Go.Proofs.YtppgknjpbfopjaaGreatDoor
open Go.ChangeShapes Go.WideShapes Go.ChangeAt Go.RowKit
set_option linter.unusedVariables false
theorem oc {w : World} {a : Addr} {v : Value} (h : w.cell? a = some v) (O : Obj) : (w.alloc O).cell? a = some v :=
  (((Below.refl w.heap.size w).alloc (Nat.le_refl _) O).cell (p := a) (cells_lt h)).trans h
theorem ofz {w : World} {a : Addr} {b : Bool} {v : Value} (hc : w.cell? a = some v) (h : w.frozen? a = b) (O : Obj) : (w.alloc O).frozen? a = b :=
  (((Below.refl w.heap.size w).alloc (Nat.le_refl _) O).frozen (p := a) (cells_lt hc)).trans h
def SNest (x y : Int) (p : Nat) (i : Int) (w : World) (R : Ending → World → Prop) : Prop := Calls Tryz.prog 228 #[.pointer (some ⟨p, 0, none⟩), .agg #[.int .i64 x, .int .i64 y], .int .i64 i] w R
theorem snest_deep (p c : Nat) (a : Option Addr) (x y i : Int) (ho : x = 21 ∨ x = 24) (w : World) (h : w.cell? ⟨p, 1, none⟩ = some (.slice a 4 c)) : SNest x y p i w fun e w' => e = .returned (.int .i64 17) ∧ Below w.heap.size w w' := by
  unfold SNest
  have h1 := oc h
  clear h
  rcases ho with rfl | rfl
  all_goals
    go_enter Tryz.func228, Tryz.ntmps228
    go_wp2
    go_ret
    exact ⟨rfl, (Below.refl _ _).alloc (Nat.le_refl _) _⟩
theorem snest_none (p c : Nat) (a : Option Addr) (x y i : Int) (ho : x = 22 ∨ x = 23) (w : World) (h : w.cell? ⟨p, 1, none⟩ = some (.slice a 0 c)) : SNest x y p i w fun e w' => e = .returned (.int .i64 14) ∧ Below w.heap.size w w' := by
  unfold SNest
  have h1 := oc h
  clear h
  rcases ho with rfl | rfl
  all_goals
    go_enter Tryz.func228, Tryz.ntmps228
    go_wp2
    go_ret
    exact ⟨rfl, (Below.refl _ _).alloc (Nat.le_refl _) _⟩
theorem snest_else_not (p g m c : Nat) (y i k : Int) (hm : m + 1 ≤ 100) (hk : k ≠ 21) (w : World) (h : w.cell? ⟨p, 1, none⟩ = some (.slice (some ⟨g, 0, none⟩) (m + 1) c)) (ho : w.cell? ⟨g, m * 3 + 1, none⟩ = some (.int .i64 k)) : SNest 22 y p i w fun e w' => e = .returned (.int .i64 14) ∧ Below w.heap.size w w' := by
  unfold SNest
  have h1 := oc h
  have h2 := oc ho
  have h3 : (k != 21) = true := by rw [bne_iff_ne]; exact hk
  have h4 : ((m : Int) + 1 == 0) = false := by rw [beq_eq_false_iff_ne]; omega
  clear h ho hk
  go_enter Tryz.func228, Tryz.ntmps228
  go_wp2
  go_ret
  exact ⟨rfl, (Below.refl _ _).alloc (Nat.le_refl _) _⟩
theorem snest_level (p g m c : Nat) (x y i k : Int) (S T : ByteArray) (hx : x = 22 ∧ k = 21 ∨ x = 23) (hm : m + 1 ≤ 100) (hne : (S.toList == T.toList) = false) (w : World) (h0 : w.cell? ⟨p, 0, none⟩ = some (.string S)) (h : w.cell? ⟨p, 1, none⟩ = some (.slice (some ⟨g, 0, none⟩) (m + 1) c))
    (ho : w.cell? ⟨g, m * 3 + 1, none⟩ = some (.int .i64 k)) (ht : w.cell? ⟨g, m * 3 + 2, none⟩ = some (.string T)) : SNest x y p i w fun e w' => e = .returned (.int .i64 13) ∧ Below w.heap.size w w' := by
  unfold SNest
  have h1 := oc h
  have h2 := oc ho
  have h3 := oc h0
  have h4 := oc ht
  have h5 : ((m : Int) + 1 == 0) = false := by rw [beq_eq_false_iff_ne]; omega
  have h6 : (!(S.toList == T.toList)) = true := by rw [hne]; rfl
  clear h ho h0 ht
  rcases hx with ⟨rfl, rfl⟩ | rfl
  all_goals
    go_enter Tryz.func228, Tryz.ntmps228
    go_wp2
    go_quiet (fail)
    go_wp2
    go_ret
    exact ⟨rfl, bel_dn ((Below.refl _ _).alloc (Nat.le_refl _) _) _⟩
theorem snest_else (p g m c : Nat) (y i : Int) (S T : ByteArray) (hm : m + 1 ≤ 100) (hne : (S.toList == T.toList) = true) (w : World) (h0 : w.cell? ⟨p, 0, none⟩ = some (.string S)) (h : w.cell? ⟨p, 1, none⟩ = some (.slice (some ⟨g, 0, none⟩) (m + 1) c))
    (ho : w.cell? ⟨g, m * 3 + 1, none⟩ = some (.int .i64 21)) (fo : w.frozen? ⟨g, m * 3 + 1, none⟩ = false) (ht : w.cell? ⟨g, m * 3 + 2, none⟩ = some (.string T)) :
    SNest 22 y p i w fun e w' => e = .returned (.int .i64 0) ∧ ∃ O q, w' = ((w.alloc O).drewN q).setCell ⟨g, m * 3 + 1, none⟩ (.int .i64 22) := by
  unfold SNest
  have h1 := oc h
  have h2 := oc ho
  have h3 := oc h0
  have h4 := oc ht
  have hf := ofz ho fo
  have h5 : ((m : Int) + 1 == 0) = false := by rw [beq_eq_false_iff_ne]; omega
  have h6 : (!(S.toList == T.toList)) = false := by rw [hne]; rfl
  clear h ho h0 ht fo
  go_enter Tryz.func228, Tryz.ntmps228
  go_wp2
  go_quiet (fail)
  go_wp2
  go_ret
  exact ⟨rfl, _, _, rfl⟩
theorem snest_end (p g m c : Nat) (y i k : Int) (S T : ByteArray) (hm : m + 1 ≤ 100) (hmc : m + 1 ≤ c) (hne : (S.toList == T.toList) = true) (w : World) (h0 : w.cell? ⟨p, 0, none⟩ = some (.string S)) (h : w.cell? ⟨p, 1, none⟩ = some (.slice (some ⟨g, 0, none⟩) (m + 1) c)) (fp : w.frozen? ⟨p, 1, none⟩ = false)
    (ho : w.cell? ⟨g, m * 3 + 1, none⟩ = some (.int .i64 k)) (ht : w.cell? ⟨g, m * 3 + 2, none⟩ = some (.string T)) :
    SNest 23 y p i w fun e w' => e = .returned (.int .i64 0) ∧ ∃ O q, w' = ((w.alloc O).drewN q).setCell ⟨p, 1, none⟩ (.slice (some ⟨g, 0, none⟩) m c) := by
  unfold SNest
  have h1 := oc h
  have h2 := oc ho
  have h3 := oc h0
  have h4 := oc ht
  have hf := ofz h fp
  have h5 : ((m : Int) + 1 == 0) = false := by rw [beq_eq_false_iff_ne]; omega
  have h6 : (!(S.toList == T.toList)) = false := by rw [hne]; rfl
  clear h ho h0 ht fp
  go_enter Tryz.func228, Tryz.ntmps228
  go_wp2
  go_quiet (fail)
  go_wp2
  go_ret
  exact ⟨rfl, _, _, rfl⟩
end Go.Proofs.YtppgknjpbfopjaaGreatDoor
namespace Go.Proofs.YtppgknjpbfopjaaGreatDoor
open Go.ChangeShapes Go.WideShapes Go.ChangeAt Go.RowKit
set_option linter.unusedVariables false
theorem heap_alloc_size (w : World) (O : Obj) : (w.alloc O).heap.size = w.heap.size + 1 := by simp
theorem three_at (w : World) {b : Nat} (hb : b = w.heap.size) (a d e : Value) (t : TypeId) : ∀ j u, [a, d, e][j]? = some u → (w.alloc (.cells #[a, d, e] t)).cell? ((⟨b, 0, none⟩ : Addr).add j) = some u := by
  subst hb
  exact three_cells w a d e t
set_option maxHeartbeats 4000000 in
theorem snest_open (B p n c : Nat) (a : Option Addr) (xs : List Value) (x y i : Int) (S : ByteArray) (ho : x = 21 ∨ x = 24) (hn' : n + 1 ≤ 4) (w : World) (hB : B ≤ w.heap.size) (hp : p < w.heap.size)
    (h0 : w.cell? ⟨p, 0, none⟩ = some (.string S)) (h1 : w.cell? ⟨p, 1, none⟩ = some (.slice a n c)) (f1 : w.frozen? ⟨p, 1, none⟩ = false)
    (hown : w.ownsRow B 237 3 (.slice a n c) n xs) (hne : some p ≠ Value.ownBlock (.slice a n c)) :
    SNest x y p i w fun e w' => e = .returned (.int .i64 0) ∧ SOpened B p n c a xs [.int .i64 i, .int .i64 x, .string S] w w' := by
  unfold SNest
  obtain ⟨i0, hi, hz0, hz1, hz2⟩ := info_parts (show (Tryz.prog.info? 237).map (fun i => (i.zero, i.size, i.bytes)) = some (some (.agg #[.int .i64 0, .int .i64 0, .string ⟨#[]⟩]), 3, 32) by kernel_rfl)
  have HI := Lib.hid (And.intro hi (And.intro hz0 (And.intro hz1 hz2)))
  have Ho := Lib.hid hown
  have HN := Lib.hid hne
  have HF := Lib.hid f1
  have HC1 := Lib.hid h1
  have hk : ∀ O O' w1, ((w.alloc O).alloc O').grownBy w1 (Value.ownBlock (.slice a n c)) → w1.heap[p]? = w.heap[p]? := fun O O' w1 g =>
    (g.block p (by simp; omega) HN.out).trans ((Below.heap_alloc (w.alloc O) O' p (by simp; omega)).trans (Below.heap_alloc w O p hp))
  have HK := Lib.hid hk
  have e0 := oc h0
  have e1 := oc h1
  have HBB : Hid (∀ O O', B ≤ ((w.alloc O).alloc O').heap.size) := Lib.hid (fun O O' => by simp; omega)
  have H1c : Hid (∀ u ∈ [Value.int .i64 i, .int .i64 x, .string S], u.oneCell' = true) := Lib.hid (by simp [Value.oneCell'])
  have HM1 : Hid (n + 1 ≤ maxLen) := Lib.hid (by unfold maxLen; omega)
  have HM2 : Hid ((n + 1) * 32 ≤ 140737488355328) := Lib.hid (by omega)
  have H03 : Hid (0 < 3) := Lib.hid (by decide)
  have hn4 : ((n : Int) == 4) = false := by rw [beq_eq_false_iff_ne]; omega
  clear hi hz0 hz1 hz2 hown hne hk f1 hB h0 h1
  obtain ⟨H1, H2, H3, H4⟩ := HI.out
  rcases ho with rfl | rfl
  · go_enter Tryz.func228, Tryz.ntmps228
    go_wp2
    go_region_law (refine step_append_own rfl (.tmp 27) (.tmp 36) _ rfl B 237 i0 _ 3 32 Tryz.underlying232 H1 H2 H3 H4 rfl H03.out (.slice a n c) n xs rfl ((Ho.out.alloc _).alloc _) ⟨w.heap.size + 1, 0, none⟩ 1 1 [.int .i64 i, .int .i64 21, .string S] rfl rfl (three_at _ (heap_alloc_size w _).symm (.int .i64 i) (.int .i64 21) (.string S) _) H1c.out HM1.out HM2.out (HBB.out (.cells #[.int .i64 21, .int .i64 y] 170) (.cells #[.int .i64 i, .int .i64 21, .string S] 237)) (fun v' w' g1 g2 _ => ?_); obtain ⟨a2, c2, rfl⟩ := wk_slice g1; have G1 := Lib.hid g1; have g2 : ((w.alloc (.cells #[.int .i64 21, .int .i64 y] 170)).alloc (.cells #[.int .i64 i, .int .i64 21, .string S] 237)).grownBy w' (Value.ownBlock (.slice a n c)) := ⟨g2.os, g2.tape, g2.output, g2.size, g2.block⟩; have G2 := Lib.hid g2; have k4 := (World.frozen?_of_block (a := ⟨p, 1, none⟩) (HK.out _ _ _ g2)).trans HF.out; have k3 := (World.cell?_of_block (a := ⟨p, 1, none⟩) (HK.out _ _ _ g2)).trans HC1.out; clear g1 g2)
    all_goals go_wp2
    all_goals go_ret
    all_goals exact ⟨rfl, a2, c2, _, _, _, G1.out, G2.out, rfl⟩
  · go_enter Tryz.func228, Tryz.ntmps228
    go_wp2
    go_region_law (refine step_append_own rfl (.tmp 27) (.tmp 36) _ rfl B 237 i0 _ 3 32 Tryz.underlying232 H1 H2 H3 H4 rfl H03.out (.slice a n c) n xs rfl ((Ho.out.alloc _).alloc _) ⟨w.heap.size + 1, 0, none⟩ 1 1 [.int .i64 i, .int .i64 24, .string S] rfl rfl (three_at _ (heap_alloc_size w _).symm (.int .i64 i) (.int .i64 24) (.string S) _) H1c.out HM1.out HM2.out (HBB.out (.cells #[.int .i64 24, .int .i64 y] 170) (.cells #[.int .i64 i, .int .i64 24, .string S] 237)) (fun v' w' g1 g2 _ => ?_); obtain ⟨a2, c2, rfl⟩ := wk_slice g1; have G1 := Lib.hid g1; have g2 : ((w.alloc (.cells #[.int .i64 24, .int .i64 y] 170)).alloc (.cells #[.int .i64 i, .int .i64 24, .string S] 237)).grownBy w' (Value.ownBlock (.slice a n c)) := ⟨g2.os, g2.tape, g2.output, g2.size, g2.block⟩; have G2 := Lib.hid g2; have k4 := (World.frozen?_of_block (a := ⟨p, 1, none⟩) (HK.out _ _ _ g2)).trans HF.out; have k3 := (World.cell?_of_block (a := ⟨p, 1, none⟩) (HK.out _ _ _ g2)).trans HC1.out; clear g1 g2)
    all_goals go_wp2
    all_goals go_ret
    all_goals exact ⟨rfl, a2, c2, _, _, _, G1.out, G2.out, rfl⟩
end Go.Proofs.YtppgknjpbfopjaaGreatDoor
namespace Go.Proofs.YtppgknjpbfopjaaGreatDoor
open Go.ChangeShapes Go.WideShapes Go.ChangeAt Go.RowKit
set_option linter.unusedVariables false
theorem SStat.bel {B p : Nat} {v : VW} {w w' : World} (h : SStat B p v w) (hb : Below w.heap.size w w') : SStat B p v w' := by
  obtain ⟨a, n, c, h⟩ := h
  exact ⟨a, n, c, h.bel hb⟩
theorem SStat.dn {B p : Nat} {v : VW} {w : World} (h : SStat B p v w) (q : Nat) : SStat B p v (w.drewN q) := by
  obtain ⟨a, n, c, h⟩ := h
  exact ⟨a, n, c, h.dn q⟩
theorem SStat.low {B p : Nat} {v : VW} {w : World} (h : SStat B p v w) : B ≤ w.heap.size := by
  obtain ⟨a, n, c, h⟩ := h
  exact h.low
def SEnd (B p : Nat) (R : VW × Int) (w : World) (e : Ending) (w' : World) : Prop := Below B w w' ∧ e = .returned (.int .i64 R.2) ∧ (R.2 = 0 → SStat B p R.1 w')
theorem snest_any {B p : Nat} {v : VW} {w : World} (h : SStat B p v w) (hp : v.pre) (x y i : Int) (hx : 21 ≤ x ∧ x ≤ 24) : SNest x y p i w (SEnd B p (vNest (x, y) i v) w) := by
  obtain ⟨a, n, c, h⟩ := h
  have hn := h.olen
  have h8 := hp.s8
  have h4 := hp.o4
  obtain ⟨c0, c1⟩ := h.cells
  obtain ⟨st, opn⟩ := v
  simp only at hn h4
  have hlow := h.low
  by_cases h1 : x = 21 ∨ x = 24
  · by_cases h5 : opn.length = 4
    · have e : vNest (x, y) i ⟨st, opn⟩ = (⟨st, opn⟩, 17) := by unfold vNest; rw [if_pos h1, if_pos h5]
      rw [e]
      have hn4 : n = 4 := by omega
      subst hn4
      exact Calls.mono (snest_deep p c a x y i h1 w c1) fun e w' ⟨he, hw⟩ => ⟨hw.mono hlow, he, fun q => absurd q (by simp)⟩
    · have e : vNest (x, y) i ⟨st, opn⟩ = (⟨st, opn ++ [⟨i, x, st⟩]⟩, 0) := by unfold vNest; rw [if_pos h1, if_neg h5]
      rw [e]
      refine Calls.mono (snest_open B p n c a (flat spC opn) x y i (bs st) h1 (by omega) w hlow h.plt c0 c1 (h.frozen 1) h.opens (fun e => h.neo e.symm)) fun e w' ⟨he, hw⟩ => ?_
      obtain ⟨h2, hb⟩ := h.opened (z := ⟨i, x, st⟩) hw
      exact ⟨hb, he, fun _ => h2⟩
  · have h1' : x = 22 ∨ x = 23 := by omega
    rcases opn_cases opn with rfl | ⟨os, o, rfl⟩
    · have e : vNest (x, y) i ⟨st, []⟩ = (⟨st, []⟩, 14) := by unfold vNest; rw [if_neg h1]; rfl
      rw [e]
      simp at hn
      subst hn
      exact Calls.mono (snest_none p c a x y i h1' w c1) fun e w' ⟨he, hw⟩ => ⟨hw.mono hlow, he, fun q => absurd q (by simp)⟩
    · obtain ⟨g, m, rfl, rfl, hm, hc⟩ := h.row
      obtain ⟨k0, k1, k2, kf⟩ := h.last
      simp only [List.length_append, List.length_singleton] at hn h4
      have hm4 : m + 1 ≤ 100 := by omega
      by_cases hl : st = o.stk
      · have hq : ((bs st).toList == (bs o.stk).toList) = true := beq_yes (bs_list _) (bs_list _) hl
        by_cases h22 : x = 22
        · subst h22
          by_cases ht : o.op = 21
          · have e : vNest (22, y) i ⟨st, os ++ [o]⟩ = (⟨st, os ++ [⟨o.pos, 22, o.stk⟩]⟩, 0) := by
              unfold vNest; rw [if_neg h1]; simp only [last_snoc, drop_snoc]; rw [if_neg (by simp [ht]), if_neg (by simpa using hl)]; rfl
            rw [e]
            rw [ht] at k1
            refine Calls.mono (snest_else p g m c y i (bs st) (bs o.stk) hm4 hq w c0 c1 k1 (kf _) k2) fun e w' ⟨he, O, q, hw⟩ => ?_
            subst hw
            have hb1 := (Below.refl w.heap.size w).alloc (Nat.le_refl _) O
            obtain ⟨h2, hb⟩ := (h.bel hb1).elsed q 22
            exact ⟨(hb1.mono hlow).trans hb, he, fun _ => ⟨_, _, _, h2⟩⟩
          · have e : vNest (22, y) i ⟨st, os ++ [o]⟩ = (⟨st, os ++ [o]⟩, 14) := by
              unfold vNest; rw [if_neg h1]; simp only [last_snoc, drop_snoc]; rw [if_pos ⟨trivial, ht⟩]
            rw [e]
            exact Calls.mono (snest_else_not p g m c y i o.op hm4 ht w c1 k1) fun e w' ⟨he, hw⟩ => ⟨hw.mono hlow, he, fun q => absurd q (by simp)⟩
        · have h23 : x = 23 := by omega
          subst h23
          have e : vNest (23, y) i ⟨st, os ++ [o]⟩ = (⟨st, os⟩, 0) := by
            unfold vNest; rw [if_neg h1]; simp only [last_snoc, drop_snoc]; rw [if_neg (by simp), if_neg (by simpa using hl)]; rfl
          rw [e]
          refine Calls.mono (snest_end p g m c y i o.op (bs st) (bs o.stk) hm4 hc hq w c0 c1 (h.frozen 1) k1 k2) fun e w' ⟨he, O, q, hw⟩ => ?_
          subst hw
          have hb1 := (Below.refl w.heap.size w).alloc (Nat.le_refl _) O
          obtain ⟨h2, hb⟩ := (h.bel hb1).closed q
          exact ⟨(hb1.mono hlow).trans hb, he, fun _ => ⟨_, _, _, h2⟩⟩
      · have hq : ((bs st).toList == (bs o.stk).toList) = false := beq_no (bs_list _) (bs_list _) hl
        by_cases h22 : x = 22 ∧ o.op ≠ 21
        · obtain ⟨rfl, ht⟩ := h22
          have e : vNest (22, y) i ⟨st, os ++ [o]⟩ = (⟨st, os ++ [o]⟩, 14) := by
            unfold vNest; rw [if_neg h1]; simp only [last_snoc, drop_snoc]; rw [if_pos ⟨trivial, ht⟩]
          rw [e]
          exact Calls.mono (snest_else_not p g m c y i o.op hm4 ht w c1 k1) fun e w' ⟨he, hw⟩ => ⟨hw.mono hlow, he, fun q => absurd q (by simp)⟩
        · have e : vNest (x, y) i ⟨st, os ++ [o]⟩ = (⟨st, os ++ [o]⟩, 13) := by
            unfold vNest; rw [if_neg h1]; simp only [last_snoc, drop_snoc]; rw [if_neg (by simpa using h22), if_pos (by simpa using hl)]
          rw [e]
          exact Calls.mono (snest_level p g m c x y i o.op (bs st) (bs o.stk) (by omega) hm4 hq w c0 c1 k1 k2) fun e w' ⟨he, hw⟩ => ⟨hw.mono hlow, he, fun q => absurd q (by simp)⟩
theorem l04Sign_any {k : Option Addr} {kc : Nat} {ks : List Int} {r x y : Int} (hx : okB x y = true) (hf : vFind ks r (x, y) = 0) (hkv : ∀ z ∈ ks, kindB z = true) (w : World) (hk : Lies w k (kC ks)) :
    Calls Tryz.prog 225 #[.agg #[.int .i64 x, .int .i64 y], .slice k ks.length kc] w fun e w' => Below w.heap.size w w' ∧ ∃ T G : ByteArray, e = .returned (.tuple #[.string T, .string G]) ∧ T.data.toList = (vSign ks (x, y)).1 ∧ G.data.toList = (vSign ks (x, y)).2 := by
  obtain ⟨q, rfl, q1, q2, q3, q4⟩ := okB_nat hx
  by_cases h19 : q = 19
  · subst h19
    have hy0 : 0 ≤ y := by have : opLo 19 = 0 := rfl; omega
    obtain ⟨m, rfl⟩ : ∃ m : Nat, y = m := ⟨y.toNat, by omega⟩
    have hm : m < ks.length := by
      unfold vFind at hf
      by_cases hh : (ks.length : Int) ≤ (m : Int)
      · rw [if_pos ⟨.inl rfl, hh⟩] at hf
        exact absurd hf (by decide)
      · omega
    obtain ⟨b, o, rfl, hbl, hcs⟩ := hk.open (by rw [kC_len]; omega)
    have hc := kind_at hcs hm
    refine (l04Sign_block b o ks.length kc m (ks.getD m 0) hm (hkv _ (by simp [List.getD, hm])) w hbl hc).mono fun e w' ⟨he, hb⟩ => ⟨hb, _, _, he, ?_, rfl⟩
    rw [takesF_list _ (hkv _ (by simp [List.getD, hm]))]
    show tkL (ks.getD m 0) = _
    simp [vSign]
  · obtain ⟨e1, e2⟩ := effT_sign q (by omega) q1 h19 ks y
    exact (l04Sign_plain q y q1 q2 h19 k ks.length kc w).mono fun e w' ⟨he, hb⟩ => ⟨hb, _, _, he, e1, e2⟩
end Go.Proofs.YtppgknjpbfopjaaGreatDoor
namespace Go.Proofs.YtppgknjpbfopjaaGreatDoor
open Go.ChangeShapes Go.WideShapes Go.ChangeAt Go.RowKit
set_option linter.unusedVariables false
theorem l01In_is {n a b : Int} {q : Bool} (h : fbIn n a b = q) (w : World) : Calls Tryz.prog 166 #[.int .i64 n, .int .i64 a, .int .i64 b] w fun e w' => e = .returned (.bool q) ∧ w = w' := h ▸ fbIn_any n a b w
theorem bs_cat (l : List UInt8) (T : ByteArray) : bs l ++ T = bs (l ++ T.data.toList) := by
  apply bytes_inj
  simp [bs]
theorem sEnd_no {B p : Nat} {S : VW × Int} {v : VW} {c : Int} {w w' : World} (hS : S = (v, c)) (hc : c ≠ 0) (hb : Below B w w') : SEnd B p S w (.returned (.int .i64 c)) w' := by
  subst hS
  exact ⟨hb, rfl, fun q => absurd q hc⟩
theorem cell_set_ne {w : World} {a b : Addr} (u : Value) (h : b.block ≠ a.block) : (w.setCell a u).cell? b = w.cell? b := World.cell?_of_block (heap_setCell_other w a b.block u h)
theorem SStat.plt {B p : Nat} {v : VW} {w : World} (h : SStat B p v w) : p < w.heap.size := by
  obtain ⟨a, n, c, h⟩ := h
  exact h.plt
theorem floor_le {v : VW} (hp : v.pre) : v.floor ≤ v.stk.length := by
  obtain ⟨st, opn⟩ := v
  rcases opn_cases opn with rfl | ⟨os, o, rfl⟩
  · exact Nat.zero_le _
  · rw [floor_snoc]
    exact (hp.pfx o (by simp)).length_le
theorem vTake_len (st tk : List UInt8) (f : Nat) : (vTake st tk f).1.length ≤ st.length := by
  unfold vTake
  split
  · exact Nat.zero_le _
  · split
    · simp only [List.length_take]; omega
    · exact Nat.zero_le _
set_option maxHeartbeats 2000000 in
theorem sstep_any {B p : Nat} {k : Option Addr} {kc : Nat} {ks : List Int} {r i : Int} {v : VW} {w : World} (h : SStat B p v w) (hp : v.pre) (x y : Int) (hx : okB x y = true) (hkv : ∀ z ∈ ks, kindB z = true) (h8 : ks.length ≤ 8) (hk : Lies w k (kC ks)) :
    Calls Tryz.prog 200 #[.pointer (some ⟨p, 0, none⟩), .agg #[.int .i64 x, .int .i64 y], .int .i64 i, .slice k ks.length kc, .int .i64 r] w (SEnd B p (vStep ks r (x, y) i v) w) := by
  have hlow := h.low
  have hplt := h.plt
  have HS := Lib.hid (vStep_eq ks r (x, y) i v)
  obtain ⟨S, hS⟩ : ∃ S, vStep ks r (x, y) i v = S := ⟨_, rfl⟩
  rw [hS] at HS ⊢
  have ha := (Below.refl w.heap.size w).alloc (Nat.le_refl _) (.cells #[.int .i64 x, .int .i64 y] 170)
  have HA := Lib.hid ha
  have HAB := Lib.hid (ha.mono hlow)
  by_cases h1 : (x = 19 ∨ x = 20) ∧ (ks.length : Int) ≤ y
  · have hf : vFind ks r (x, y) = 5 := if_pos h1
    have HR := Lib.hid (HS.out.trans (if_pos (by rw [hf]; decide)))
    rw [hf] at HR
    obtain ⟨hx1, hy1⟩ := h1
    clear h hp hx hkv hk hS ha hf HS hlow
    generalize ks.length = n at *
    rcases hx1 with rfl | rfl
    all_goals
      go_enter Tryz.func200, Tryz.ntmps200
      go_wp2
      go_ret
      exact sEnd_no HR.out (by decide) HAB.out
  by_cases h2 : x = 26 ∧ r ≤ y
  · have hf : vFind ks r (x, y) = 15 := (if_neg h1).trans (if_pos h2)
    have HR := Lib.hid (HS.out.trans (if_pos (by rw [hf]; decide)))
    rw [hf] at HR
    obtain ⟨rfl, hy1⟩ := h2
    clear h hp hx hkv hk hS ha hf HS hlow h1
    generalize ks.length = n at *
    go_enter Tryz.func200, Tryz.ntmps200
    go_wp2
    go_ret
    exact sEnd_no HR.out (by decide) HAB.out
  have hf : vFind ks r (x, y) = 0 := (if_neg h1).trans (if_neg h2)
  have HS2 := Lib.hid (HS.out.trans (if_neg (by rw [hf]; decide)))
  have HG := Lib.hid (fun (w : World) (hk : Lies w k (kC ks)) => l04Sign_any (kc := kc) hx hf hkv w hk)
  have H1 := Lib.hid (h.bel ha)
  have HK1 := Lib.hid (hk.below ha (Nat.le_refl _))
  have HP := Lib.hid hp
  have HX1 := Lib.hid (box_new w (.cells #[.int .i64 x, .int .i64 y] 170))
  have HSL := Lib.hid (sign_len ks (x, y))
  clear hx hkv hk ha hf HS hlow hS hp h
  by_cases h3 : x = 19 ∨ x = 20
  · have hy : y < ks.length := by omega
    have HIN := Lib.hid (show fbIn x 21 24 = false from decide_eq_false (by omega))
    have HNO : Hid (∀ v, NestOut (x, y) i v = (v, 0)) := Lib.hid (fun v => if_neg (by simp only; omega))
    clear h1 h2
    generalize hLk : ks.length = n at *
    clear hLk
    rcases h3 with rfl | rfl
    all_goals
      go_enter Tryz.func200, Tryz.ntmps200
      go_wp2_with fail
      refine Calls.mono (HG.out _ HK1.out) ?_
      rintro e w1 ⟨hb1, T, G, rfl, hT, hG⟩
      have H2 := Lib.hid (H1.out.bel hb1)
      have Hb1 := Lib.hid (HAB.out.trans (hb1.mono H1.out.low))
      have hx1 := below_at HX1.out hb1
      have d0 := cell_of_row w1 w.heap.size 0 _ _ _ hx1
      have d1 := cell_of_row w1 w.heap.size 1 _ _ _ hx1
      have k0 : ∀ q u, ((w1.drewN q).setCell ⟨p, 0, none⟩ u).cell? ⟨w.heap.size, 0, none⟩ = some (.int .i64 _) := fun q u => (cell_set_ne u (by simp only; omega)).trans d0
      have k1 : ∀ q u, ((w1.drewN q).setCell ⟨p, 0, none⟩ u).cell? ⟨w.heap.size, 1, none⟩ = some (.int .i64 y) := fun q u => (cell_set_ne u (by simp only; omega)).trans d1
      have hTl : T.size ≤ 3 := by have := HSL.out.1; rw [← hT] at this; exact this
      have hGl : G.size ≤ 3 := by have := HSL.out.2; rw [← hG] at this; exact Nat.le_trans this (by decide)
      rw [← hT, ← hG] at HS2
      clear hb1 hx1 hT hG H1 HG HK1 HX1 HSL HA HAB
      obtain ⟨a, n', c, hs⟩ := H2.out
      have c0 := hs.cells.1
      have f0 := hs.frozen 0
      have HF := Lib.hid (fun q => sfloor_any (H2.out.dn q) HP.out)
      have hst8 := HP.out.s8
      have hfl := floor_le HP.out
      have HTk := Lib.hid (fun w => l04Take_any v.stk T v.floor (by omega) (by omega) hfl w)
      have HST := Lib.hid hs
      have htl := vTake_len v.stk T.data.toList v.floor
      have HPR := Lib.hid (fun h0 h8 => pre_taken HP.out (tk := T.data.toList) (pt := G.data.toList) h0 h8)
      clear hs hTl
      generalize hV : vTake v.stk T.data.toList v.floor = V at *
      clear hV
      obtain ⟨st, d⟩ := V
      dsimp only at HTk HS2 htl HPR
      have hsz := bs_size st
      have hgs : G.data.toList.length = G.size := rfl
      have hst : st.length ≤ 8 := by omega
      generalize v.floor = fl at *
      clear hst8 htl hfl
      go_wp2_with fail
      go_quiet ((first | (go_at_call 227; exact Calls.quiet_of (HF.out _)) | (go_at_call 226; exact Calls.quiet_of_same ((HTk.out _).mono fun _ _ ⟨a, b⟩ => ⟨a, b.symm⟩))))
      by_cases hd : d = 0
      · subst hd
        have HS3 := Lib.hid (HS2.out.trans (if_neg (by simp)))
        by_cases h9 : 8 < st.length + G.size
        · have HR := Lib.hid (HS3.out.trans (if_pos (by rw [hgs]; exact h9)))
          clear hgs
          go_wp2
          go_ret
          exact sEnd_no HR.out (by decide) (bel_dn Hb1.out _)
        · have HR := Lib.hid (HS3.out.trans (if_neg (by rw [hgs]; exact h9)))
          have HPS := Lib.hid (HPR.out rfl (by rw [hgs]; omega))
          have hpl := HST.out.plt
          have HCT := Lib.hid (bs_cat st G)
          have hov : ¬ 9223372036854775807 < st.length + G.size := by omega
          clear hgs HS3 HPR
          generalize bs st = Sb at *
          go_wp2_with (go_at_call 166; refine (l01In_is HIN.out _).mono ?_; rintro e w' ⟨rfl, rfl⟩)
          go_ret
          have h2 := HST.out.stacked (st ++ G.data.toList) nq
          rw [← HCT.out] at h2
          exact ⟨(bel_dn Hb1.out 0).trans h2.2, by rw [HR.out, HNO.out]; rfl, fun _ => by rw [HR.out, HNO.out]; exact ⟨_, _, _, h2.1⟩⟩
      · have hdd : (d != 0) = true := by rw [bne_iff_ne]; exact hd
        clear hgs
        go_wp2
        go_ret
        exact sEnd_no (HS2.out.trans (if_pos hd)) hd (bel_dn Hb1.out _)
  by_cases h4 : x = 26
  · subst h4
    have hy : y < r := by omega
    have HIN := Lib.hid (show fbIn 26 21 24 = false from decide_eq_false (by omega))
    have HNO : Hid (∀ v, NestOut (26, y) i v = (v, 0)) := Lib.hid (fun v => if_neg (by simp only; omega))
    clear h1 h2 h3
    generalize hLk : ks.length = n at *
    clear hLk
    go_enter Tryz.func200, Tryz.ntmps200
    go_wp2_with fail
    refine Calls.mono (HG.out _ HK1.out) ?_
    rintro e w1 ⟨hb1, T, G, rfl, hT, hG⟩
    have H2 := Lib.hid (H1.out.bel hb1)
    have Hb1 := Lib.hid (HAB.out.trans (hb1.mono H1.out.low))
    have hx1 := below_at HX1.out hb1
    have d0 := cell_of_row w1 w.heap.size 0 _ _ _ hx1
    have d1 := cell_of_row w1 w.heap.size 1 _ _ _ hx1
    have k0 : ∀ q u, ((w1.drewN q).setCell ⟨p, 0, none⟩ u).cell? ⟨w.heap.size, 0, none⟩ = some (.int .i64 26) := fun q u => (cell_set_ne u (by simp only; omega)).trans d0
    have k1 : ∀ q u, ((w1.drewN q).setCell ⟨p, 0, none⟩ u).cell? ⟨w.heap.size, 1, none⟩ = some (.int .i64 y) := fun q u => (cell_set_ne u (by simp only; omega)).trans d1
    have hTl : T.size ≤ 3 := by have := HSL.out.1; rw [← hT] at this; exact this
    have hGl : G.size ≤ 3 := by have := HSL.out.2; rw [← hG] at this; exact Nat.le_trans this (by decide)
    rw [← hT, ← hG] at HS2
    clear hb1 hx1 hT hG H1 HG HK1 HX1 HSL HA HAB
    obtain ⟨a, n', c, hs⟩ := H2.out
    have c0 := hs.cells.1
    have f0 := hs.frozen 0
    have HF := Lib.hid (fun q => sfloor_any (H2.out.dn q) HP.out)
    have hst8 := HP.out.s8
    have hfl := floor_le HP.out
    have HTk := Lib.hid (fun w => l04Take_any v.stk T v.floor (by omega) (by omega) hfl w)
    have HST := Lib.hid hs
    have htl := vTake_len v.stk T.data.toList v.floor
    have HPR := Lib.hid (fun h0 h8 => pre_taken HP.out (tk := T.data.toList) (pt := G.data.toList) h0 h8)
    clear hs hTl
    generalize hV : vTake v.stk T.data.toList v.floor = V at *
    clear hV
    obtain ⟨st, d⟩ := V
    dsimp only at HTk HS2 htl HPR
    have hsz := bs_size st
    have hgs : G.data.toList.length = G.size := rfl
    have hst : st.length ≤ 8 := by omega
    generalize v.floor = fl at *
    clear hst8 htl hfl
    go_wp2_with fail
    go_quiet ((first | (go_at_call 227; exact Calls.quiet_of (HF.out _)) | (go_at_call 226; exact Calls.quiet_of_same ((HTk.out _).mono fun _ _ ⟨a, b⟩ => ⟨a, b.symm⟩))))
    by_cases hd : d = 0
    · subst hd
      have HS3 := Lib.hid (HS2.out.trans (if_neg (by simp)))
      by_cases h9 : 8 < st.length + G.size
      · have HR := Lib.hid (HS3.out.trans (if_pos (by rw [hgs]; exact h9)))
        clear hgs
        go_wp2
        go_ret
        exact sEnd_no HR.out (by decide) (bel_dn Hb1.out _)
      · have HR := Lib.hid (HS3.out.trans (if_neg (by rw [hgs]; exact h9)))
        have HPS := Lib.hid (HPR.out rfl (by rw [hgs]; omega))
        have hpl := HST.out.plt
        have HCT := Lib.hid (bs_cat st G)
        have hov : ¬ 9223372036854775807 < st.length + G.size := by omega
        clear hgs HS3 HPR
        generalize bs st = Sb at *
        go_wp2_with (go_at_call 166; refine (l01In_is HIN.out _).mono ?_; rintro e w' ⟨rfl, rfl⟩)
        go_ret
        have h2 := HST.out.stacked (st ++ G.data.toList) nq
        rw [← HCT.out] at h2
        exact ⟨(bel_dn Hb1.out 0).trans h2.2, by rw [HR.out, HNO.out]; rfl, fun _ => by rw [HR.out, HNO.out]; exact ⟨_, _, _, h2.1⟩⟩
    · have hdd : (d != 0) = true := by rw [bne_iff_ne]; exact hd
      clear hgs
      go_wp2
      go_ret
      exact sEnd_no (HS2.out.trans (if_pos hd)) hd (bel_dn Hb1.out _)
  have b19 : (x == 19) = false := by rw [beq_eq_false_iff_ne]; omega
  have b20 : (x == 20) = false := by rw [beq_eq_false_iff_ne]; omega
  have b26 : (x == 26) = false := by rw [beq_eq_false_iff_ne]; omega
  by_cases h5 : 21 ≤ x ∧ x ≤ 24
  · have HIN := Lib.hid (show fbIn x 21 24 = true from decide_eq_true h5)
    have HNO : Hid (∀ v, NestOut (x, y) i v = vNest (x, y) i v) := Lib.hid (fun v => if_pos h5)
    have HH5 := Lib.hid h5
    clear h1 h2 h3 h4 h5
    generalize hLk : ks.length = n at *
    clear hLk
    go_enter Tryz.func200, Tryz.ntmps200
    go_wp2_with fail
    refine Calls.mono (HG.out _ HK1.out) ?_
    rintro e w1 ⟨hb1, T, G, rfl, hT, hG⟩
    have H2 := Lib.hid (H1.out.bel hb1)
    have Hb1 := Lib.hid (HAB.out.trans (hb1.mono H1.out.low))
    have hx1 := below_at HX1.out hb1
    have d0 := cell_of_row w1 w.heap.size 0 _ _ _ hx1
    have d1 := cell_of_row w1 w.heap.size 1 _ _ _ hx1
    have k0 : ∀ q u, ((w1.drewN q).setCell ⟨p, 0, none⟩ u).cell? ⟨w.heap.size, 0, none⟩ = some (.int .i64 x) := fun q u => (cell_set_ne u (by simp only; omega)).trans d0
    have k1 : ∀ q u, ((w1.drewN q).setCell ⟨p, 0, none⟩ u).cell? ⟨w.heap.size, 1, none⟩ = some (.int .i64 y) := fun q u => (cell_set_ne u (by simp only; omega)).trans d1
    have hTl : T.size ≤ 3 := by have := HSL.out.1; rw [← hT] at this; exact this
    have hGl : G.size ≤ 3 := by have := HSL.out.2; rw [← hG] at this; exact Nat.le_trans this (by decide)
    rw [← hT, ← hG] at HS2
    clear hb1 hx1 hT hG H1 HG HK1 HX1 HSL HA HAB
    obtain ⟨a, n', c, hs⟩ := H2.out
    have c0 := hs.cells.1
    have f0 := hs.frozen 0
    have HF := Lib.hid (fun q => sfloor_any (H2.out.dn q) HP.out)
    have hst8 := HP.out.s8
    have hfl := floor_le HP.out
    have HTk := Lib.hid (fun w => l04Take_any v.stk T v.floor (by omega) (by omega) hfl w)
    have HST := Lib.hid hs
    have htl := vTake_len v.stk T.data.toList v.floor
    have HPR := Lib.hid (fun h0 h8 => pre_taken HP.out (tk := T.data.toList) (pt := G.data.toList) h0 h8)
    clear hs hTl
    generalize hV : vTake v.stk T.data.toList v.floor = V at *
    clear hV
    obtain ⟨st, d⟩ := V
    dsimp only at HTk HS2 htl HPR
    have hsz := bs_size st
    have hgs : G.data.toList.length = G.size := rfl
    have hst : st.length ≤ 8 := by omega
    generalize v.floor = fl at *
    clear hst8 htl hfl
    go_wp2_with fail
    go_quiet ((first | (go_at_call 227; exact Calls.quiet_of (HF.out _)) | (go_at_call 226; exact Calls.quiet_of_same ((HTk.out _).mono fun _ _ ⟨a, b⟩ => ⟨a, b.symm⟩))))
    by_cases hd : d = 0
    · subst hd
      have HS3 := Lib.hid (HS2.out.trans (if_neg (by simp)))
      by_cases h9 : 8 < st.length + G.size
      · have HR := Lib.hid (HS3.out.trans (if_pos (by rw [hgs]; exact h9)))
        clear hgs
        go_wp2
        go_ret
        exact sEnd_no HR.out (by decide) (bel_dn Hb1.out _)
      · have HR := Lib.hid (HS3.out.trans (if_neg (by rw [hgs]; exact h9)))
        have HPS := Lib.hid (HPR.out rfl (by rw [hgs]; omega))
        have hpl := HST.out.plt
        have HCT := Lib.hid (bs_cat st G)
        have hov : ¬ 9223372036854775807 < st.length + G.size := by omega
        clear hgs HS3 HPR
        generalize bs st = Sb at *
        have HQ := Lib.hid (fun q => HST.out.stacked (st ++ G.data.toList) q)
        rw [← HCT.out] at HQ
        have HNS : Hid (∀ q, SNest x y p i ((w1.drewN q).setCell ⟨p, 0, none⟩ (.string (Sb ++ G))) (SEnd B p S ((w1.drewN q).setCell ⟨p, 0, none⟩ (.string (Sb ++ G))))) := Lib.hid (fun q => by
          have hh := snest_any (p := p) (B := B) ⟨_, _, _, (HQ.out q).1⟩ HPS.out x y i HH5.out
          rw [← HNO.out, ← HR.out] at hh
          exact hh)
        go_wp2_with (go_at_call 166; refine (l01In_is HIN.out _).mono ?_; rintro e w' ⟨rfl, rfl⟩)
        refine Calls.mono (HNS.out nq) ?_
        rintro e w5 ⟨hb5, rfl, h5⟩
        have HB5 := Lib.hid ((Hb1.out.trans (HQ.out nq).2).trans hb5)
        have HE5 := Lib.hid h5
        clear hb5 h5
        go_wp2
        go_ret
        exact ⟨HB5.out, rfl, HE5.out⟩
    · have hdd : (d != 0) = true := by rw [bne_iff_ne]; exact hd
      clear hgs
      go_wp2
      go_ret
      exact sEnd_no (HS2.out.trans (if_pos hd)) hd (bel_dn Hb1.out _)
  · have HIN := Lib.hid (show fbIn x 21 24 = false from decide_eq_false (by omega))
    have HNO : Hid (∀ v, NestOut (x, y) i v = (v, 0)) := Lib.hid (fun v => if_neg (by simp only; omega))
    clear h1 h2 h3 h4 h5
    generalize hLk : ks.length = n at *
    clear hLk
    go_enter Tryz.func200, Tryz.ntmps200
    go_wp2_with fail
    refine Calls.mono (HG.out _ HK1.out) ?_
    rintro e w1 ⟨hb1, T, G, rfl, hT, hG⟩
    have H2 := Lib.hid (H1.out.bel hb1)
    have Hb1 := Lib.hid (HAB.out.trans (hb1.mono H1.out.low))
    have hx1 := below_at HX1.out hb1
    have d0 := cell_of_row w1 w.heap.size 0 _ _ _ hx1
    have d1 := cell_of_row w1 w.heap.size 1 _ _ _ hx1
    have k0 : ∀ q u, ((w1.drewN q).setCell ⟨p, 0, none⟩ u).cell? ⟨w.heap.size, 0, none⟩ = some (.int .i64 x) := fun q u => (cell_set_ne u (by simp only; omega)).trans d0
    have k1 : ∀ q u, ((w1.drewN q).setCell ⟨p, 0, none⟩ u).cell? ⟨w.heap.size, 1, none⟩ = some (.int .i64 y) := fun q u => (cell_set_ne u (by simp only; omega)).trans d1
    have hTl : T.size ≤ 3 := by have := HSL.out.1; rw [← hT] at this; exact this
    have hGl : G.size ≤ 3 := by have := HSL.out.2; rw [← hG] at this; exact Nat.le_trans this (by decide)
    rw [← hT, ← hG] at HS2
    clear hb1 hx1 hT hG H1 HG HK1 HX1 HSL HA HAB
    obtain ⟨a, n', c, hs⟩ := H2.out
    have c0 := hs.cells.1
    have f0 := hs.frozen 0
    have HF := Lib.hid (fun q => sfloor_any (H2.out.dn q) HP.out)
    have hst8 := HP.out.s8
    have hfl := floor_le HP.out
    have HTk := Lib.hid (fun w => l04Take_any v.stk T v.floor (by omega) (by omega) hfl w)
    have HST := Lib.hid hs
    have htl := vTake_len v.stk T.data.toList v.floor
    have HPR := Lib.hid (fun h0 h8 => pre_taken HP.out (tk := T.data.toList) (pt := G.data.toList) h0 h8)
    clear hs hTl
    generalize hV : vTake v.stk T.data.toList v.floor = V at *
    clear hV
    obtain ⟨st, d⟩ := V
    dsimp only at HTk HS2 htl HPR
    have hsz := bs_size st
    have hgs : G.data.toList.length = G.size := rfl
    have hst : st.length ≤ 8 := by omega
    generalize v.floor = fl at *
    clear hst8 htl hfl
    go_wp2_with fail
    go_quiet ((first | (go_at_call 227; exact Calls.quiet_of (HF.out _)) | (go_at_call 226; exact Calls.quiet_of_same ((HTk.out _).mono fun _ _ ⟨a, b⟩ => ⟨a, b.symm⟩))))
    by_cases hd : d = 0
    · subst hd
      have HS3 := Lib.hid (HS2.out.trans (if_neg (by simp)))
      by_cases h9 : 8 < st.length + G.size
      · have HR := Lib.hid (HS3.out.trans (if_pos (by rw [hgs]; exact h9)))
        clear hgs
        go_wp2
        go_ret
        exact sEnd_no HR.out (by decide) (bel_dn Hb1.out _)
      · have HR := Lib.hid (HS3.out.trans (if_neg (by rw [hgs]; exact h9)))
        have HPS := Lib.hid (HPR.out rfl (by rw [hgs]; omega))
        have hpl := HST.out.plt
        have HCT := Lib.hid (bs_cat st G)
        have hov : ¬ 9223372036854775807 < st.length + G.size := by omega
        clear hgs HS3 HPR
        generalize bs st = Sb at *
        go_wp2_with (go_at_call 166; refine (l01In_is HIN.out _).mono ?_; rintro e w' ⟨rfl, rfl⟩)
        go_ret
        have h2 := HST.out.stacked (st ++ G.data.toList) nq
        rw [← HCT.out] at h2
        exact ⟨(bel_dn Hb1.out 0).trans h2.2, by rw [HR.out, HNO.out]; rfl, fun _ => by rw [HR.out, HNO.out]; exact ⟨_, _, _, h2.1⟩⟩
    · have hdd : (d != 0) = true := by rw [bne_iff_ne]; exact hd
      clear hgs
      go_wp2
      go_ret
      exact sEnd_no (HS2.out.trans (if_pos hd)) hd (bel_dn Hb1.out _)
end Go.Proofs.YtppgknjpbfopjaaGreatDoor
namespace Go.Proofs.YtppgknjpbfopjaaGreatDoor
open Go.ChangeShapes Go.WideShapes Go.ChangeAt Go.RowKit
set_option linter.unusedVariables false
theorem isE_yes : (bs []).toList.isEmpty = true := by rw [ByteArray.toList_eq, bs_list]; rfl
theorem isE_no {l : List UInt8} (h : l ≠ []) : (bs l).toList.isEmpty = false := by
  rw [ByteArray.toList_eq, bs_list]
  cases l with
  | nil => exact absurd rfl h
  | cons a t => rfl
set_option maxHeartbeats 1000000 in
theorem l04Verify_any (k : Option Addr) (kc : Nat) (ks : List Int) (h8 : ks.length ≤ 8) (hkv : ∀ z ∈ ks, kindB z = true) (r : Int) (zs : List Ins) (a : Option Addr) (c : Nat) (hn : zs.length ≤ 40) (hok : ∀ j, j < zs.length → okB (zs.getD j (0, 0)).1 (zs.getD j (0, 0)).2 = true)
    (w : World) (hk : Lies w k (kC ks)) (hz : Lies w a (flat insC zs)) :
    Calls Tryz.prog 165 #[.slice a zs.length c, .slice k ks.length kc, .int .i64 r] w fun e w' => e = .returned (.tuple #[.int .i64 (vVer zs ks r).1, .int .i64 (vVer zs ks r).2]) ∧ Below w.heap.size w w' := by
  have hb0 : Below w.heap.size w (w.alloc (swO ⟨#[]⟩ none 0 0)) := (Below.refl _ _).alloc (Nat.le_refl _) _
  have hs0 : SStat w.heap.size w.heap.size ⟨[], []⟩ (w.alloc (swO ⟨#[]⟩ none 0 0)) := ⟨none, 0, 0, Nat.le_refl _, heap_alloc_new w _, World.ownsRow_nil _ _ _ _⟩
  have HB0 := Lib.hid hb0
  have HS0 := Lib.hid hs0
  have HK := Lib.hid hk
  have HZ := Lib.hid hz
  have HKV := Lib.hid hkv
  have HO := Lib.hid hok
  have H8 := Lib.hid h8
  obtain ⟨R, hR⟩ : ∃ R, vRun ks r zs 0 ⟨[], []⟩ = R := ⟨_, rfl⟩
  have HR : Hid (vRun ks r (zs.drop 0) 0 ⟨[], []⟩ = R) := Lib.hid hR
  obtain ⟨V, hV⟩ : ∃ V, vVer zs ks r = V := ⟨_, rfl⟩
  have HV := Lib.hid hV
  have HE : Hid (R.2.1 = 0 → R.2.2 = zs.length) := Lib.hid (fun h => by rw [← hR] at h ⊢; rw [vRun_end zs 0 ⟨[], []⟩ h]; omega)
  have HVP : Hid (R.2.1 ≠ 0 → V = (((R.2.2 : Nat) : Int), R.2.1)) := Lib.hid (fun h => by rw [← hR] at h ⊢; rw [← hV]; exact vVer_pass h)
  have HVF : Hid (R.2.1 = 0 → V = finC R.1 zs.length) := Lib.hid (fun h => by rw [← hR] at h ⊢; rw [← hV]; exact vVer_fin h)
  rw [hV]
  clear hb0 hs0 hk hz hkv hok hR hV h8
  generalize hL : zs.length = n at *
  have HL := Lib.hid hL
  clear hL
  go_enter Tryz.func165, Tryz.ntmps165
  go_wp2
  go_loopw [9] (fun i wr => ∃ (j : Nat) (v : VW), j ≤ n ∧ i = .int .i64 j ∧ Hid (vRun ks r (zs.drop j) j v = R) ∧ Hid (SStat w.heap.size w.heap.size v wr) ∧ Hid v.pre ∧ Hid (Below w.heap.size w wr)) (fun i _ => n - (intOf i).toNat)
  case atStart => exact ⟨0, ⟨[], []⟩, Nat.zero_le _, rfl, HR, HS0, Lib.hid pre_start, HB0⟩
  case round =>
    obtain ⟨j, v, hj, rfl, hr, hs, hp, hb⟩ := hrel
    by_cases hlt : j < n
    · obtain ⟨b, o, rfl, hbl, hcs⟩ := HZ.out.open (by rw [flat_len insC_len, HL.out]; omega)
      obtain ⟨c0, c1⟩ := ins_at hcs (i := j) (by rw [HL.out]; exact hlt)
      have d0 := (hb.out.cell (p := ⟨b, o + j * 2, none⟩) hbl).trans c0
      have d1 := (hb.out.cell (p := ⟨b, o + j * 2 + 1, none⟩) hbl).trans c1
      have hx := HO.out j hlt
      have hv := vRun_step (ks := ks) (r := r) (zs := zs) (j := j) (by rw [HL.out]; exact hlt) v
      rw [hr.out] at hv
      clear hcs c0 c1 hr
      generalize (zs.getD j (0, 0)).1 = x at *
      generalize (zs.getD j (0, 0)).2 = y at *
      have HC := Lib.hid (sstep_any (kc := kc) (r := r) (i := j) hs.out hp.out x y hx HKV.out H8.out (HK.out.below hb.out (Nat.le_refl _)))
      by_cases h0 : (vStep ks r (x, y) j v).2 = 0
      · rw [if_pos h0] at hv
        have HV1 := Lib.hid hv
        have HP := Lib.hid (pre_step hp.out h0)
        have H0 := Lib.hid h0
        clear hv h0 hx hs hp
        go_wp2_with fail
        refine Calls.mono HC.out ?_
        rintro e w2 ⟨hb2, rfl, hs2⟩
        have HB2 := Lib.hid (hb.out.trans hb2)
        have HS2 := Lib.hid (hs2 H0.out)
        have h0 := H0.out
        clear hb2 hs2 d0 d1
        go_wp2
        go_roundw
        case rel => exact ⟨j + 1, (vStep ks r (x, y) j v).1, by omega, by go_num, Lib.hid HV1.out.symm, HS2, HP, HB2⟩
        case measure => simp [intOf]; omega
      · rw [if_neg h0] at hv
        have HV1 := Lib.hid hv
        have hq : ((vStep ks r (x, y) j v).2 != 0) = true := by rw [bne_iff_ne]; exact h0
        have H0 := Lib.hid h0
        clear hv h0 hx hs hp
        go_wp2_with fail
        refine Calls.mono HC.out ?_
        rintro e w2 ⟨hb2, rfl, hs2⟩
        have HB2 := Lib.hid (hb.out.trans hb2)
        clear hb2 hs2 d0 d1
        go_wp2
        go_ret2
        have e1 := HVP.out (by rw [HV1.out]; exact H0.out)
        rw [HV1.out] at e1
        exact ⟨ret_ii2 (by rw [e1]) (by rw [e1]), HB2.out⟩
    · obtain rfl : j = n := by omega
      have hVV : R = (v, 0, j) := by rw [← hr.out, List.drop_eq_nil_of_le (by rw [HL.out]; exact Nat.le_refl _)]; rfl
      have hfin := HVF.out (by rw [hVV])
      rw [hVV] at hfin
      obtain ⟨a', n', c', h⟩ := hs.out
      have HFIN := Lib.hid hfin
      obtain ⟨st, opn⟩ := v
      have c0 := h.cells.1
      have c1 := h.cells.2
      have ho := h.olen
      rcases opn_cases opn with rfl | ⟨os, oo, rfl⟩
      · simp at ho
        subst ho
        by_cases hst : st = []
        · subst hst
          have e1 : Hid (V = (0, 0)) := Lib.hid (by rw [HFIN.out]; unfold finC; simp)
          have c0' : wr.cell? ⟨w.heap.size, 0, none⟩ = some (.string ⟨#[]⟩) := c0
          clear hr hVV hfin h c0
          go_wp2
          go_ret2
          exact ⟨ret_ii2 (by rw [e1.out]) (by rw [e1.out]), hb.out⟩
        · have e1 : Hid (V = ((j : Int), 13)) := Lib.hid (by rw [HFIN.out]; unfold finC; simp [hst])
          have q1 := isE_no hst
          have q2 : (!(bs st).toList.isEmpty) = true := by rw [q1]; rfl
          clear hr hVV hfin h hst
          generalize bs st = Sb at *
          go_wp2
          go_ret2
          exact ⟨ret_ii2 (by rw [e1.out]) (by rw [e1.out]), hb.out⟩
      · have e1 : Hid (V = (oo.pos, 14)) := Lib.hid (by rw [HFIN.out]; unfold finC; simp)
        obtain ⟨g, m, rfl, rfl, hm, hc⟩ := h.row
        have k0 := h.last.1
        have h4 := hp.out.o4
        simp at h4 hm
        have hm4 : m + 1 ≤ 4 := by omega
        have hgt : decide ((m : Int) + 1 > 0) = true := decide_eq_true (by omega)
        clear hr hVV hfin h h4 hm ho
        go_wp2
        go_quiet (fail)
        go_wp2
        go_ret2
        exact ⟨ret_ii2 (by rw [e1.out]) (by rw [e1.out]), bel_dn hb.out _⟩
end Go.Proofs.YtppgknjpbfopjaaGreatDoor
namespace Go.Proofs.YtppgknjpbfopjaaGreatDoor
open Go.ChangeShapes Go.WideShapes Go.ChangeAt Go.RowKit
end Go.Proofs.YtppgknjpbfopjaaGreatDoor
