/- ReadFrame of impl and of spec compute the same function. -/
import Derived.Test.YtlohjeidaemejaaDoorTake
import Derived.Test.YtlohjeidaemejaaDoorSum
import Derived.Test.YtlohjeidaemejaaDoorClone
import Derived.Deep.QuietTactic
import Derived.BigQuiet
namespace Go.Proofs.YtlohjeidaemejaaDoor
open Go.ChangeShapes Go.WideShapes Go.ChangeAt Go.RowKit Go.PlainAid
def markB (s : ByteArray) : Bool := (s.extract 0 4).toList == [80, 76, 67, 49]
theorem prefix_mark (s : ByteArray) (h : 4 ≤ s.size) : Lib.hasPrefix s.data.toList [80, 76, 67, 49] = markB s := by
  rw [← Lib.hasPrefix_of_take]
  unfold markB
  rw [Lib.extract_toList]
  simp
  intro _
  exact h
def sumE (s : ByteArray) : Int := sumTo (s.extract 0 (s.size - 2)) (s.size - 2)
/-- The code of ReadFrame for a text that is not too long. -/
def rfC (s : ByteArray) : Int :=
  if s.size < 10 then 16 else if markB s = false then 3 else if takeF s 4 4 ≠ (s.size : Int) - 10 then 8 else if takeF s (s.size - 2) 2 ≠ sumE s then 9 else 0
def rfS (s : ByteArray) : ByteArray := if rfC s = 0 then s.extract 8 (s.size - 2) else ⟨#[]⟩
theorem rfC_16 {s : ByteArray} (h : s.size < 10) : rfC s = 16 := if_pos h
theorem rfC_3 {s : ByteArray} (h : ¬ s.size < 10) (g : markB s = false) : rfC s = 3 := by unfold rfC; rw [if_neg h, if_pos g]
theorem rfC_8 {s : ByteArray} (h : ¬ s.size < 10) (g : markB s = true) (k : takeF s 4 4 ≠ (s.size : Int) - 10) : rfC s = 8 := by unfold rfC; rw [if_neg h, if_neg (by simp [g]), if_pos k]
theorem rfC_9 {s : ByteArray} (h : ¬ s.size < 10) (g : markB s = true) (k : ¬ takeF s 4 4 ≠ (s.size : Int) - 10) (l : takeF s (s.size - 2) 2 ≠ sumE s) : rfC s = 9 := by unfold rfC; rw [if_neg h, if_neg (by simp [g]), if_neg k, if_pos l]
theorem rfC_0 {s : ByteArray} (h : ¬ s.size < 10) (g : markB s = true) (k : ¬ takeF s 4 4 ≠ (s.size : Int) - 10) (l : ¬ takeF s (s.size - 2) 2 ≠ sumE s) : rfC s = 0 := by unfold rfC; rw [if_neg h, if_neg (by simp [g]), if_neg k, if_neg l]
theorem rfS_0 {s : ByteArray} (h : rfC s = 0) : rfS s = s.extract 8 (s.size - 2) := if_pos h
theorem rfS_no {s : ByteArray} (h : rfC s ≠ 0) : rfS s = ⟨#[]⟩ := if_neg h
theorem ext_size (s : ByteArray) (m : Nat) (h : m ≤ s.size) : (s.extract 0 m).size = m := by rw [ByteArray.size_extract]; omega
theorem l01SumX (s : ByteArray) (hs : s.size ≤ 65536) (m : Nat) (h : m ≤ s.size) (w : World) : Calls Tryd.prog 45 #[.string (s.extract 0 m)] w fun e w' => e = .returned (.int .i64 (sumTo (s.extract 0 m) m)) ∧ w' = w :=
  (l01Sum_any (s.extract 0 m) w (by rw [ext_size s m h]; unfold maxLen; omega)).mono fun _ _ x => ⟨by rw [x.1, ext_size s m h], x.2.symm⟩
theorem sumOfX (s : ByteArray) (hs : s.size ≤ 65536) (m : Nat) (h : m ≤ s.size) (w : World) : Calls Tryd.prog 23 #[.string (s.extract 0 m)] w fun e w' => e = .returned (.int .i64 (sumTo (s.extract 0 m) m)) ∧ w' = w :=
  (sumOf_any (s.extract 0 m) w (by rw [ext_size s m h]; unfold maxLen; omega)).mono fun _ _ x => ⟨by rw [x.1, sumF_fits (by rw [ext_size s m h]; omega), ext_size s m h], x.2.symm⟩
theorem l01ReadFrame_any (s : ByteArray) (hs : s.size ≤ 65536) (w : World) : Calls Tryd.prog 43 #[.string s] w fun e w' => e = .returned (.tuple #[.string (rfS s), .int .i64 (rfC s)]) ∧ Below w.heap.size w w' := by
  by_cases h10 : s.size < 10
  · have hc := rfC_16 h10
    have H := Lib.hid (And.intro (rfS_no (s := s) (by rw [hc]; decide)) hc)
    clear hc
    go_enter Tryd.func43, Tryd.ntmps43
    go_wp2
    go_ret2
    exact ⟨ret2_si' (by rw [H.out.1]) (by rw [H.out.2]), Below.refl _ _⟩
  have H10 := Lib.hid h10
  have g10 : 10 ≤ s.size := by omega
  clear h10
  cases hk : markB s
  · have hc := rfC_3 H10.out hk
    have H := Lib.hid (And.intro (rfS_no (s := s) (by rw [hc]; decide)) hc)
    have hm : ((s.extract 0 4).toList == [80, 76, 67, 49]) = false := hk
    clear hc hk
    go_enter Tryd.func43, Tryd.ntmps43
    go_wp2
    go_ret2
    exact ⟨ret2_si' (by rw [H.out.1]) (by rw [H.out.2]), Below.refl _ _⟩
  have hm : ((s.extract 0 4).toList == [80, 76, 67, 49]) = true := hk
  have Hk := Lib.hid hk
  clear hk
  by_cases hz : takeF s 4 4 ≠ (s.size : Int) - 10
  · have hc := rfC_8 H10.out Hk.out hz
    have H := Lib.hid (And.intro (rfS_no (s := s) (by rw [hc]; decide)) hc)
    have hz1 : (takeF s 4 4 != (s.size : Int) - 10) = true := by rw [bne_iff_ne]; exact hz
    clear hc hz
    go_enter Tryd.func43, Tryd.ntmps43
    go_wp2_with (go_at_call 47; refine (l01Take_any s (by omega) 4 4 rfl (by omega) _).mono ?_; rintro e w' ⟨rfl, rfl⟩)
    go_ret2
    exact ⟨ret2_si' (by rw [H.out.1]) (by rw [H.out.2]), Below.refl _ _⟩
  have Hz := Lib.hid hz
  have hz1 : (takeF s 4 4 != (s.size : Int) - 10) = false := by rw [bne_eq_false_iff_eq]; exact Classical.not_not.1 hz
  clear hz
  obtain ⟨m, hsm⟩ : ∃ m, s.size = m + 2 := ⟨s.size - 2, by omega⟩
  have Hsm := Lib.hid hsm
  have m1 : m + 2 ≤ s.size := by omega
  have m2 : s.size ≤ m + 2 := by omega
  have hw : IntKind.i64.wrap ((s.size : Int) - 2) = (m : Int) := by rw [IntWalk.i64_in _ (by omega)]; omega
  have hms : Hid (s.size - 2 = m) := Lib.hid (by omega)
  clear hsm
  by_cases hq : takeF s m 2 = sumTo (s.extract 0 m) m
  · have hq1 : (takeF s m 2 != sumTo (s.extract 0 m) m) = false := by rw [bne_eq_false_iff_eq]; exact hq
    have hc := rfC_0 H10.out Hk.out Hz.out (by unfold sumE; rw [hms.out]; exact fun x => x hq)
    have H := Lib.hid (And.intro (rfS_0 hc) hc)
    clear hc hq
    go_enter Tryd.func43, Tryd.ntmps43
    go_wp2_with (go_at_call 47; refine (l01Take_any s (by omega) 4 4 rfl (by omega) _).mono ?_; rintro e w' ⟨rfl, rfl⟩)
    go_quiet ((first | (go_at_call 47; exact Calls.quiet_of_same ((l01Take_any s (by omega) m 2 rfl (by omega) _).mono fun _ _ x => ⟨x.1, x.2.symm⟩)) | (go_at_call 45; exact Calls.quiet_of_same (l01SumX s hs m (by omega) _))))
    go_wp2
    go_ret2
    exact ⟨ret2_si' (by rw [H.out.1, hms.out]) (by rw [H.out.2]), below_drewN (Below.refl _ _) _⟩
  · have hq1 : (takeF s m 2 != sumTo (s.extract 0 m) m) = true := by rw [bne_iff_ne]; exact hq
    have hc := rfC_9 H10.out Hk.out Hz.out (by unfold sumE; rw [hms.out]; exact hq)
    have H := Lib.hid (And.intro (rfS_no (s := s) (by rw [hc]; decide)) hc)
    clear hc hq
    go_enter Tryd.func43, Tryd.ntmps43
    go_wp2_with (go_at_call 47; refine (l01Take_any s (by omega) 4 4 rfl (by omega) _).mono ?_; rintro e w' ⟨rfl, rfl⟩)
    go_quiet ((first | (go_at_call 47; exact Calls.quiet_of_same ((l01Take_any s (by omega) m 2 rfl (by omega) _).mono fun _ _ x => ⟨x.1, x.2.symm⟩)) | (go_at_call 45; exact Calls.quiet_of_same (l01SumX s hs m (by omega) _))))
    go_wp2
    go_ret2
    exact ⟨ret2_si' (by rw [H.out.1]) (by rw [H.out.2]), below_drewN (Below.refl _ _) _⟩
theorem takeN4 (s : ByteArray) (h : 10 ≤ s.size) : takeN s 4 4 = takeF s 4 4 := takeN_ok (s := s) (at_ := 4) (size := 4) rfl (by omega)
theorem takeN2 (s : ByteArray) (m : Nat) (h : m + 2 ≤ s.size) : takeN s (m : Int) 2 = takeF s m 2 := by
  rw [takeN_ok (s := s) (at_ := (m : Int)) (size := 2) rfl (by omega), Int.toNat_natCast]
/-- What ReadFrame answers. -/
def rdC (s : ByteArray) : Int := if s.size ≤ 65536 then rfC s else 2
def rdS (s : ByteArray) : ByteArray := if s.size ≤ 65536 then rfS s else ⟨#[]⟩
theorem rdC_in {s : ByteArray} (h : s.size ≤ 65536) : rdC s = rfC s := if_pos h
theorem rdS_in {s : ByteArray} (h : s.size ≤ 65536) : rdS s = rfS s := if_pos h
theorem rdC_long {s : ByteArray} (h : ¬ s.size ≤ 65536) : rdC s = 2 := if_neg h
theorem rdS_long {s : ByteArray} (h : ¬ s.size ≤ 65536) : rdS s = ⟨#[]⟩ := if_neg h
theorem specReadFrame_any (s : ByteArray) (hm : s.size ≤ maxLen) (w : World) : Calls Tryd.prog 20 #[.string s] w fun e w' => e = .returned (.tuple #[.string (rdS s), .int .i64 (rdC s)]) ∧ Below w.heap.size w w' := by
  have hb : (s.size : Int) ≤ 9223372036854775807 := by unfold maxLen at hm; omega
  by_cases hl : s.size ≤ 65536
  · have H := Lib.hid (And.intro (rdS_in hl) (rdC_in hl))
    go_enter Tryd.func20, Tryd.ntmps20
    go_wp2_with (go_at_call 43; refine (l01ReadFrame_any s hl _).mono ?_; rintro e w1 ⟨rfl, hb1⟩)
    go_ret2
    exact ⟨ret2_si' (by rw [H.out.1]) (by rw [H.out.2]), hb1⟩
  · have H := Lib.hid (And.intro (rdS_long hl) (rdC_long hl))
    go_enter Tryd.func20, Tryd.ntmps20
    go_wp2
    go_ret2
    exact ⟨ret2_si' (by rw [H.out.1]) (by rw [H.out.2]), Below.refl _ _⟩
theorem readFrame_in (s : ByteArray) (hs : s.size ≤ 65536) (a b : Addr) (w : World) (hS : Sent w a b) : Calls Tryd.prog 19 #[.string s] w fun e w' => e = .returned (.tuple #[.string (rfS s), .int .i64 (rfC s)]) ∧ Below w.heap.size w w' := by
  have HS := Lib.hid hS
  clear hS
  by_cases h10 : s.size < 10
  · have hc := rfC_16 h10
    have H := Lib.hid (And.intro (rfS_no (s := s) (by rw [hc]; decide)) hc)
    clear hc
    go_enter Tryd.func19, Tryd.ntmps19
    go_wp2
    go_ret2
    exact ⟨ret2_si' (by rw [H.out.1]) (by rw [H.out.2]), Below.refl _ _⟩
  have H10 := Lib.hid h10
  have g10 : 10 ≤ s.size := by omega
  clear h10
  have Hp := Lib.hid (prefix_mark s (by omega))
  cases hk : markB s
  · have hc := rfC_3 H10.out hk
    have H := Lib.hid (And.intro (rfS_no (s := s) (by rw [hc]; decide)) hc)
    have hm : Lib.hasPrefix s.data.toList [80, 76, 67, 49] = false := Hp.out.trans hk
    clear hc hk
    go_enter Tryd.func19, Tryd.ntmps19
    go_wp2_with (go_at_call 41; refine (strings_HasPrefix _ _ _).mono ?_; rintro e w' ⟨rfl, rfl⟩)
    go_ret2
    exact ⟨ret2_si' (by rw [H.out.1]) (by rw [H.out.2]), Below.refl _ _⟩
  have hm : Lib.hasPrefix s.data.toList [80, 76, 67, 49] = true := Hp.out.trans hk
  have Hk := Lib.hid hk
  have H4 := Lib.hid (takeN4 s g10)
  clear hk
  by_cases hz : takeF s 4 4 ≠ (s.size : Int) - 10
  · have hc := rfC_8 H10.out Hk.out hz
    have H := Lib.hid (And.intro (rfS_no (s := s) (by rw [hc]; decide)) hc)
    have hz1 : (takeF s 4 4 != (s.size : Int) - 10) = true := by rw [bne_iff_ne]; exact hz
    clear hc hz
    go_enter Tryd.func19, Tryd.ntmps19
    go_wp2_with first | (go_at_call 41; refine (strings_HasPrefix _ _ _).mono ?_; rintro e w' ⟨rfl, rfl⟩) | (go_at_call 16; refine (takeNumber_any s hs 4 4 a b _ HS.out).mono ?_; rintro e w1 ⟨rfl, hb1⟩; rw [H4.out])
    go_ret2
    exact ⟨ret2_si' (by rw [H.out.1]) (by rw [H.out.2]), hb1⟩
  have Hz := Lib.hid hz
  have hz1 : (takeF s 4 4 != (s.size : Int) - 10) = false := by rw [bne_eq_false_iff_eq]; exact Classical.not_not.1 hz
  clear hz
  obtain ⟨m, hsm⟩ : ∃ m, s.size = m + 2 := ⟨s.size - 2, by omega⟩
  have m1 : m + 2 ≤ s.size := by omega
  have m2 : s.size ≤ m + 2 := by omega
  have hw : (s.size : Int) - 2 = (m : Int) := by omega
  have hms : Hid (s.size - 2 = m) := Lib.hid (by omega)
  have H2 := Lib.hid (takeN2 s m m1)
  clear hsm
  by_cases hq : takeF s m 2 = sumTo (s.extract 0 m) m
  · have hq1 : (takeF s m 2 != sumTo (s.extract 0 m) m) = false := by rw [bne_eq_false_iff_eq]; exact hq
    have hc := rfC_0 H10.out Hk.out Hz.out (by unfold sumE; rw [hms.out]; exact fun x => x hq)
    have H := Lib.hid (And.intro (rfS_0 hc) hc)
    clear hc hq
    go_enter Tryd.func19, Tryd.ntmps19
    go_wp2_with (go_at_call 41; refine (strings_HasPrefix _ _ _).mono ?_; rintro e w' ⟨rfl, rfl⟩)
    refine (takeNumber_any s hs 4 4 a b _ HS.out).mono ?_
    rintro e w1 ⟨rfl, hb1⟩
    have Hb1 := Lib.hid hb1
    clear hb1
    rw [H4.out]
    go_wp2_with fail
    refine (takeNumber_any s hs (m : Int) 2 a b _ (HS.out.below Hb1.out)).mono ?_
    rintro e w2 ⟨rfl, hb2⟩
    have Hb2 := Lib.hid (Hb1.out.trans (hb2.mono Hb1.out.size))
    clear hb2
    rw [H2.out]
    go_wp2_with fail
    refine (sumOfX s hs m (by omega) _).mono ?_
    rintro e w3 ⟨rfl, rfl⟩
    go_wp2_with fail
    refine (strings_Clone _ _ (by rw [ByteArray.size_extract]; omega)).mono ?_
    rintro e w3 ⟨rfl, hb3⟩
    have Hb3 := Lib.hid (Hb2.out.trans (hb3.mono Hb2.out.size))
    clear hb3
    go_wp2
    go_ret2
    exact ⟨ret2_si' (by rw [H.out.1, hms.out]) (by rw [H.out.2]), Hb3.out⟩
  · have hq1 : (takeF s m 2 != sumTo (s.extract 0 m) m) = true := by rw [bne_iff_ne]; exact hq
    have hc := rfC_9 H10.out Hk.out Hz.out (by unfold sumE; rw [hms.out]; exact hq)
    have H := Lib.hid (And.intro (rfS_no (s := s) (by rw [hc]; decide)) hc)
    clear hc hq
    go_enter Tryd.func19, Tryd.ntmps19
    go_wp2_with (go_at_call 41; refine (strings_HasPrefix _ _ _).mono ?_; rintro e w' ⟨rfl, rfl⟩)
    refine (takeNumber_any s hs 4 4 a b _ HS.out).mono ?_
    rintro e w1 ⟨rfl, hb1⟩
    have Hb1 := Lib.hid hb1
    clear hb1
    rw [H4.out]
    go_wp2_with fail
    refine (takeNumber_any s hs (m : Int) 2 a b _ (HS.out.below Hb1.out)).mono ?_
    rintro e w2 ⟨rfl, hb2⟩
    have Hb2 := Lib.hid (Hb1.out.trans (hb2.mono Hb1.out.size))
    clear hb2
    rw [H2.out]
    go_wp2_with fail
    refine (sumOfX s hs m (by omega) _).mono ?_
    rintro e w3 ⟨rfl, rfl⟩
    go_wp2
    go_ret2
    exact ⟨ret2_si' (by rw [H.out.1]) (by rw [H.out.2]), Hb2.out⟩
theorem readFrame_any (s : ByteArray) (hm : s.size ≤ maxLen) (a b : Addr) (w : World) (hS : Sent w a b) : Calls Tryd.prog 19 #[.string s] w fun e w' => e = .returned (.tuple #[.string (rdS s), .int .i64 (rdC s)]) ∧ Below w.heap.size w w' := by
  by_cases hl : s.size ≤ 65536
  · rw [rdS_in hl, rdC_in hl]
    exact readFrame_in s hl a b w hS
  · have hb : (s.size : Int) ≤ 9223372036854775807 := by unfold maxLen at hm; omega
    have H := Lib.hid (And.intro (rdS_long hl) (rdC_long hl))
    clear hS
    go_enter Tryd.func19, Tryd.ntmps19
    go_wp2
    go_ret2
    exact ⟨ret2_si' (by rw [H.out.1]) (by rw [H.out.2]), Below.refl _ _⟩
theorem FnExactReadFrame_walk (s : ByteArray) (hm : s.size ≤ maxLen) (w : World) (ht : ∃ a b, Sent w a b) : Calls Tryd.prog 10 #[.string s] w fun e w' => e = .returned (.bool true) ∧ Below w.heap.size w w' := by
  obtain ⟨a, b, hS⟩ := ht
  have hb : (s.size : Int) ≤ 9223372036854775807 := by unfold maxLen at hm; omega
  have HS := Lib.hid hS
  clear hS
  by_cases hl : 1048576 < s.size
  · go_enter Tryd.func10, Tryd.ntmps10
    go_wp2
    go_ret
    exact ⟨rfl, Below.refl _ _⟩
  go_enter Tryd.func10, Tryd.ntmps10
  go_wp2_with fail
  refine (specReadFrame_any s hm w).mono ?_
  rintro e w1 ⟨rfl, hb1⟩
  have Hb1 := Lib.hid hb1
  clear hb1
  go_wp2_with fail
  refine (readFrame_any s hm a b w1 (HS.out.below Hb1.out)).mono ?_
  rintro e w2 ⟨rfl, hb2⟩
  go_wp2
  go_ret
  exact ⟨rfl, Hb1.out.trans (hb2.mono Hb1.out.size)⟩
end Go.Proofs.YtlohjeidaemejaaDoor
