/- strings.Clone hands back the same bytes; strings.HasPrefix. -/
import Derived.Test.YtmpppfibeoghaaaGreatDoorRows
import Derived.WalkKit
import Derived.ProofKit
import Derived.Lib.Strings
import Derived.Lib.Walk
import Derived.Lib.BufferWrite
import Derived.Lib.UnsafeStr
import Derived.Lib.Hide
import Derived.Laws.MakeOwn
import Derived.Below
import Derived.Test.YtmpppfibeoghaaaGreatDoorTake
import Derived.Test.YtmpppfibeoghaaaGreatDoorSum
import Derived.Deep.QuietTactic
import Derived.BigQuiet
namespace Go.Proofs.YtmpppfibeoghaaaGreatDoor
open Go.RowKit
set_option maxHeartbeats 1000000 in
set_option maxRecDepth 100000 in
theorem stringslite_Clone (s : ByteArray) (w : World) (hlim : s.size ≤ 281474976710656) :
    Calls Tryz.prog 131 #[.string s] w fun e w' => e = .returned (.string s) ∧ Below w.heap.size w w' := by
  by_cases h0 : s.size = 0
  · have hs : s = ⟨#[]⟩ := by
      apply ByteArray.ext
      exact Array.eq_empty_of_size_eq_zero h0
    subst hs
    go_enter Tryz.func131, Tryz.ntmps131
    go_wp2
    go_ret
    exact ⟨rfl, Below.refl _ _⟩
  · obtain ⟨i0, hi, hz0, hz1, hz2⟩ := info_parts (show (Tryz.prog.info? 5).map (fun i => (i.zero, i.size, i.bytes)) = some (some (.int .u8 0), 1, 1) by kernel_rfl)
    have hinfo : (Tryz.prog.info? 5).map (·.size) = some 1 := by rw [hi]; simp [hz1]
    have hco : Tryz.prog.cellsOf 5 = 1 := by simp [Program.cellsOf, hi, hz1]
    obtain ⟨M, hM⟩ : ∃ M, M = madeCells (Value.int .u8 0).cells (((s.size : Nat) : Int).toNat * i0.size) := ⟨_, rfl⟩
    have hMs : M.size = s.size := by rw [hM, size_madeCells, hz1]; simp
    have hmk : ∀ W : World, (Instr.makeSlice 22 (.int .i64 (s.size : Int)) (.int .i64 (s.size : Int))).run Tryz.prog W = .ok (.slice (some ⟨W.heap.size, 0, none⟩) s.size s.size) (W.alloc (.cells M 5)) := fun W => by
      have h := run_make (P := Tryz.prog) W 22 5 i0 (.int .u8 0) Tryz.underlying22 hi hz0 .i64 .i64 (s.size : Int) (s.size : Int) (by omega) (by omega) (by rw [hz2]; omega) (by omega)
      rw [← hM] at h
      simpa using h
    clear hM
    have hcp := Lib.run_copy_row_string (P := Tryz.prog) (w.alloc (.cells M 5)) 22 9 3 5 w.heap.size 0 s.size s.size s M 5 Tryz.underlying22 hinfo (heap_alloc_new w _) (Nat.le_refl _) (by omega)
    obtain ⟨Y, hY⟩ : ∃ Y, Y = (M.toList.take 0 ++ Lib.byteCells s.data.toList ++ M.toList.drop (0 + s.size)).toArray := ⟨_, rfl⟩
    rw [← hY] at hcp
    have hYl : Y.toList = Lib.byteCells s.data.toList := by
      rw [hY, List.toList_toArray, List.take_zero, List.nil_append, List.drop_of_length_le (by rw [Array.length_toList]; omega), List.append_nil]
    have hYs : Y.size = s.size := by rw [← Array.length_toList, hYl, Lib.byteCells_length, ← Lib.size_eq]
    have hgY : ((w.alloc (.cells M 5)).setRow w.heap.size Y).heap[w.heap.size]? = some (.cells Y 5 (0, 0)) := setRow_heap _ _ M _ 5 (0, 0) (heap_alloc_new w _)
    have hne : s.data.toList ≠ [] := fun e => h0 (by rw [Lib.size_eq, e]; rfl)
    have hUS := Lib.run_unsafeString_row (P := Tryz.prog) ((w.alloc (.cells M 5)).setRow w.heap.size Y) 186 3 9 5 Tryz.underlying186 hco w.heap.size Y.size (by unfold World.shape?; rw [hgY]) s.data.toList hne (by rw [← Lib.size_eq]; omega) (by rw [← Lib.size_eq]; omega)
      (fun j x hx => Lib.cells_of_row hgY Y.size j _ (by rw [List.take_of_length_le (by rw [Array.length_toList]; exact Nat.le_refl _), hYl]; simp [Lib.byteCells, hx]))
    rw [← Lib.size_eq] at hUS
    clear hY
    go_enter Tryz.func131, Tryz.ntmps131
    go_wp2
    go_ret
    have hb1 : Below w.heap.size w (w.alloc (.cells M 5)) := (Below.refl _ w).alloc (Nat.le_refl _) _
    have hb2 : Below w.heap.size (w.alloc (.cells M 5)) ((w.alloc (.cells M 5)).setRow w.heap.size Y) := ⟨rfl, rfl, rfl, by simp, fun k hk => setRow_other _ _ _ _ (by omega)⟩
    exact ⟨rfl, Lib.below_freeze (hb1.trans hb2) (p := ⟨w.heap.size, 0, none⟩) (Nat.le_refl _) _⟩
theorem strings_Clone (s : ByteArray) (w : World) (hlim : s.size ≤ 281474976710656) :
    Calls Tryz.prog 87 #[.string s] w fun e w' => e = .returned (.string s) ∧ Below w.heap.size w w' := by
  go_enter Tryz.func87, Tryz.ntmps87
  go_wp2_with (go_at_call 131; refine (stringslite_Clone _ _ hlim).mono ?_; rintro e w' ⟨rfl, hb⟩)
  go_ret
  exact ⟨rfl, hb⟩
theorem strings_HasPrefix (s p : ByteArray) (w : World) :
    Calls Tryz.prog 85 #[.string s, .string p] w fun e w' => e = .returned (.bool (Lib.hasPrefix s.data.toList p.data.toList)) ∧ w = w' := by
  rw [← Lib.hasPrefix_of_take, ← Lib.size_eq, ← Lib.size_eq]
  go_enter Tryz.func85, Tryz.ntmps85
  go_wp2
  · rename_i h
    go_ret
    refine ⟨?_, rfl⟩
    show Ending.returned (Value.bool ((s.extract 0 p.size).toList == p.toList)) = _
    rw [Lib.extract_toList, Lib.toList_data]
    simp [h]
  · rename_i h
    go_ret
    refine ⟨?_, rfl⟩
    show Ending.returned (Value.bool false) = _
    simp [h]
end Go.Proofs.YtmpppfibeoghaaaGreatDoor
namespace Go.Proofs.YtmpppfibeoghaaaGreatDoor
open Go.ChangeShapes Go.WideShapes Go.ChangeAt Go.RowKit Go.PlainAid
def markB (s : ByteArray) : Bool := (s.extract 0 4).toList == [80, 76, 67, 49]
theorem prefix_mark (s : ByteArray) (h : 4 ≤ s.size) : Lib.hasPrefix s.data.toList [80, 76, 67, 49] = markB s := by
  rw [← Lib.hasPrefix_of_take]
  unfold markB
  rw [Lib.extract_toList]
  simp
  intro _
  exact h
def sumE (s : ByteArray) : Int := sumTo (s.extract 0 (s.size - 2)) (s.size - 2)
/-- The code of ReadFrame for a text that is not too long. -/
def rfC (s : ByteArray) : Int :=
  if s.size < 10 then 16 else if markB s = false then 3 else if takeF s 4 4 ≠ (s.size : Int) - 10 then 8 else if takeF s (s.size - 2) 2 ≠ sumE s then 9 else 0
def rfS (s : ByteArray) : ByteArray := if rfC s = 0 then s.extract 8 (s.size - 2) else ⟨#[]⟩
theorem rfC_16 {s : ByteArray} (h : s.size < 10) : rfC s = 16 := if_pos h
theorem rfC_3 {s : ByteArray} (h : ¬ s.size < 10) (g : markB s = false) : rfC s = 3 := by unfold rfC; rw [if_neg h, if_pos g]
theorem rfC_8 {s : ByteArray} (h : ¬ s.size < 10) (g : markB s = true) (k : takeF s 4 4 ≠ (s.size : Int) - 10) : rfC s = 8 := by unfold rfC; rw [if_neg h, if_neg (by simp [g]), if_pos k]
theorem rfC_9 {s : ByteArray} (h : ¬ s.size < 10) (g : markB s = true) (k : ¬ takeF s 4 4 ≠ (s.size : Int) - 10) (l : takeF s (s.size - 2) 2 ≠ sumE s) : rfC s = 9 := by unfold rfC; rw [if_neg h, if_neg (by simp [g]), if_neg k, if_pos l]
theorem rfC_0 {s : ByteArray} (h : ¬ s.size < 10) (g : markB s = true) (k : ¬ takeF s 4 4 ≠ (s.size : Int) - 10) (l : ¬ takeF s (s.size - 2) 2 ≠ sumE s) : rfC s = 0 := by unfold rfC; rw [if_neg h, if_neg (by simp [g]), if_neg k, if_neg l]
theorem rfS_0 {s : ByteArray} (h : rfC s = 0) : rfS s = s.extract 8 (s.size - 2) := if_pos h
theorem rfS_no {s : ByteArray} (h : rfC s ≠ 0) : rfS s = ⟨#[]⟩ := if_neg h
theorem ext_size (s : ByteArray) (m : Nat) (h : m ≤ s.size) : (s.extract 0 m).size = m := by rw [ByteArray.size_extract]; omega
theorem l01SumX (s : ByteArray) (hs : s.size ≤ 65536) (m : Nat) (h : m ≤ s.size) (w : World) : Calls Tryz.prog 127 #[.string (s.extract 0 m)] w fun e w' => e = .returned (.int .i64 (sumTo (s.extract 0 m) m)) ∧ w' = w :=
  (l01Sum_any (s.extract 0 m) w (by rw [ext_size s m h]; unfold maxLen; omega)).mono fun _ _ x => ⟨by rw [x.1, ext_size s m h], x.2.symm⟩
theorem sumOfX (s : ByteArray) (hs : s.size ≤ 65536) (m : Nat) (h : m ≤ s.size) (w : World) : Calls Tryz.prog 72 #[.string (s.extract 0 m)] w fun e w' => e = .returned (.int .i64 (sumTo (s.extract 0 m) m)) ∧ w' = w :=
  (sumOf_any (s.extract 0 m) w (by rw [ext_size s m h]; unfold maxLen; omega)).mono fun _ _ x => ⟨by rw [x.1, sumF_fits (by rw [ext_size s m h]; omega), ext_size s m h], x.2.symm⟩
theorem l01ReadFrame_any (s : ByteArray) (hs : s.size ≤ 65536) (w : World) : Calls Tryz.prog 98 #[.string s] w fun e w' => e = .returned (.tuple #[.string (rfS s), .int .i64 (rfC s)]) ∧ Below w.heap.size w w' := by
  by_cases h10 : s.size < 10
  · have hc := rfC_16 h10
    have H := Lib.hid (And.intro (rfS_no (s := s) (by rw [hc]; decide)) hc)
    clear hc
    go_enter Tryz.func98, Tryz.ntmps98
    go_wp2
    go_ret2
    exact ⟨ret2_si' (by rw [H.out.1]) (by rw [H.out.2]), Below.refl _ _⟩
  have H10 := Lib.hid h10
  have g10 : 10 ≤ s.size := by omega
  clear h10
  cases hk : markB s
  · have hc := rfC_3 H10.out hk
    have H := Lib.hid (And.intro (rfS_no (s := s) (by rw [hc]; decide)) hc)
    have hm : ((s.extract 0 4).toList == [80, 76, 67, 49]) = false := hk
    clear hc hk
    go_enter Tryz.func98, Tryz.ntmps98
    go_wp2
    go_ret2
    exact ⟨ret2_si' (by rw [H.out.1]) (by rw [H.out.2]), Below.refl _ _⟩
  have hm : ((s.extract 0 4).toList == [80, 76, 67, 49]) = true := hk
  have Hk := Lib.hid hk
  clear hk
  by_cases hz : takeF s 4 4 ≠ (s.size : Int) - 10
  · have hc := rfC_8 H10.out Hk.out hz
    have H := Lib.hid (And.intro (rfS_no (s := s) (by rw [hc]; decide)) hc)
    have hz1 : (takeF s 4 4 != (s.size : Int) - 10) = true := by rw [bne_iff_ne]; exact hz
    clear hc hz
    go_enter Tryz.func98, Tryz.ntmps98
    go_wp2_with (go_at_call 135; refine (l01Take_any s (by omega) 4 4 rfl (by omega) _).mono ?_; rintro e w' ⟨rfl, rfl⟩)
    go_ret2
    exact ⟨ret2_si' (by rw [H.out.1]) (by rw [H.out.2]), Below.refl _ _⟩
  have Hz := Lib.hid hz
  have hz1 : (takeF s 4 4 != (s.size : Int) - 10) = false := by rw [bne_eq_false_iff_eq]; exact Classical.not_not.1 hz
  clear hz
  obtain ⟨m, hsm⟩ : ∃ m, s.size = m + 2 := ⟨s.size - 2, by omega⟩
  have Hsm := Lib.hid hsm
  have m1 : m + 2 ≤ s.size := by omega
  have m2 : s.size ≤ m + 2 := by omega
  have hw : IntKind.i64.wrap ((s.size : Int) - 2) = (m : Int) := by rw [IntWalk.i64_in _ (by omega)]; omega
  have hms : Hid (s.size - 2 = m) := Lib.hid (by omega)
  clear hsm
  by_cases hq : takeF s m 2 = sumTo (s.extract 0 m) m
  · have hq1 : (takeF s m 2 != sumTo (s.extract 0 m) m) = false := by rw [bne_eq_false_iff_eq]; exact hq
    have hc := rfC_0 H10.out Hk.out Hz.out (by unfold sumE; rw [hms.out]; exact fun x => x hq)
    have H := Lib.hid (And.intro (rfS_0 hc) hc)
    clear hc hq
    go_enter Tryz.func98, Tryz.ntmps98
    go_wp2_with (go_at_call 135; refine (l01Take_any s (by omega) 4 4 rfl (by omega) _).mono ?_; rintro e w' ⟨rfl, rfl⟩)
    go_quiet ((first | (go_at_call 135; exact Calls.quiet_of_same ((l01Take_any s (by omega) m 2 rfl (by omega) _).mono fun _ _ x => ⟨x.1, x.2.symm⟩)) | (go_at_call 127; exact Calls.quiet_of_same (l01SumX s hs m (by omega) _))))
    go_wp2
    go_ret2
    exact ⟨ret2_si' (by rw [H.out.1, hms.out]) (by rw [H.out.2]), below_drewN (Below.refl _ _) _⟩
  · have hq1 : (takeF s m 2 != sumTo (s.extract 0 m) m) = true := by rw [bne_iff_ne]; exact hq
    have hc := rfC_9 H10.out Hk.out Hz.out (by unfold sumE; rw [hms.out]; exact hq)
    have H := Lib.hid (And.intro (rfS_no (s := s) (by rw [hc]; decide)) hc)
    clear hc hq
    go_enter Tryz.func98, Tryz.ntmps98
    go_wp2_with (go_at_call 135; refine (l01Take_any s (by omega) 4 4 rfl (by omega) _).mono ?_; rintro e w' ⟨rfl, rfl⟩)
    go_quiet ((first | (go_at_call 135; exact Calls.quiet_of_same ((l01Take_any s (by omega) m 2 rfl (by omega) _).mono fun _ _ x => ⟨x.1, x.2.symm⟩)) | (go_at_call 127; exact Calls.quiet_of_same (l01SumX s hs m (by omega) _))))
    go_wp2
    go_ret2
    exact ⟨ret2_si' (by rw [H.out.1]) (by rw [H.out.2]), below_drewN (Below.refl _ _) _⟩
theorem takeN4 (s : ByteArray) (h : 10 ≤ s.size) : takeN s 4 4 = takeF s 4 4 := takeN_ok (s := s) (at_ := 4) (size := 4) rfl (by omega)
theorem takeN2 (s : ByteArray) (m : Nat) (h : m + 2 ≤ s.size) : takeN s (m : Int) 2 = takeF s m 2 := by
  rw [takeN_ok (s := s) (at_ := (m : Int)) (size := 2) rfl (by omega), Int.toNat_natCast]
/-- What ReadFrame answers. -/
def rdC (s : ByteArray) : Int := if s.size ≤ 65536 then rfC s else 2
def rdS (s : ByteArray) : ByteArray := if s.size ≤ 65536 then rfS s else ⟨#[]⟩
theorem rdC_in {s : ByteArray} (h : s.size ≤ 65536) : rdC s = rfC s := if_pos h
theorem rdS_in {s : ByteArray} (h : s.size ≤ 65536) : rdS s = rfS s := if_pos h
theorem rdC_long {s : ByteArray} (h : ¬ s.size ≤ 65536) : rdC s = 2 := if_neg h
theorem rdS_long {s : ByteArray} (h : ¬ s.size ≤ 65536) : rdS s = ⟨#[]⟩ := if_neg h
theorem readFrame_in (s : ByteArray) (hs : s.size ≤ 65536) (a b : Addr) (w : World) (hS : Sent w a b) : Calls Tryz.prog 27 #[.string s] w fun e w' => e = .returned (.tuple #[.string (rfS s), .int .i64 (rfC s)]) ∧ Below w.heap.size w w' := by
  have HS := Lib.hid hS
  clear hS
  by_cases h10 : s.size < 10
  · have hc := rfC_16 h10
    have H := Lib.hid (And.intro (rfS_no (s := s) (by rw [hc]; decide)) hc)
    clear hc
    go_enter Tryz.func27, Tryz.ntmps27
    go_wp2
    go_ret2
    exact ⟨ret2_si' (by rw [H.out.1]) (by rw [H.out.2]), Below.refl _ _⟩
  have H10 := Lib.hid h10
  have g10 : 10 ≤ s.size := by omega
  clear h10
  have Hp := Lib.hid (prefix_mark s (by omega))
  cases hk : markB s
  · have hc := rfC_3 H10.out hk
    have H := Lib.hid (And.intro (rfS_no (s := s) (by rw [hc]; decide)) hc)
    have hm : Lib.hasPrefix s.data.toList [80, 76, 67, 49] = false := Hp.out.trans hk
    clear hc hk
    go_enter Tryz.func27, Tryz.ntmps27
    go_wp2_with (go_at_call 85; refine (strings_HasPrefix _ _ _).mono ?_; rintro e w' ⟨rfl, rfl⟩)
    go_ret2
    exact ⟨ret2_si' (by rw [H.out.1]) (by rw [H.out.2]), Below.refl _ _⟩
  have hm : Lib.hasPrefix s.data.toList [80, 76, 67, 49] = true := Hp.out.trans hk
  have Hk := Lib.hid hk
  have H4 := Lib.hid (takeN4 s g10)
  clear hk
  by_cases hz : takeF s 4 4 ≠ (s.size : Int) - 10
  · have hc := rfC_8 H10.out Hk.out hz
    have H := Lib.hid (And.intro (rfS_no (s := s) (by rw [hc]; decide)) hc)
    have hz1 : (takeF s 4 4 != (s.size : Int) - 10) = true := by rw [bne_iff_ne]; exact hz
    clear hc hz
    go_enter Tryz.func27, Tryz.ntmps27
    go_wp2_with first | (go_at_call 85; refine (strings_HasPrefix _ _ _).mono ?_; rintro e w' ⟨rfl, rfl⟩) | (go_at_call 86; refine (takeNumber_any s hs 4 4 a b _ HS.out).mono ?_; rintro e w1 ⟨rfl, hb1⟩; rw [H4.out])
    go_ret2
    exact ⟨ret2_si' (by rw [H.out.1]) (by rw [H.out.2]), hb1⟩
  have Hz := Lib.hid hz
  have hz1 : (takeF s 4 4 != (s.size : Int) - 10) = false := by rw [bne_eq_false_iff_eq]; exact Classical.not_not.1 hz
  clear hz
  obtain ⟨m, hsm⟩ : ∃ m, s.size = m + 2 := ⟨s.size - 2, by omega⟩
  have m1 : m + 2 ≤ s.size := by omega
  have m2 : s.size ≤ m + 2 := by omega
  have hw : (s.size : Int) - 2 = (m : Int) := by omega
  have hms : Hid (s.size - 2 = m) := Lib.hid (by omega)
  have H2 := Lib.hid (takeN2 s m m1)
  clear hsm
  by_cases hq : takeF s m 2 = sumTo (s.extract 0 m) m
  · have hq1 : (takeF s m 2 != sumTo (s.extract 0 m) m) = false := by rw [bne_eq_false_iff_eq]; exact hq
    have hc := rfC_0 H10.out Hk.out Hz.out (by unfold sumE; rw [hms.out]; exact fun x => x hq)
    have H := Lib.hid (And.intro (rfS_0 hc) hc)
    clear hc hq
    go_enter Tryz.func27, Tryz.ntmps27
    go_wp2_with (go_at_call 85; refine (strings_HasPrefix _ _ _).mono ?_; rintro e w' ⟨rfl, rfl⟩)
    refine (takeNumber_any s hs 4 4 a b _ HS.out).mono ?_
    rintro e w1 ⟨rfl, hb1⟩
    have Hb1 := Lib.hid hb1
    clear hb1
    rw [H4.out]
    go_wp2_with fail
    refine (takeNumber_any s hs (m : Int) 2 a b _ (HS.out.below Hb1.out)).mono ?_
    rintro e w2 ⟨rfl, hb2⟩
    have Hb2 := Lib.hid (Hb1.out.trans (hb2.mono Hb1.out.size))
    clear hb2
    rw [H2.out]
    go_wp2_with fail
    refine (sumOfX s hs m (by omega) _).mono ?_
    rintro e w3 ⟨rfl, rfl⟩
    go_wp2_with fail
    refine (strings_Clone _ _ (by rw [ByteArray.size_extract]; omega)).mono ?_
    rintro e w3 ⟨rfl, hb3⟩
    have Hb3 := Lib.hid (Hb2.out.trans (hb3.mono Hb2.out.size))
    clear hb3
    go_wp2
    go_ret2
    exact ⟨ret2_si' (by rw [H.out.1, hms.out]) (by rw [H.out.2]), Hb3.out⟩
  · have hq1 : (takeF s m 2 != sumTo (s.extract 0 m) m) = true := by rw [bne_iff_ne]; exact hq
    have hc := rfC_9 H10.out Hk.out Hz.out (by unfold sumE; rw [hms.out]; exact hq)
    have H := Lib.hid (And.intro (rfS_no (s := s) (by rw [hc]; decide)) hc)
    clear hc hq
    go_enter Tryz.func27, Tryz.ntmps27
    go_wp2_with (go_at_call 85; refine (strings_HasPrefix _ _ _).mono ?_; rintro e w' ⟨rfl, rfl⟩)
    refine (takeNumber_any s hs 4 4 a b _ HS.out).mono ?_
    rintro e w1 ⟨rfl, hb1⟩
    have Hb1 := Lib.hid hb1
    clear hb1
    rw [H4.out]
    go_wp2_with fail
    refine (takeNumber_any s hs (m : Int) 2 a b _ (HS.out.below Hb1.out)).mono ?_
    rintro e w2 ⟨rfl, hb2⟩
    have Hb2 := Lib.hid (Hb1.out.trans (hb2.mono Hb1.out.size))
    clear hb2
    rw [H2.out]
    go_wp2_with fail
    refine (sumOfX s hs m (by omega) _).mono ?_
    rintro e w3 ⟨rfl, rfl⟩
    go_wp2
    go_ret2
    exact ⟨ret2_si' (by rw [H.out.1]) (by rw [H.out.2]), Hb2.out⟩
theorem readFrame_any (s : ByteArray) (hm : s.size ≤ maxLen) (a b : Addr) (w : World) (hS : Sent w a b) : Calls Tryz.prog 27 #[.string s] w fun e w' => e = .returned (.tuple #[.string (rdS s), .int .i64 (rdC s)]) ∧ Below w.heap.size w w' := by
  by_cases hl : s.size ≤ 65536
  · rw [rdS_in hl, rdC_in hl]
    exact readFrame_in s hl a b w hS
  · have hb : (s.size : Int) ≤ 9223372036854775807 := by unfold maxLen at hm; omega
    have H := Lib.hid (And.intro (rdS_long hl) (rdC_long hl))
    clear hS
    go_enter Tryz.func27, Tryz.ntmps27
    go_wp2
    go_ret2
    exact ⟨ret2_si' (by rw [H.out.1]) (by rw [H.out.2]), Below.refl _ _⟩
end Go.Proofs.YtmpppfibeoghaaaGreatDoor
