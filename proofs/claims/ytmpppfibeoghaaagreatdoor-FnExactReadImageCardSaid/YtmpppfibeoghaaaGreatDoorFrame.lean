/- FrameText of impl and of spec compute the same function. -/
import Derived.Test.YtmpppfibeoghaaaGreatDoorPut
import Derived.Test.YtmpppfibeoghaaaGreatDoorSum
namespace Go.Proofs.YtmpppfibeoghaaaGreatDoor
open Go.ChangeShapes Go.WideShapes Go.ChangeAt Go.RowKit Go.PlainAid
def bodyF (s : ByteArray) : ByteArray := ⟨#[80, 76, 67, 49]⟩ ++ putS (s.size : Int) 4 ++ s
def frameF (s : ByteArray) : ByteArray := bodyF s ++ putS (sumTo (bodyF s) (bodyF s).size) 2
theorem fits4 {n : Nat} (h : n ≤ 2147483647) : fitsN (n : Int) 4 = true := decide_eq_true (by omega)
theorem fits2 {n : Int} (h0 : 0 ≤ n) (h : n ≤ 32767) : fitsN n 2 = true := decide_eq_true (by omega)
theorem putS_size {n size : Int} (h : fitsN n size = true) : (putS n size).size = size.toNat := by rw [putS_yes h]; exact putTo_len _ _
theorem putS_4 {n : Int} (h : fitsN n 4 = true) : (putS n 4).size = 4 := putS_size h
theorem putS_2 {n : Int} (h : fitsN n 2 = true) : (putS n 2).size = 2 := putS_size h
theorem bodyF_size {s : ByteArray} (h : s.size ≤ 2147483647) : (bodyF s).size = s.size + 8 := by
  unfold bodyF
  rw [ByteArray.size_append, ByteArray.size_append, putS_4 (fits4 h)]
  show 4 + 4 + s.size = _
  omega
theorem sumTo_fits (s : ByteArray) (k : Nat) : fitsN (sumTo s k) 2 = true := by
  have := sumTo_bd s k
  exact fits2 this.1 (by omega)
theorem l01Frame_any (s : ByteArray) (hs : s.size ≤ 65526) (w : World) : Calls Tryz.prog 83 #[.string s] w fun e w' => e = .returned (.string (frameF s)) ∧ Below w.heap.size w w' := by
  have f4 := Lib.hid (fits4 (n := s.size) (by omega))
  have hP := putS_4 f4.out
  have hB := Lib.hid (bodyF_size (s := s) (by omega))
  go_enter Tryz.func83, Tryz.ntmps83
  go_wp2_with fail
  refine (l01Put_any _ 4 (by omega) (by omega) _).mono ?_
  rintro e w1 ⟨rfl, hb1⟩
  have Hb1 := Lib.hid hb1
  clear hb1
  rw [← putS_yes f4.out]
  go_wp2_with fail
  clear hP
  have hBe : (⟨#[80, 76, 67, 49]⟩ : ByteArray) ++ putS (s.size : Int) 4 ++ s = bodyF s := rfl
  rw [hBe]
  clear hBe
  have Hf := Lib.hid (show frameF s = bodyF s ++ putS (sumTo (bodyF s) (bodyF s).size) 2 from rfl)
  generalize bodyF s = b at *
  have hb8 : b.size ≤ 65534 := by have := hB.out; omega
  refine (l01Sum_any b _ (by unfold maxLen; omega)).mono ?_
  rintro e w2 ⟨rfl, rfl⟩
  have f2 := Lib.hid (sumTo_fits b b.size)
  have hP2 := putS_2 f2.out
  go_wp2_with fail
  refine (l01Put_any _ 2 (by omega) (by omega) _).mono ?_
  rintro e w2 ⟨rfl, hb2⟩
  have Hb2 := Lib.hid (Hb1.out.trans (hb2.mono Hb1.out.size))
  clear hb2
  rw [← putS_yes f2.out]
  go_wp2
  go_ret
  exact ⟨by rw [Hf.out]; rfl, Hb2.out⟩
/-- What FrameText answers. -/
def frS (s : ByteArray) : ByteArray := if s.size ≤ 65526 then frameF s else ⟨#[]⟩
def frC (s : ByteArray) : Int := if s.size ≤ 65526 then 0 else if s.size ≤ 65536 then 8 else 2
theorem frS_yes {s : ByteArray} (h : s.size ≤ 65526) : frS s = frameF s := if_pos h
theorem frC_yes {s : ByteArray} (h : s.size ≤ 65526) : frC s = 0 := if_pos h
theorem frS_no {s : ByteArray} (h : ¬ s.size ≤ 65526) : frS s = ⟨#[]⟩ := if_neg h
theorem frC_size {s : ByteArray} (h : ¬ s.size ≤ 65526) (g : s.size ≤ 65536) : frC s = 8 := by unfold frC; rw [if_neg h, if_pos g]
theorem frC_long {s : ByteArray} (g : ¬ s.size ≤ 65536) : frC s = 2 := by unfold frC; rw [if_neg (by omega), if_neg g]
theorem frameText_any (s : ByteArray) (hm : s.size ≤ maxLen) (a b : Addr) (w : World) (hS : Sent w a b) : Calls Tryz.prog 23 #[.string s] w fun e w' => e = .returned (.tuple #[.string (frS s), .int .i64 (frC s)]) ∧ Below w.heap.size w w' := by
  have hbm : (s.size : Int) ≤ 9223372036854775807 := by unfold maxLen at hm; omega
  by_cases hl : s.size ≤ 65536
  case neg =>
    have H := Lib.hid (And.intro (frS_no (s := s) (by omega)) (frC_long hl))
    go_enter Tryz.func23, Tryz.ntmps23
    go_wp2
    go_ret2
    exact ⟨ret2_si' (by rw [H.out.1]) (by rw [H.out.2]), Below.refl _ _⟩
  by_cases hs : s.size ≤ 65526
  case neg =>
    have H := Lib.hid (And.intro (frS_no hs) (frC_size hs hl))
    go_enter Tryz.func23, Tryz.ntmps23
    go_wp2
    go_ret2
    exact ⟨ret2_si' (by rw [H.out.1]) (by rw [H.out.2]), Below.refl _ _⟩
  have H := Lib.hid (And.intro (frS_yes hs) (frC_yes hs))
  have HS := Lib.hid hS
  clear hS
  have f4 := Lib.hid (fits4 (n := s.size) (by omega))
  have hP := putS_4 f4.out
  have hB := Lib.hid (bodyF_size (s := s) (by omega))
  go_enter Tryz.func23, Tryz.ntmps23
  go_wp2_with fail
  refine (putNumber_any _ 4 a b _ HS.out).mono ?_
  rintro e w1 ⟨rfl, hb1⟩
  have Hb1 := Lib.hid hb1
  clear hb1
  go_wp2_with fail
  clear hP
  have hBe : (⟨#[80, 76, 67, 49]⟩ : ByteArray) ++ putS (s.size : Int) 4 ++ s = bodyF s := rfl
  rw [hBe]
  clear hBe
  have Hf := Lib.hid (show frameF s = bodyF s ++ putS (sumTo (bodyF s) (bodyF s).size) 2 from rfl)
  generalize bodyF s = b' at *
  have hb8 : b'.size ≤ 65534 := by have := hB.out; omega
  have Hsum := Lib.hid (sumF_fits (s := b') (by omega))
  refine (sumOf_any b' _ (by unfold maxLen; omega)).mono ?_
  rintro e w2 ⟨rfl, rfl⟩
  rw [Hsum.out]
  have f2 := Lib.hid (sumTo_fits b' b'.size)
  have hP2 := putS_2 f2.out
  go_wp2_with fail
  refine (putNumber_any _ 2 a b _ (HS.out.below Hb1.out)).mono ?_
  rintro e w2 ⟨rfl, hb2⟩
  have Hb2 := Lib.hid (Hb1.out.trans (hb2.mono Hb1.out.size))
  clear hb2
  go_wp2
  go_ret2
  exact ⟨ret2_si' (by rw [H.out.1, Hf.out]) (by rw [H.out.2]), Hb2.out⟩
end Go.Proofs.YtmpppfibeoghaaaGreatDoor
