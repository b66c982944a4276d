/- TakeNumber of impl and of spec compute the same function. -/
import Derived.Test.YtgbhihenflooeaaDoorPut
import Derived.PlainAid
import Derived.Laws.BitsAllLaws
namespace Go.Proofs.YtgbhihenflooeaaDoor
open Go.ChangeShapes Go.WideShapes Go.ChangeAt Go.RowKit Go.PlainAid
theorem i64_or_join (x z m : Int) (k : Nat) (hm : m = 2 ^ k) (x0 : 0 ≤ x) (x1 : x < m) (z0 : 0 ≤ z) (h : x + z * m ≤ 9223372036854775807) : bits .or .i64 x (z * m) = x + z * m := by
  obtain ⟨X, rfl⟩ := Int.eq_ofNat_of_zero_le x0
  obtain ⟨Z, rfl⟩ := Int.eq_ofNat_of_zero_le z0
  have hM : m = ((2 ^ k : Nat) : Int) := by rw [hm]; simp
  subst hM
  have e : (Z : Int) * ((2 ^ k : Nat) : Int) = ((2 ^ k * Z : Nat) : Int) := by rw [Int.natCast_mul, Int.mul_comm]
  rw [e] at h ⊢
  have hX : X < 2 ^ k := by omega
  have ho : X ||| 2 ^ k * Z = 2 ^ k * Z + X := by rw [Nat.or_comm]; exact (Nat.two_pow_add_eq_or_of_lt hX Z).symm
  show IntKind.i64.wrap ((BitVec.ofInt 64 (X : Int) ||| BitVec.ofInt 64 ((2 ^ k * Z : Nat) : Int)).toNat : Int) = _
  rw [BitVec.toNat_or, ofInt_u64 X (by omega), ofInt_u64 _ (by omega), ho, IntKind.wrap_i64]
  omega
theorem i64_or_zero (x : Int) (x0 : 0 ≤ x) (h : x ≤ 255) : bits .or .i64 0 x = x := by
  have := i64_or_join 0 x 1 0 rfl (by omega) (by omega) x0 (by omega)
  rw [Int.mul_one] at this
  rw [this]; omega
def raw2 (s : ByteArray) (a : Nat) : Int := bt s a + bt s (a + 1) * 256
def raw4 (s : ByteArray) (a : Nat) : Int := bt s a + bt s (a + 1) * 256 + bt s (a + 2) * 65536 + bt s (a + 3) * 16777216
/-- The signed number in size bytes from a on. -/
def takeF (s : ByteArray) (a : Nat) (size : Int) : Int :=
  if size = 1 then (if bt s a < 128 then bt s a else bt s a - 256)
  else if size = 2 then (if raw2 s a < 32768 then raw2 s a else raw2 s a - 65536)
  else (if raw4 s a < 2147483648 then raw4 s a else raw4 s a - 4294967296)
theorem takeF_1 (s : ByteArray) (a : Nat) : takeF s a 1 = if bt s a < 128 then bt s a else bt s a - 256 := rfl
theorem takeF_2 (s : ByteArray) (a : Nat) : takeF s a 2 = if raw2 s a < 32768 then raw2 s a else raw2 s a - 65536 := rfl
theorem takeF_4 (s : ByteArray) (a : Nat) : takeF s a 4 = if raw4 s a < 2147483648 then raw4 s a else raw4 s a - 4294967296 := rfl
theorem wrap8_eq (n : Int) (h0 : 0 ≤ n) (h1 : n < 256) : wrap64 (IntKind.i8.wrap n) = if n < 128 then n else n - 256 := by
  have e : IntKind.i8.wrap n = (n + 128) % 256 - 128 := by simp [IntKind.wrap, IntKind.bits, IntKind.signed]; omega
  rw [e]
  unfold wrap64
  split <;> omega
theorem wrap16_eq (n : Int) (h0 : 0 ≤ n) (h1 : n < 65536) : wrap64 (IntKind.i16.wrap n) = if n < 32768 then n else n - 65536 := by
  have e : IntKind.i16.wrap n = (n + 32768) % 65536 - 32768 := by simp [IntKind.wrap, IntKind.bits, IntKind.signed]; omega
  rw [e]
  unfold wrap64
  split <;> omega
theorem wrap32_eq (n : Int) (h0 : 0 ≤ n) (h1 : n < 4294967296) : wrap64 (wrap32 n) = if n < 2147483648 then n else n - 4294967296 := by
  unfold wrap64 wrap32
  split <;> omega
theorem ret2_ie {a b : Int} {v : Value} (h : a = b) : Ending.returned (.tuple #[.int .i64 a, v]) = .returned (.tuple #[.int .i64 b, v]) := by rw [h]
theorem dec8_yes (s : ByteArray) (hs : s.size ≤ 65536) (a : Nat) (h : a + 1 ≤ s.size) (w : World) : Calls Tryd.prog 125 #[.string s, .int .i64 (a : Int), .int .i64 1] w fun e w' => e = .returned (.tuple #[.int .i64 (takeF s a 1), .nilIface]) ∧ w = w' := by
  have hg := get_bt s
  have b0 := bt_nonneg s a
  have b1 := bt_le s a
  have o1 := i64_or_zero (bt s a) b0 b1
  have H := Lib.hid (wrap8_eq (bt s a) b0 (by omega))
  go_enter Tryd.func125, Tryd.ntmps125
  go_wp2
  go_rounds 2
  go_ret2
  exact ⟨ret2_ie (by rw [takeF_1, ← H.out]), rfl⟩
theorem dec16_yes (s : ByteArray) (hs : s.size ≤ 65536) (a : Nat) (h : a + 2 ≤ s.size) (w : World) : Calls Tryd.prog 126 #[.string s, .int .i64 (a : Int), .int .i64 2] w fun e w' => e = .returned (.tuple #[.int .i64 (takeF s a 2), .nilIface]) ∧ w = w' := by
  have hg := get_bt s
  have b0 := bt_nonneg s a
  have b1 := bt_le s a
  have c0 := bt_nonneg s (a + 1)
  have c1 := bt_le s (a + 1)
  have o1 := i64_or_zero (bt s a) b0 b1
  have o2 := i64_or_join (bt s a) (bt s (a + 1)) 256 8 rfl b0 (by omega) c0 (by omega)
  have H := Lib.hid (wrap16_eq (raw2 s a) (by unfold raw2; omega) (by unfold raw2; omega))
  go_enter Tryd.func126, Tryd.ntmps126
  go_wp2
  go_rounds 3
  go_ret2
  exact ⟨ret2_ie (by rw [takeF_2, ← H.out]; rfl), rfl⟩
theorem dec32_yes (s : ByteArray) (hs : s.size ≤ 65536) (a : Nat) (h : a + 4 ≤ s.size) (w : World) : Calls Tryd.prog 127 #[.string s, .int .i64 (a : Int), .int .i64 4] w fun e w' => e = .returned (.tuple #[.int .i64 (takeF s a 4), .nilIface]) ∧ w = w' := by
  have hg := get_bt s
  have b0 := bt_nonneg s a
  have b1 := bt_le s a
  have c0 := bt_nonneg s (a + 1)
  have c1 := bt_le s (a + 1)
  have d0 := bt_nonneg s (a + 2)
  have d1 := bt_le s (a + 2)
  have e0 := bt_nonneg s (a + 3)
  have e1 := bt_le s (a + 3)
  have o1 := i64_or_zero (bt s a) b0 b1
  have o2 := i64_or_join (bt s a) (bt s (a + 1)) 256 8 rfl b0 (by omega) c0 (by omega)
  have o3 := i64_or_join (bt s a + bt s (a + 1) * 256) (bt s (a + 2)) 65536 16 rfl (by omega) (by omega) d0 (by omega)
  have o4 := i64_or_join (bt s a + bt s (a + 1) * 256 + bt s (a + 2) * 65536) (bt s (a + 3)) 16777216 24 rfl (by omega) (by omega) e0 (by omega)
  have H := Lib.hid (wrap32_eq (raw4 s a) (by unfold raw4; omega) (by unfold raw4; omega))
  go_enter Tryd.func127, Tryd.ntmps127
  go_wp2
  go_rounds 5
  go_ret2
  exact ⟨ret2_ie (by rw [takeF_4, ← H.out]; rfl), rfl⟩
theorem dec8_no (s : ByteArray) (hs : s.size ≤ 65536) (at_ sz : Int) (hz : 0 ≤ sz ∧ sz ≤ 4) (h : at_ < 0 ∨ (s.size : Int) - sz < at_) (a b : Addr) (w : World) (hS : Sent w a b) : Calls Tryd.prog 125 #[.string s, .int .i64 at_, .int .i64 sz] w fun e w' => e = .returned (.tuple #[.int .i64 0, .iface 162 (.agg #[.int .i64 at_, .iface 201 (.pointer (some b))])]) ∧ Below w.heap.size w w' := by
  have h2 := hS.2.1
  clear hS
  have hc : at_ < 0 ∨ (0 ≤ at_ ∧ (s.size : Int) - sz < at_) := by omega
  clear h
  rcases hc with h | ⟨h0, h⟩
  all_goals
    go_enter Tryd.func125, Tryd.ntmps125
    go_wp2
    go_quiet (fail)
    go_wp2
    go_ret2
    exact ⟨rfl, below_drewN (Below.refl _ _) _⟩
theorem dec16_no (s : ByteArray) (hs : s.size ≤ 65536) (at_ sz : Int) (hz : 0 ≤ sz ∧ sz ≤ 4) (h : at_ < 0 ∨ (s.size : Int) - sz < at_) (a b : Addr) (w : World) (hS : Sent w a b) : Calls Tryd.prog 126 #[.string s, .int .i64 at_, .int .i64 sz] w fun e w' => e = .returned (.tuple #[.int .i64 0, .iface 162 (.agg #[.int .i64 at_, .iface 201 (.pointer (some b))])]) ∧ Below w.heap.size w w' := by
  have h2 := hS.2.1
  clear hS
  have hc : at_ < 0 ∨ (0 ≤ at_ ∧ (s.size : Int) - sz < at_) := by omega
  clear h
  rcases hc with h | ⟨h0, h⟩
  all_goals
    go_enter Tryd.func126, Tryd.ntmps126
    go_wp2
    go_quiet (fail)
    go_wp2
    go_ret2
    exact ⟨rfl, below_drewN (Below.refl _ _) _⟩
theorem dec32_no (s : ByteArray) (hs : s.size ≤ 65536) (at_ sz : Int) (hz : 0 ≤ sz ∧ sz ≤ 4) (h : at_ < 0 ∨ (s.size : Int) - sz < at_) (a b : Addr) (w : World) (hS : Sent w a b) : Calls Tryd.prog 127 #[.string s, .int .i64 at_, .int .i64 sz] w fun e w' => e = .returned (.tuple #[.int .i64 0, .iface 162 (.agg #[.int .i64 at_, .iface 201 (.pointer (some b))])]) ∧ Below w.heap.size w w' := by
  have h2 := hS.2.1
  clear hS
  have hc : at_ < 0 ∨ (0 ≤ at_ ∧ (s.size : Int) - sz < at_) := by omega
  clear h
  rcases hc with h | ⟨h0, h⟩
  all_goals
    go_enter Tryd.func127, Tryd.ntmps127
    go_wp2
    go_quiet (fail)
    go_wp2
    go_ret2
    exact ⟨rfl, below_drewN (Below.refl _ _) _⟩
/-- The code of TakeNumber for a text that is not too long. -/
def takeC (s : ByteArray) (at_ size : Int) : Int := if sizeOK size = false then 4 else if at_ < 0 ∨ (s.size : Int) - size < at_ then 16 else 0
def takeN (s : ByteArray) (at_ size : Int) : Int := if takeC s at_ size = 0 then takeF s at_.toNat size else 0
theorem takeC_size {s : ByteArray} {at_ size : Int} (h : sizeOK size = false) : takeC s at_ size = 4 := by unfold takeC; rw [if_pos h]
theorem takeC_end {s : ByteArray} {at_ size : Int} (h : sizeOK size = true) (g : at_ < 0 ∨ (s.size : Int) - size < at_) : takeC s at_ size = 16 := by unfold takeC; rw [if_neg (by simp [h]), if_pos g]
theorem takeC_ok {s : ByteArray} {at_ size : Int} (h : sizeOK size = true) (g : ¬ (at_ < 0 ∨ (s.size : Int) - size < at_)) : takeC s at_ size = 0 := by unfold takeC; rw [if_neg (by simp [h]), if_neg g]
theorem takeN_size {s : ByteArray} {at_ size : Int} (h : sizeOK size = false) : takeN s at_ size = 0 := by unfold takeN; rw [takeC_size h]; rfl
theorem takeN_end {s : ByteArray} {at_ size : Int} (h : sizeOK size = true) (g : at_ < 0 ∨ (s.size : Int) - size < at_) : takeN s at_ size = 0 := by unfold takeN; rw [takeC_end h g]; rfl
theorem takeN_ok {s : ByteArray} {at_ size : Int} (h : sizeOK size = true) (g : ¬ (at_ < 0 ∨ (s.size : Int) - size < at_)) : takeN s at_ size = takeF s at_.toNat size := by unfold takeN; rw [takeC_ok h g]; rfl
theorem decode_ok (s : ByteArray) (hs : s.size ≤ 65536) (at_ size : Int) (h : sizeOK size = true) (g : ¬ (at_ < 0 ∨ (s.size : Int) - size < at_)) (w : World) : Calls Tryd.prog 110 #[.string s, .int .i64 at_, .int .i64 size] w fun e w' => e = .returned (.tuple #[.int .i64 (takeN s at_ size), .nilIface]) ∧ w = w' := by
  have H := Lib.hid (takeN_ok h g)
  obtain ⟨a, rfl⟩ := Int.eq_ofNat_of_zero_le (show 0 ≤ at_ by omega)
  rcases of_decide_eq_true h with rfl | rfl | rfl
  all_goals
    have ha := Lib.hid g
    clear h g
    go_enter Tryd.func110, Tryd.ntmps110
    go_wp2_with first | (go_at_call 125; refine (dec8_yes s hs a (by have := ha.out; omega) _).mono ?_; rintro e w1 ⟨rfl, rfl⟩) | (go_at_call 126; refine (dec16_yes s hs a (by have := ha.out; omega) _).mono ?_; rintro e w1 ⟨rfl, rfl⟩) | (go_at_call 127; refine (dec32_yes s hs a (by have := ha.out; omega) _).mono ?_; rintro e w1 ⟨rfl, rfl⟩)
    go_ret2
    exact ⟨ret2_ie (by rw [H.out]; rfl), rfl⟩
def IsErrN (a : Addr) (w : World) (e : Ending) (w' : World) : Prop :=
  ∃ v : Int, e = .returned (.tuple #[.int .i64 0, .iface 162 (.agg #[.int .i64 v, .iface 201 (.pointer (some a))])]) ∧ Below w.heap.size w w'
theorem decode_end (s : ByteArray) (hs : s.size ≤ 65536) (at_ size : Int) (h : sizeOK size = true) (g : at_ < 0 ∨ (s.size : Int) - size < at_) (a b : Addr) (w : World) (hS : Sent w a b) : Calls Tryd.prog 110 #[.string s, .int .i64 at_, .int .i64 size] w (IsErrN b w) := by
  have HS := Lib.hid hS
  have G := Lib.hid g
  have hz := size_rng h
  rcases of_decide_eq_true h with rfl | rfl | rfl
  all_goals
    clear h g hS
    go_enter Tryd.func110, Tryd.ntmps110
    go_wp2_with first | (go_at_call 125; refine (dec8_no s hs _ _ hz G.out a b _ HS.out).mono ?_; rintro e w1 ⟨rfl, hb1⟩) | (go_at_call 126; refine (dec16_no s hs _ _ hz G.out a b _ HS.out).mono ?_; rintro e w1 ⟨rfl, hb1⟩) | (go_at_call 127; refine (dec32_no s hs _ _ hz G.out a b _ HS.out).mono ?_; rintro e w1 ⟨rfl, hb1⟩)
    go_ret2
    exact ⟨_, rfl, hb1⟩
theorem decode_size (s : ByteArray) (at_ size : Int) (h : sizeOK size = false) (a b : Addr) (w : World) (hS : Sent w a b) : Calls Tryd.prog 110 #[.string s, .int .i64 at_, .int .i64 size] w (IsErrN a w) := by
  have hr := of_decide_eq_false h
  have hg := hS.1
  have g1 : (size == 1) = false := beq_eq_false_iff_ne.2 (by omega)
  have g2 : (size == 2) = false := beq_eq_false_iff_ne.2 (by omega)
  have g4 : (size == 4) = false := beq_eq_false_iff_ne.2 (by omega)
  clear hr h hS
  go_enter Tryd.func110, Tryd.ntmps110
  go_wp2
  go_quiet (fail)
  go_wp2
  go_ret2
  exact ⟨size, rfl, below_drewN (Below.refl _ _) _⟩
theorem ret2_ii {a b c d : Int} (h : a = b) (k : c = d) : Ending.returned (.tuple #[.int .i64 a, .int .i64 c]) = .returned (.tuple #[.int .i64 b, .int .i64 d]) := by rw [h, k]
theorem takeNumber_long (s : ByteArray) (hs : 65536 < s.size) (hm : s.size ≤ maxLen) (at_ size : Int) (w : World) : Calls Tryd.prog 79 #[.string s, .int .i64 at_, .int .i64 size] w fun e w' => e = .returned (.tuple #[.int .i64 0, .int .i64 2]) ∧ w = w' := by
  have hb : (s.size : Int) ≤ 9223372036854775807 := by unfold maxLen at hm; omega
  go_enter Tryd.func79, Tryd.ntmps79
  go_wp2
  go_ret2
  exact ⟨rfl, rfl⟩
theorem takeNumber_any (s : ByteArray) (hs : s.size ≤ 65536) (at_ size : Int) (a b : Addr) (w : World) (hS : Sent w a b) : Calls Tryd.prog 79 #[.string s, .int .i64 at_, .int .i64 size] w fun e w' => e = .returned (.tuple #[.int .i64 (takeN s at_ size), .int .i64 (takeC s at_ size)]) ∧ Below w.heap.size w w' := by
  have HS := Lib.hid hS
  clear hS
  cases hz : sizeOK size
  · have H := Lib.hid (And.intro (takeN_size (s := s) (at_ := at_) hz) (takeC_size (s := s) (at_ := at_) hz))
    go_enter Tryd.func79, Tryd.ntmps79
    go_wp2_with fail
    refine (decode_size s at_ size hz a b w HS.out).mono ?_
    rintro e w1 ⟨v, rfl, hb1⟩
    have Hb1 := Lib.hid hb1
    clear hb1
    go_wp2_with (go_at_call 111; refine (code_range _ _ b _ (HS.out.below Hb1.out)).mono ?_; rintro e w2 ⟨rfl, hb2⟩)
    go_ret2
    exact ⟨ret2_ii (by rw [H.out.1]) (by rw [H.out.2]), Hb1.out.trans (hb2.mono Hb1.out.size)⟩
  by_cases hg : at_ < 0 ∨ (s.size : Int) - size < at_
  · have H := Lib.hid (And.intro (takeN_end hz hg) (takeC_end hz hg))
    have G := Lib.hid hg
    clear hg
    go_enter Tryd.func79, Tryd.ntmps79
    go_wp2_with fail
    refine (decode_end s hs at_ size hz G.out a b w HS.out).mono ?_
    rintro e w1 ⟨v, rfl, hb1⟩
    have Hb1 := Lib.hid hb1
    clear hb1
    go_wp2_with (go_at_call 111; refine (code_end _ a _ _ (HS.out.below Hb1.out)).mono ?_; rintro e w2 ⟨rfl, hb2⟩)
    go_ret2
    exact ⟨ret2_ii (by rw [H.out.1]) (by rw [H.out.2]), Hb1.out.trans (hb2.mono Hb1.out.size)⟩
  · have H := Lib.hid (takeC_ok hz hg)
    have G := Lib.hid hg
    clear hg
    go_enter Tryd.func79, Tryd.ntmps79
    go_wp2_with fail
    refine (decode_ok s hs at_ size hz G.out w).mono ?_
    rintro e w1 ⟨rfl, rfl⟩
    go_wp2_with (go_at_call 111; refine (code_nil _).mono ?_; rintro e w2 ⟨rfl, rfl⟩)
    go_ret2
    exact ⟨ret2_ii rfl (by rw [H.out]), Below.refl _ _⟩
theorem ret_it {k : IntKind} {a b : Int} (h : a = b) : Ending.returned (.int k a) = .returned (.int k b) := by rw [h]
theorem top1 (s : ByteArray) (a : Nat) : takeF s a 1 = if 128 ≤ bt s a then bt s a - 256 else bt s a := by
  rw [takeF_1]; split <;> split <;> omega
theorem top2 (s : ByteArray) (a : Nat) : takeF s a 2 = if 128 ≤ bt s (a + 1) then 256 * bt s (a + 1) + bt s a - 65536 else 256 * bt s (a + 1) + bt s a := by
  have := bt_nonneg s a
  have := bt_le s a
  have := bt_nonneg s (a + 1)
  have := bt_le s (a + 1)
  rw [takeF_2]; unfold raw2; split <;> split <;> omega
theorem top4 (s : ByteArray) (a : Nat) : takeF s a 4 = if 128 ≤ bt s (a + 3) then 256 * (256 * (256 * bt s (a + 3) + bt s (a + 2)) + bt s (a + 1)) + bt s a - 4294967296 else 256 * (256 * (256 * bt s (a + 3) + bt s (a + 2)) + bt s (a + 1)) + bt s a := by
  have := bt_nonneg s a
  have := bt_le s a
  have := bt_nonneg s (a + 1)
  have := bt_le s (a + 1)
  have := bt_nonneg s (a + 2)
  have := bt_le s (a + 2)
  have := bt_nonneg s (a + 3)
  have := bt_le s (a + 3)
  rw [takeF_4]; unfold raw4; split <;> split <;> omega
end Go.Proofs.YtgbhihenflooeaaDoor
