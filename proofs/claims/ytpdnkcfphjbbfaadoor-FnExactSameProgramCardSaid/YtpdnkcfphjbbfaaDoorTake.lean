/- TakeNumber of impl and of spec compute the same function. -/
import Derived.Test.YtpdnkcfphjbbfaaDoorPut
import Derived.PlainAid
import Derived.Laws.BitsAllLaws
namespace Go.Proofs.YtpdnkcfphjbbfaaDoor
open Go.ChangeShapes Go.WideShapes Go.ChangeAt Go.RowKit Go.PlainAid
theorem i64_or_join (x z m : Int) (k : Nat) (hm : m = 2 ^ k) (x0 : 0 ≤ x) (x1 : x < m) (z0 : 0 ≤ z) (h : x + z * m ≤ 9223372036854775807) : bits .or .i64 x (z * m) = x + z * m := by
  obtain ⟨X, rfl⟩ := Int.eq_ofNat_of_zero_le x0
  obtain ⟨Z, rfl⟩ := Int.eq_ofNat_of_zero_le z0
  have hM : m = ((2 ^ k : Nat) : Int) := by rw [hm]; simp
  subst hM
  have e : (Z : Int) * ((2 ^ k : Nat) : Int) = ((2 ^ k * Z : Nat) : Int) := by rw [Int.natCast_mul, Int.mul_comm]
  rw [e] at h ⊢
  have hX : X < 2 ^ k := by omega
  have ho : X ||| 2 ^ k * Z = 2 ^ k * Z + X := by rw [Nat.or_comm]; exact (Nat.two_pow_add_eq_or_of_lt hX Z).symm
  show IntKind.i64.wrap ((BitVec.ofInt 64 (X : Int) ||| BitVec.ofInt 64 ((2 ^ k * Z : Nat) : Int)).toNat : Int) = _
  rw [BitVec.toNat_or, ofInt_u64 X (by omega), ofInt_u64 _ (by omega), ho, IntKind.wrap_i64]
  omega
theorem i64_or_zero (x : Int) (x0 : 0 ≤ x) (h : x ≤ 255) : bits .or .i64 0 x = x := by
  have := i64_or_join 0 x 1 0 rfl (by omega) (by omega) x0 (by omega)
  rw [Int.mul_one] at this
  rw [this]; omega
def raw2 (s : ByteArray) (a : Nat) : Int := bt s a + bt s (a + 1) * 256
def raw4 (s : ByteArray) (a : Nat) : Int := bt s a + bt s (a + 1) * 256 + bt s (a + 2) * 65536 + bt s (a + 3) * 16777216
/-- The signed number in size bytes from a on. -/
def takeF (s : ByteArray) (a : Nat) (size : Int) : Int :=
  if size = 1 then (if bt s a < 128 then bt s a else bt s a - 256)
  else if size = 2 then (if raw2 s a < 32768 then raw2 s a else raw2 s a - 65536)
  else (if raw4 s a < 2147483648 then raw4 s a else raw4 s a - 4294967296)
theorem takeF_1 (s : ByteArray) (a : Nat) : takeF s a 1 = if bt s a < 128 then bt s a else bt s a - 256 := rfl
theorem takeF_2 (s : ByteArray) (a : Nat) : takeF s a 2 = if raw2 s a < 32768 then raw2 s a else raw2 s a - 65536 := rfl
theorem takeF_4 (s : ByteArray) (a : Nat) : takeF s a 4 = if raw4 s a < 2147483648 then raw4 s a else raw4 s a - 4294967296 := rfl
theorem wrap8_eq (n : Int) (h0 : 0 ≤ n) (h1 : n < 256) : wrap64 (IntKind.i8.wrap n) = if n < 128 then n else n - 256 := by
  have e : IntKind.i8.wrap n = (n + 128) % 256 - 128 := by simp [IntKind.wrap, IntKind.bits, IntKind.signed]; omega
  rw [e]
  unfold wrap64
  split <;> omega
theorem wrap16_eq (n : Int) (h0 : 0 ≤ n) (h1 : n < 65536) : wrap64 (IntKind.i16.wrap n) = if n < 32768 then n else n - 65536 := by
  have e : IntKind.i16.wrap n = (n + 32768) % 65536 - 32768 := by simp [IntKind.wrap, IntKind.bits, IntKind.signed]; omega
  rw [e]
  unfold wrap64
  split <;> omega
theorem wrap32_eq (n : Int) (h0 : 0 ≤ n) (h1 : n < 4294967296) : wrap64 (wrap32 n) = if n < 2147483648 then n else n - 4294967296 := by
  unfold wrap64 wrap32
  split <;> omega
theorem ret2_ie {a b : Int} {v : Value} (h : a = b) : Ending.returned (.tuple #[.int .i64 a, v]) = .returned (.tuple #[.int .i64 b, v]) := by rw [h]
/-- The code of TakeNumber for a text that is not too long. -/
def takeC (s : ByteArray) (at_ size : Int) : Int := if sizeOK size = false then 4 else if at_ < 0 ∨ (s.size : Int) - size < at_ then 16 else 0
def takeN (s : ByteArray) (at_ size : Int) : Int := if takeC s at_ size = 0 then takeF s at_.toNat size else 0
theorem takeC_size {s : ByteArray} {at_ size : Int} (h : sizeOK size = false) : takeC s at_ size = 4 := by unfold takeC; rw [if_pos h]
theorem takeC_end {s : ByteArray} {at_ size : Int} (h : sizeOK size = true) (g : at_ < 0 ∨ (s.size : Int) - size < at_) : takeC s at_ size = 16 := by unfold takeC; rw [if_neg (by simp [h]), if_pos g]
theorem takeC_ok {s : ByteArray} {at_ size : Int} (h : sizeOK size = true) (g : ¬ (at_ < 0 ∨ (s.size : Int) - size < at_)) : takeC s at_ size = 0 := by unfold takeC; rw [if_neg (by simp [h]), if_neg g]
theorem takeN_size {s : ByteArray} {at_ size : Int} (h : sizeOK size = false) : takeN s at_ size = 0 := by unfold takeN; rw [takeC_size h]; rfl
theorem takeN_end {s : ByteArray} {at_ size : Int} (h : sizeOK size = true) (g : at_ < 0 ∨ (s.size : Int) - size < at_) : takeN s at_ size = 0 := by unfold takeN; rw [takeC_end h g]; rfl
theorem takeN_ok {s : ByteArray} {at_ size : Int} (h : sizeOK size = true) (g : ¬ (at_ < 0 ∨ (s.size : Int) - size < at_)) : takeN s at_ size = takeF s at_.toNat size := by unfold takeN; rw [takeC_ok h g]; rfl
theorem ret2_ii {a b c d : Int} (h : a = b) (k : c = d) : Ending.returned (.tuple #[.int .i64 a, .int .i64 c]) = .returned (.tuple #[.int .i64 b, .int .i64 d]) := by rw [h, k]
theorem ret_it {k : IntKind} {a b : Int} (h : a = b) : Ending.returned (.int k a) = .returned (.int k b) := by rw [h]
theorem top1 (s : ByteArray) (a : Nat) : takeF s a 1 = if 128 ≤ bt s a then bt s a - 256 else bt s a := by
  rw [takeF_1]; split <;> split <;> omega
theorem top2 (s : ByteArray) (a : Nat) : takeF s a 2 = if 128 ≤ bt s (a + 1) then 256 * bt s (a + 1) + bt s a - 65536 else 256 * bt s (a + 1) + bt s a := by
  have := bt_nonneg s a
  have := bt_le s a
  have := bt_nonneg s (a + 1)
  have := bt_le s (a + 1)
  rw [takeF_2]; unfold raw2; split <;> split <;> omega
theorem top4 (s : ByteArray) (a : Nat) : takeF s a 4 = if 128 ≤ bt s (a + 3) then 256 * (256 * (256 * bt s (a + 3) + bt s (a + 2)) + bt s (a + 1)) + bt s a - 4294967296 else 256 * (256 * (256 * bt s (a + 3) + bt s (a + 2)) + bt s (a + 1)) + bt s a := by
  have := bt_nonneg s a
  have := bt_le s a
  have := bt_nonneg s (a + 1)
  have := bt_le s (a + 1)
  have := bt_nonneg s (a + 2)
  have := bt_le s (a + 2)
  have := bt_nonneg s (a + 3)
  have := bt_le s (a + 3)
  rw [takeF_4]; unfold raw4; split <;> split <;> omega
end Go.Proofs.YtpdnkcfphjbbfaaDoor
