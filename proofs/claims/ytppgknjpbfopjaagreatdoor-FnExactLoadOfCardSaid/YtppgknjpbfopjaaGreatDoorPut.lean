/- PutNumber of impl and of spec compute the same function. -/
import Derived.Test.YtppgknjpbfopjaaGreatDoorErr
import Derived.Test.YtppgknjpbfopjaaGreatDoorOwn
import Derived.Test.YtppgknjpbfopjaaGreatDoorCardKit
import Derived.Deep.QuietTactic
import Derived.BigQuiet
import Derived.WalkSpells
namespace Go.Proofs.YtppgknjpbfopjaaGreatDoor
open Go.ChangeShapes Go.WideShapes Go.ChangeAt Go.RowKit
/-- Byte i of a number's two's complement. -/
def bytN (n : Int) (i : Nat) : UInt8 := UInt8.ofNat (n / 2 ^ (8 * i) % 256).toNat
theorem bytN_nat (n : Int) (i : Nat) : ((bytN n i).toNat : Int) = n / 2 ^ (8 * i) % 256 := by
  unfold bytN
  rw [UInt8.toNat_ofNat']
  omega
def putTo (n : Int) : Nat → List UInt8
  | 0 => []
  | k + 1 => putTo n k ++ [bytN n k]
theorem putTo_len (n : Int) (k : Nat) : (putTo n k).length = k := by
  induction k with
  | zero => rfl
  | succ k ih => simp [putTo, ih]
theorem ret2_se {a b : ByteArray} {v : Value} (h : a = b) : Ending.returned (.tuple #[.string a, v]) = .returned (.tuple #[.string b, v]) := by rw [h]
def putFill (n : Int) (m k : Nat) : List Value := u8s (putTo n k) ++ List.replicate (m - k) (.int .u8 0)
theorem putFill_zero (n : Int) (m : Nat) : putFill n m 0 = List.replicate m (.int .u8 0) := by simp [putFill, putTo, u8s]
theorem putFill_full (n : Int) (m : Nat) : putFill n m m = u8s (putTo n m) := by simp [putFill]
theorem putFill_at (n : Int) (m k : Nat) (h : k < m) : (putFill n m k)[k]? = some (.int .u8 0) := by
  unfold putFill
  rw [List.getElem?_append_right (by rw [u8s_len, putTo_len]; exact Nat.le_refl _), u8s_len, putTo_len, Nat.sub_self, List.getElem?_replicate, if_pos (by omega)]
theorem putFill_set (n : Int) (m k : Nat) (h : k < m) : (putFill n m k).set k (.int .u8 ((bytN n k).toNat : Int)) = putFill n m (k + 1) := by
  unfold putFill
  rw [List.set_append_right _ _ (by rw [u8s_len, putTo_len]; exact Nat.le_refl _), u8s_len, putTo_len]
  obtain ⟨d, hd⟩ : ∃ d, m - k = d + 1 := ⟨m - k - 1, by omega⟩
  have hd2 : m - (k + 1) = d := by omega
  rw [hd, hd2, Nat.sub_self]
  show _ ++ (List.replicate (d + 1) _).set 0 _ = _
  rw [List.replicate_succ, List.set_cons_zero, putTo, ← u8s_snoc, List.append_assoc]
  rfl
theorem fits8_any (n : Int) (w : World) : Calls Tryz.prog 219 #[.int .i64 n] w fun e w' => e = .returned (.bool (decide (-128 ≤ n ∧ n ≤ 127))) ∧ w = w' := by
  have H : Hid ((wrap64 (IntKind.i8.wrap n) == n) = decide (-128 ≤ n ∧ n ≤ 127)) := Lib.hid (by
    rw [Bool.eq_iff_iff, beq_iff_eq, decide_eq_true_iff]
    have e : IntKind.i8.wrap n = (n + 128) % 256 - 128 := by simp [IntKind.wrap, IntKind.bits, IntKind.signed]; omega
    rw [e]
    unfold wrap64
    omega)
  go_enter Tryz.func219, Tryz.ntmps219
  go_wp2
  go_ret
  exact ⟨by rw [← H.out]; rfl, rfl⟩
theorem enc8_no (n sz : Int) (h : n < -128 ∨ 127 < n) (a b : Addr) (w : World) (hs : Sent w a b) : Calls Tryz.prog 193 #[.int .i64 n, .int .i64 sz] w fun e w' => e = .returned (.tuple #[.string ⟨#[]⟩, .iface 226 (.agg #[.int .i64 n, .iface 289 (.pointer (some a))])]) ∧ Below w.heap.size w w' := by
  have hd : decide (-128 ≤ n ∧ n ≤ 127) = false := decide_eq_false (by omega)
  have h1 := hs.1
  clear hs h
  go_enter Tryz.func193, Tryz.ntmps193
  go_wp2_with first | (go_at_call 219; refine (fits8_any _ _).mono ?_; rintro e w' ⟨rfl, rfl⟩)
  go_quiet (fail)
  go_wp2
  go_ret2
  exact ⟨rfl, below_drewN (Below.refl _ _) _⟩
theorem enc8_yes (n : Int) (h : -128 ≤ n ∧ n ≤ 127) (sz : Int) (h0 : 0 ≤ sz) (h4 : sz ≤ 4) (w : World) : Calls Tryz.prog 193 #[.int .i64 n, .int .i64 sz] w fun e w' => e = .returned (.tuple #[.string ⟨(putTo n sz.toNat).toArray⟩, .nilIface]) ∧ Below w.heap.size w w' := by
  obtain ⟨m, rfl⟩ := Int.eq_ofNat_of_zero_le h0
  have hm : m ≤ 4 := by omega
  have hd : decide (-128 ≤ n ∧ n ≤ 127) = true := decide_eq_true h
  obtain ⟨i0, hi, hz0, hz1, hz2⟩ := info_parts (show (Tryz.prog.info? 5).map (fun i => (i.zero, i.size, i.bytes)) = some (some (.int .u8 0), 1, 1) by kernel_rfl)
  have HI := Lib.hid (And.intro hi (And.intro hz0 (And.intro hz1 hz2)))
  clear hi hz0 hz1 hz2 h0 h4
  go_enter Tryz.func193, Tryz.ntmps193
  go_wp2_with first | (go_at_call 219; refine (fits8_any _ _).mono ?_; rintro e w' ⟨rfl, rfl⟩) | (at_make; go_must (refine wpList_make_full _ rfl _ _ _ rfl w.heap.size 5 i0 _ 1 Tryz.underlying46 HI.out.1 HI.out.2.1 HI.out.2.2.1 .i64 .i64 _ _ m rfl rfl rfl rfl (by rw [HI.out.2.2.2]; omega) (by unfold maxLen; omega) (Nat.le_refl _) ?_); intro w1 hown1 hgrow1)
  have Ho1 : Hid (w1.ownsRow w.heap.size 5 1 (.slice (some ⟨w.heap.size, 0, none⟩) m m) m (putFill n m 0)) := by
    rw [putFill_zero]
    have h1 : (madeCells (Value.int IntKind.u8 0).cells (m * 1)).toList = List.replicate (m * 1) (.int .u8 0) := toList_madeCells_one _ _
    rw [h1, Nat.mul_one] at hown1
    exact Lib.hid hown1
  have Hb1 := Lib.hid ((Below.refl w.heap.size w).grown hgrow1 (Nat.le_refl _) (by intro k hk; cases hk))
  clear hown1 hgrow1
  go_loopw [19] (fun i wr => ∃ k : Nat, k ≤ m ∧ i = .int .i64 k ∧ Hid (wr.ownsRow w.heap.size 5 1 (.slice (some ⟨w.heap.size, 0, none⟩) m m) m (putFill n m k)) ∧ Hid (Below w.heap.size w wr)) (fun i _ => m - (intOf i).toNat)
  case atStart => exact ⟨0, Nat.zero_le _, rfl, Ho1, Hb1⟩
  case round =>
    obtain ⟨k, hk, rfl, ho, hb⟩ := hrel
    by_cases hlt : k < m
    · have hcell : wr.cell? ⟨w.heap.size, k, none⟩ = some (.int .u8 0) := (ho.out.cellAt k (by omega)).trans (putFill_at n m k hlt)
      have hfrz : wr.frozen? ⟨w.heap.size, k, none⟩ = false := ho.out.frozenAt k
      have hf : Hid ((wr.setCell ⟨w.heap.size, k, none⟩ (.int .u8 (n / 2 ^ (8 * k) % 256))).ownsRow w.heap.size 5 1 (.slice (some ⟨w.heap.size, 0, none⟩) m m) m (putFill n m (k + 1))) := by
        rw [← bytN_nat, ← putFill_set n m k hlt]
        exact Lib.hid (ho.out.stored k _).1
      have hk2 := Lib.hid (hb.out.setCell (p := ⟨w.heap.size, k, none⟩) (Nat.le_refl _) (.int .u8 (n / 2 ^ (8 * k) % 256)))
      go_wp2
      go_roundw
      case rel => exact ⟨k + 1, by omega, by go_num, hf, hk2⟩
      case measure => simp [intOf]; omega
    · obtain rfl : k = m := by omega
      have ho2 := ho.out
      rw [putFill_full] at ho2
      have hcv := own_str 46 9 5 Tryz.underlying46 Tryz.underlying5 Tryz.underlying9 ho2
      clear ho2
      go_wp2
      go_ret2
      exact ⟨ret2_se (by rw [Int.toNat_natCast]), hb.out⟩
theorem fits16_any (n : Int) (w : World) : Calls Tryz.prog 220 #[.int .i64 n] w fun e w' => e = .returned (.bool (decide (-32768 ≤ n ∧ n ≤ 32767))) ∧ w = w' := by
  have H : Hid ((wrap64 (IntKind.i16.wrap n) == n) = decide (-32768 ≤ n ∧ n ≤ 32767)) := Lib.hid (by
    rw [Bool.eq_iff_iff, beq_iff_eq, decide_eq_true_iff]
    have e : IntKind.i16.wrap n = (n + 32768) % 65536 - 32768 := by simp [IntKind.wrap, IntKind.bits, IntKind.signed]; omega
    rw [e]
    unfold wrap64
    omega)
  go_enter Tryz.func220, Tryz.ntmps220
  go_wp2
  go_ret
  exact ⟨by rw [← H.out]; rfl, rfl⟩
theorem enc16_no (n sz : Int) (h : n < -32768 ∨ 32767 < n) (a b : Addr) (w : World) (hs : Sent w a b) : Calls Tryz.prog 194 #[.int .i64 n, .int .i64 sz] w fun e w' => e = .returned (.tuple #[.string ⟨#[]⟩, .iface 226 (.agg #[.int .i64 n, .iface 289 (.pointer (some a))])]) ∧ Below w.heap.size w w' := by
  have hd : decide (-32768 ≤ n ∧ n ≤ 32767) = false := decide_eq_false (by omega)
  have h1 := hs.1
  clear hs h
  go_enter Tryz.func194, Tryz.ntmps194
  go_wp2_with first | (go_at_call 220; refine (fits16_any _ _).mono ?_; rintro e w' ⟨rfl, rfl⟩)
  go_quiet (fail)
  go_wp2
  go_ret2
  exact ⟨rfl, below_drewN (Below.refl _ _) _⟩
theorem enc16_yes (n : Int) (h : -32768 ≤ n ∧ n ≤ 32767) (sz : Int) (h0 : 0 ≤ sz) (h4 : sz ≤ 4) (w : World) : Calls Tryz.prog 194 #[.int .i64 n, .int .i64 sz] w fun e w' => e = .returned (.tuple #[.string ⟨(putTo n sz.toNat).toArray⟩, .nilIface]) ∧ Below w.heap.size w w' := by
  obtain ⟨m, rfl⟩ := Int.eq_ofNat_of_zero_le h0
  have hm : m ≤ 4 := by omega
  have hd : decide (-32768 ≤ n ∧ n ≤ 32767) = true := decide_eq_true h
  obtain ⟨i0, hi, hz0, hz1, hz2⟩ := info_parts (show (Tryz.prog.info? 5).map (fun i => (i.zero, i.size, i.bytes)) = some (some (.int .u8 0), 1, 1) by kernel_rfl)
  have HI := Lib.hid (And.intro hi (And.intro hz0 (And.intro hz1 hz2)))
  clear hi hz0 hz1 hz2 h0 h4
  go_enter Tryz.func194, Tryz.ntmps194
  go_wp2_with first | (go_at_call 220; refine (fits16_any _ _).mono ?_; rintro e w' ⟨rfl, rfl⟩) | (at_make; go_must (refine wpList_make_full _ rfl _ _ _ rfl w.heap.size 5 i0 _ 1 Tryz.underlying46 HI.out.1 HI.out.2.1 HI.out.2.2.1 .i64 .i64 _ _ m rfl rfl rfl rfl (by rw [HI.out.2.2.2]; omega) (by unfold maxLen; omega) (Nat.le_refl _) ?_); intro w1 hown1 hgrow1)
  have Ho1 : Hid (w1.ownsRow w.heap.size 5 1 (.slice (some ⟨w.heap.size, 0, none⟩) m m) m (putFill n m 0)) := by
    rw [putFill_zero]
    have h1 : (madeCells (Value.int IntKind.u8 0).cells (m * 1)).toList = List.replicate (m * 1) (.int .u8 0) := toList_madeCells_one _ _
    rw [h1, Nat.mul_one] at hown1
    exact Lib.hid hown1
  have Hb1 := Lib.hid ((Below.refl w.heap.size w).grown hgrow1 (Nat.le_refl _) (by intro k hk; cases hk))
  clear hown1 hgrow1
  go_loopw [19] (fun i wr => ∃ k : Nat, k ≤ m ∧ i = .int .i64 k ∧ Hid (wr.ownsRow w.heap.size 5 1 (.slice (some ⟨w.heap.size, 0, none⟩) m m) m (putFill n m k)) ∧ Hid (Below w.heap.size w wr)) (fun i _ => m - (intOf i).toNat)
  case atStart => exact ⟨0, Nat.zero_le _, rfl, Ho1, Hb1⟩
  case round =>
    obtain ⟨k, hk, rfl, ho, hb⟩ := hrel
    by_cases hlt : k < m
    · have hcell : wr.cell? ⟨w.heap.size, k, none⟩ = some (.int .u8 0) := (ho.out.cellAt k (by omega)).trans (putFill_at n m k hlt)
      have hfrz : wr.frozen? ⟨w.heap.size, k, none⟩ = false := ho.out.frozenAt k
      have hf : Hid ((wr.setCell ⟨w.heap.size, k, none⟩ (.int .u8 (n / 2 ^ (8 * k) % 256))).ownsRow w.heap.size 5 1 (.slice (some ⟨w.heap.size, 0, none⟩) m m) m (putFill n m (k + 1))) := by
        rw [← bytN_nat, ← putFill_set n m k hlt]
        exact Lib.hid (ho.out.stored k _).1
      have hk2 := Lib.hid (hb.out.setCell (p := ⟨w.heap.size, k, none⟩) (Nat.le_refl _) (.int .u8 (n / 2 ^ (8 * k) % 256)))
      go_wp2
      go_roundw
      case rel => exact ⟨k + 1, by omega, by go_num, hf, hk2⟩
      case measure => simp [intOf]; omega
    · obtain rfl : k = m := by omega
      have ho2 := ho.out
      rw [putFill_full] at ho2
      have hcv := own_str 46 9 5 Tryz.underlying46 Tryz.underlying5 Tryz.underlying9 ho2
      clear ho2
      go_wp2
      go_ret2
      exact ⟨ret2_se (by rw [Int.toNat_natCast]), hb.out⟩
theorem fits32_any (n : Int) (w : World) : Calls Tryz.prog 221 #[.int .i64 n] w fun e w' => e = .returned (.bool (decide (-2147483648 ≤ n ∧ n ≤ 2147483647))) ∧ w = w' := by
  have H : Hid ((wrap64 (wrap32 n) == n) = decide (-2147483648 ≤ n ∧ n ≤ 2147483647)) := Lib.hid (by
    rw [Bool.eq_iff_iff, beq_iff_eq, decide_eq_true_iff]
    unfold wrap64 wrap32
    omega)
  go_enter Tryz.func221, Tryz.ntmps221
  go_wp2
  go_ret
  exact ⟨by rw [← H.out]; rfl, rfl⟩
theorem enc32_no (n sz : Int) (h : n < -2147483648 ∨ 2147483647 < n) (a b : Addr) (w : World) (hs : Sent w a b) : Calls Tryz.prog 195 #[.int .i64 n, .int .i64 sz] w fun e w' => e = .returned (.tuple #[.string ⟨#[]⟩, .iface 226 (.agg #[.int .i64 n, .iface 289 (.pointer (some a))])]) ∧ Below w.heap.size w w' := by
  have hd : decide (-2147483648 ≤ n ∧ n ≤ 2147483647) = false := decide_eq_false (by omega)
  have h1 := hs.1
  clear hs h
  go_enter Tryz.func195, Tryz.ntmps195
  go_wp2_with first | (go_at_call 221; refine (fits32_any _ _).mono ?_; rintro e w' ⟨rfl, rfl⟩)
  go_quiet (fail)
  go_wp2
  go_ret2
  exact ⟨rfl, below_drewN (Below.refl _ _) _⟩
theorem enc32_yes (n : Int) (h : -2147483648 ≤ n ∧ n ≤ 2147483647) (sz : Int) (h0 : 0 ≤ sz) (h4 : sz ≤ 4) (w : World) : Calls Tryz.prog 195 #[.int .i64 n, .int .i64 sz] w fun e w' => e = .returned (.tuple #[.string ⟨(putTo n sz.toNat).toArray⟩, .nilIface]) ∧ Below w.heap.size w w' := by
  obtain ⟨m, rfl⟩ := Int.eq_ofNat_of_zero_le h0
  have hm : m ≤ 4 := by omega
  have hd : decide (-2147483648 ≤ n ∧ n ≤ 2147483647) = true := decide_eq_true h
  obtain ⟨i0, hi, hz0, hz1, hz2⟩ := info_parts (show (Tryz.prog.info? 5).map (fun i => (i.zero, i.size, i.bytes)) = some (some (.int .u8 0), 1, 1) by kernel_rfl)
  have HI := Lib.hid (And.intro hi (And.intro hz0 (And.intro hz1 hz2)))
  clear hi hz0 hz1 hz2 h0 h4
  go_enter Tryz.func195, Tryz.ntmps195
  go_wp2_with first | (go_at_call 221; refine (fits32_any _ _).mono ?_; rintro e w' ⟨rfl, rfl⟩) | (at_make; go_must (refine wpList_make_full _ rfl _ _ _ rfl w.heap.size 5 i0 _ 1 Tryz.underlying46 HI.out.1 HI.out.2.1 HI.out.2.2.1 .i64 .i64 _ _ m rfl rfl rfl rfl (by rw [HI.out.2.2.2]; omega) (by unfold maxLen; omega) (Nat.le_refl _) ?_); intro w1 hown1 hgrow1)
  have Ho1 : Hid (w1.ownsRow w.heap.size 5 1 (.slice (some ⟨w.heap.size, 0, none⟩) m m) m (putFill n m 0)) := by
    rw [putFill_zero]
    have h1 : (madeCells (Value.int IntKind.u8 0).cells (m * 1)).toList = List.replicate (m * 1) (.int .u8 0) := toList_madeCells_one _ _
    rw [h1, Nat.mul_one] at hown1
    exact Lib.hid hown1
  have Hb1 := Lib.hid ((Below.refl w.heap.size w).grown hgrow1 (Nat.le_refl _) (by intro k hk; cases hk))
  clear hown1 hgrow1
  go_loopw [19] (fun i wr => ∃ k : Nat, k ≤ m ∧ i = .int .i64 k ∧ Hid (wr.ownsRow w.heap.size 5 1 (.slice (some ⟨w.heap.size, 0, none⟩) m m) m (putFill n m k)) ∧ Hid (Below w.heap.size w wr)) (fun i _ => m - (intOf i).toNat)
  case atStart => exact ⟨0, Nat.zero_le _, rfl, Ho1, Hb1⟩
  case round =>
    obtain ⟨k, hk, rfl, ho, hb⟩ := hrel
    by_cases hlt : k < m
    · have hcell : wr.cell? ⟨w.heap.size, k, none⟩ = some (.int .u8 0) := (ho.out.cellAt k (by omega)).trans (putFill_at n m k hlt)
      have hfrz : wr.frozen? ⟨w.heap.size, k, none⟩ = false := ho.out.frozenAt k
      have hf : Hid ((wr.setCell ⟨w.heap.size, k, none⟩ (.int .u8 (n / 2 ^ (8 * k) % 256))).ownsRow w.heap.size 5 1 (.slice (some ⟨w.heap.size, 0, none⟩) m m) m (putFill n m (k + 1))) := by
        rw [← bytN_nat, ← putFill_set n m k hlt]
        exact Lib.hid (ho.out.stored k _).1
      have hk2 := Lib.hid (hb.out.setCell (p := ⟨w.heap.size, k, none⟩) (Nat.le_refl _) (.int .u8 (n / 2 ^ (8 * k) % 256)))
      go_wp2
      go_roundw
      case rel => exact ⟨k + 1, by omega, by go_num, hf, hk2⟩
      case measure => simp [intOf]; omega
    · obtain rfl : k = m := by omega
      have ho2 := ho.out
      rw [putFill_full] at ho2
      have hcv := own_str 46 9 5 Tryz.underlying46 Tryz.underlying5 Tryz.underlying9 ho2
      clear ho2
      go_wp2
      go_ret2
      exact ⟨ret2_se (by rw [Int.toNat_natCast]), hb.out⟩
/-- Does n fit into size bytes? -/
def fitsN (n size : Int) : Bool := decide ((size = 1 ∧ -128 ≤ n ∧ n ≤ 127) ∨ (size = 2 ∧ -32768 ≤ n ∧ n ≤ 32767) ∨ (size = 4 ∧ -2147483648 ≤ n ∧ n ≤ 2147483647))
def putS (n size : Int) : ByteArray := if fitsN n size = true then ⟨(putTo n size.toNat).toArray⟩ else ⟨#[]⟩
def putC (n size : Int) : Int := if fitsN n size = true then 0 else 4
theorem putS_yes {n size : Int} (h : fitsN n size = true) : putS n size = ⟨(putTo n size.toNat).toArray⟩ := if_pos h
theorem putC_yes {n size : Int} (h : fitsN n size = true) : putC n size = 0 := if_pos h
theorem putS_no {n size : Int} (h : fitsN n size = false) : putS n size = ⟨#[]⟩ := by unfold putS; rw [h]; rfl
theorem putC_no {n size : Int} (h : fitsN n size = false) : putC n size = 4 := by unfold putC; rw [h]; rfl
/-- encode answers the bytes, or an error that wraps the sentinel. -/
theorem encode_yes (n size : Int) (h : fitsN n size = true) (w : World) : Calls Tryz.prog 157 #[.int .i64 n, .int .i64 size] w fun e w' => e = .returned (.tuple #[.string (putS n size), .nilIface]) ∧ Below w.heap.size w w' := by
  have H := Lib.hid (putS_yes h)
  rcases of_decide_eq_true h with ⟨rfl, h1, h2⟩ | ⟨rfl, h1, h2⟩ | ⟨rfl, h1, h2⟩
  all_goals
    clear h
    go_enter Tryz.func157, Tryz.ntmps157
    go_wp2_with first | (go_at_call 193; refine (enc8_yes _ ⟨h1, h2⟩ _ (by omega) (by omega) _).mono ?_; rintro e w1 ⟨rfl, hb1⟩) | (go_at_call 194; refine (enc16_yes _ ⟨h1, h2⟩ _ (by omega) (by omega) _).mono ?_; rintro e w1 ⟨rfl, hb1⟩) | (go_at_call 195; refine (enc32_yes _ ⟨h1, h2⟩ _ (by omega) (by omega) _).mono ?_; rintro e w1 ⟨rfl, hb1⟩)
    go_ret2
    exact ⟨ret2_se (by rw [H.out]; rfl), hb1⟩
def IsErr (a : Addr) (w : World) (e : Ending) (w' : World) : Prop :=
  ∃ v : Int, e = .returned (.tuple #[.string ⟨#[]⟩, .iface 226 (.agg #[.int .i64 v, .iface 289 (.pointer (some a))])]) ∧ Below w.heap.size w w'
theorem encode_no (n size : Int) (h : fitsN n size = false) (a b : Addr) (w : World) (hs : Sent w a b) : Calls Tryz.prog 157 #[.int .i64 n, .int .i64 size] w (IsErr a w) := by
  have Hs := Lib.hid hs
  have hr := of_decide_eq_false h
  have hg := hs.1
  clear h hs
  by_cases h1 : size = 1
  · subst h1
    have H := Lib.hid (show n < -128 ∨ 127 < n by omega)
    clear hr hg
    go_enter Tryz.func157, Tryz.ntmps157
    go_wp2_with (go_at_call 193; refine (enc8_no _ _ H.out a b _ Hs.out).mono ?_; rintro e w1 ⟨rfl, hb1⟩)
    go_ret2
    exact ⟨n, rfl, hb1⟩
  by_cases h2 : size = 2
  · subst h2
    have H := Lib.hid (show n < -32768 ∨ 32767 < n by omega)
    clear hr hg h1
    go_enter Tryz.func157, Tryz.ntmps157
    go_wp2_with (go_at_call 194; refine (enc16_no _ _ H.out a b _ Hs.out).mono ?_; rintro e w1 ⟨rfl, hb1⟩)
    go_ret2
    exact ⟨n, rfl, hb1⟩
  by_cases h4 : size = 4
  · subst h4
    have H := Lib.hid (show n < -2147483648 ∨ 2147483647 < n by omega)
    clear hr hg h1 h2
    go_enter Tryz.func157, Tryz.ntmps157
    go_wp2_with (go_at_call 195; refine (enc32_no _ _ H.out a b _ Hs.out).mono ?_; rintro e w1 ⟨rfl, hb1⟩)
    go_ret2
    exact ⟨n, rfl, hb1⟩
  have g1 : (size == 1) = false := beq_eq_false_iff_ne.2 h1
  have g2 : (size == 2) = false := beq_eq_false_iff_ne.2 h2
  have g4 : (size == 4) = false := beq_eq_false_iff_ne.2 h4
  clear hr h1 h2 h4
  go_enter Tryz.func157, Tryz.ntmps157
  go_wp2
  go_quiet (fail)
  go_wp2
  go_ret2
  exact ⟨size, rfl, below_drewN (Below.refl _ _) _⟩
theorem ret2_si' {a b : ByteArray} {c d : Int} (h : a = b) (k : c = d) : Ending.returned (.tuple #[.string a, .int .i64 c]) = .returned (.tuple #[.string b, .int .i64 d]) := by rw [h, k]
theorem putNumber_any (n size : Int) (a b : Addr) (w : World) (hs : Sent w a b) : Calls Tryz.prog 104 #[.int .i64 n, .int .i64 size] w fun e w' => e = .returned (.tuple #[.string (putS n size), .int .i64 (putC n size)]) ∧ Below w.heap.size w w' := by
  have Hs := Lib.hid hs
  clear hs
  cases hf : fitsN n size
  · have H := Lib.hid (And.intro (putS_no hf) (putC_no hf))
    go_enter Tryz.func104, Tryz.ntmps104
    go_wp2_with fail
    refine (encode_no n size hf a b w Hs.out).mono ?_
    rintro e w1 ⟨v, rfl, hb1⟩
    have Hb1 := Lib.hid hb1
    clear hb1
    go_wp2_with (go_at_call 158; refine (code_range _ _ b _ (Hs.out.below Hb1.out)).mono ?_; rintro e w2 ⟨rfl, hb2⟩)
    go_ret2
    exact ⟨ret2_si' (by rw [H.out.1]) (by rw [H.out.2]), Hb1.out.trans (hb2.mono Hb1.out.size)⟩
  · have H := Lib.hid (putC_yes hf)
    go_enter Tryz.func104, Tryz.ntmps104
    go_wp2_with fail
    refine (encode_yes n size hf w).mono ?_
    rintro e w1 ⟨rfl, hb1⟩
    go_wp2_with (go_at_call 158; refine (code_nil _).mono ?_; rintro e w2 ⟨rfl, rfl⟩)
    go_ret2
    exact ⟨ret2_si' rfl (by rw [H.out]), hb1⟩
theorem ret_bb {a b : Bool} (h : a = b) : Ending.returned (.bool a) = .returned (.bool b) := by rw [h]
def sizeOK (size : Int) : Bool := decide (size = 1 ∨ size = 2 ∨ size = 4)
theorem l01In_any (n a b : Int) (w : World) : Calls Tryz.prog 166 #[.int .i64 n, .int .i64 a, .int .i64 b] w fun e w' => e = .returned (.bool (decide (a ≤ n ∧ n ≤ b))) ∧ w = w' := by
  go_enter Tryz.func166, Tryz.ntmps166
  go_wp2
  all_goals go_ret
  · have h1 : a ≤ n := by assumption
    exact ⟨by simp [h1], rfl⟩
  · have h1 : n < a := by assumption
    have h2 : ¬ a ≤ n := by omega
    exact ⟨by simp [h2], rfl⟩
/-- The k-th state of the shifted number. -/
def shN (n : Int) (k : Nat) : Int := IntKind.u64.wrap n / 2 ^ (8 * k)
theorem shN_zero (n : Int) : shN n 0 = IntKind.u64.wrap n := by unfold shN; simp
theorem shN_succ (n : Int) (k : Nat) : shN n k / 256 = shN n (k + 1) := by
  unfold shN
  rw [Int.ediv_ediv_of_nonneg (by exact Int.pow_nonneg (by omega)), show 8 * (k + 1) = 8 * k + 8 from by omega, Int.pow_add]
  rfl
theorem u64_rng (n : Int) : 0 ≤ IntKind.u64.wrap n ∧ IntKind.u64.wrap n ≤ 18446744073709551615 := by rw [IntKind.wrap_u64]; omega
theorem shN_rng (n : Int) (k : Nat) : 0 ≤ shN n k ∧ shN n k ≤ 18446744073709551615 := by
  have h := u64_rng n
  have hp : (0 : Int) < 2 ^ (8 * k) := Int.pow_pos (by omega)
  unfold shN
  exact ⟨Int.ediv_nonneg h.1 (by omega), Int.le_trans (Int.ediv_le_self _ h.1) h.2⟩
theorem shN_byte (n : Int) (k : Nat) (hk : k < 4) : shN n k % 256 = n / 2 ^ (8 * k) % 256 := by
  unfold shN
  rw [IntKind.wrap_u64]
  match k, hk with
  | 0, _ => simp
  | 1, _ => simp; omega
  | 2, _ => simp; omega
  | 3, _ => simp; omega
theorem l01Put_any (n sz : Int) (h0 : 0 ≤ sz) (h4 : sz ≤ 4) (w : World) : Calls Tryz.prog 114 #[.int .i64 n, .int .i64 sz] w fun e w' => e = .returned (.string ⟨(putTo n sz.toNat).toArray⟩) ∧ Below w.heap.size w w' := by
  obtain ⟨m, rfl⟩ := Int.eq_ofNat_of_zero_le h0
  have hm : m ≤ 4 := by omega
  obtain ⟨i0, hi, hz0, hz1, hz2⟩ := info_parts (show (Tryz.prog.info? 5).map (fun i => (i.zero, i.size, i.bytes)) = some (some (.int .u8 0), 1, 1) by kernel_rfl)
  have HI := Lib.hid (And.intro hi (And.intro hz0 (And.intro hz1 hz2)))
  clear hi hz0 hz1 hz2 h0 h4
  go_enter Tryz.func114, Tryz.ntmps114
  go_wp2
  go_loopw [5, 6, 7] (fun v u i wr => ∃ k : Nat, k ≤ m ∧ i = .int .i64 k ∧ u = .int .u64 (shN n k) ∧ Hid (wr.ownsRow w.heap.size 5 1 v k (u8s (putTo n k))) ∧ Hid (Below w.heap.size w wr)) (fun _ _ i _ => m - (intOf i).toNat)
  case atStart => exact ⟨0, Nat.zero_le _, rfl, by rw [shN_zero], Lib.hid (World.ownsRow_lit w #[] 0 (Nat.le_refl _) (Nat.zero_le _) rfl), Lib.hid ((Below.refl _ _).alloc (Nat.le_refl _) _)⟩
  case round =>
    obtain ⟨k, hk, rfl, rfl, ho, hb⟩ := hrel
    have hr := shN_rng n k
    by_cases hlt : k < m
    · have hby := Lib.hid (show shN n k % 256 = ((bytN n k).toNat : Int) by rw [shN_byte n k (by omega), bytN_nat])
      have hsh := Lib.hid (shN_succ n k)
      obtain ⟨H1, H2, H3, H4⟩ := HI.out
      have hown := ho.out
      have hbel := hb.out
      go_wp2_with (at_builtin; go_must (refine wpList_append_own _ rfl (.tmp 16) (.tmp 19) _ rfl w.heap.size 5 i0 _ 1 1 Tryz.underlying46 H1 H2 H3 H4 rfl (by decide) u5 k (u8s (putTo n k)) rfl (hown.alloc _) ⟨wr.heap.size, 0, none⟩ 1 1 [.int .u8 (shN n k % 256)] rfl rfl (cell_one_new _ _ _) (by simp [Value.oneCell']) (by unfold maxLen; omega) (by omega) (by have := hbel.size; simp; omega) ?_); intro v' w' g1 g2 _)
      have hf : Hid (w'.ownsRow w.heap.size 5 1 v' (k + 1) (u8s (putTo n (k + 1)))) := by
        rw [hby.out, u8s_snoc] at g1
        exact Lib.hid g1
      have hk2 := Lib.hid (((hbel.alloc hbel.size _).grown g2 (by have := hbel.size; simp; omega) (fun k hk => (hown.lt k hk).1)))
      clear g1 g2 hown hbel H1 H2 H3 H4
      rw [hsh.out]
      exact ⟨⟨k + 1, by omega, by go_num, rfl, hf, hk2⟩, by simp [intOf]; omega⟩
    · obtain rfl : k = m := by omega
      have hcv := own_str 46 9 5 Tryz.underlying46 Tryz.underlying5 Tryz.underlying9 ho.out
      go_wp2
      go_ret
      exact ⟨by rw [Int.toNat_natCast]; rfl, hb.out⟩
theorem sizeOK_of_fits {n size : Int} (h : fitsN n size = true) : sizeOK size = true := by
  have := of_decide_eq_true h
  exact decide_eq_true (by omega)
theorem fits_of_size {n size : Int} (h : sizeOK size = false) : fitsN n size = false := by
  have := of_decide_eq_false h
  exact decide_eq_false (by omega)
theorem size_rng {size : Int} (h : sizeOK size = true) : 0 ≤ size ∧ size ≤ 4 := by
  have := of_decide_eq_true h
  omega
theorem gRange : Tryz.prog.globalNamed "loop.example/g00684/impl.errRange" = some 0 := by kernel_rfl
theorem gEnd : Tryz.prog.globalNamed "loop.example/g00684/impl.errEnd" = some 1 := by kernel_rfl
theorem tRange : (Tryz.prog.globals[0]?).map (·.type) = some 187 := by kernel_rfl
theorem tEnd : (Tryz.prog.globals[1]?).map (·.type) = some 187 := by kernel_rfl
theorem cellsES : Tryz.prog.cellsOf 313 = 1 := by kernel_rfl
theorem cellsS : Tryz.prog.cellsOf 9 = 1 := by kernel_rfl
theorem starES : "*errors.errorString" = "*" ++ "errors.errorString" := by decide
theorem rowES (u : TypeId) (h : Tryz.prog.typeName? 3 u = some "*errors.errorString") : u = 289 :=
  typeName_ptr_named (nm := "errors.errorString") (by rw [← starES]; kernel_rfl) (by kernel_rfl) (by decide) u (by rw [← starES]; exact h)
/-- What the row's list gives: the two sentinels. -/
theorem sent_of {W : World} (h : laidMetH Tryz.prog [("loop.example/g00684/impl.errRange", Rows.laid_loop_example_g00684_impl_errRange), ("loop.example/g00684/impl.errEnd", Rows.laid_loop_example_g00684_impl_errEnd)] W) : ∃ a b, Sent W a b := by
  have h' : laidMet Tryz.prog [("loop.example/g00684/impl.errRange", Rows.laid_loop_example_g00684_impl_errRange), ("loop.example/g00684/impl.errEnd", Rows.laid_loop_example_g00684_impl_errEnd)] W := h
  obtain ⟨a, b, s0, s1, c0, c1, t0, t1, v0, v1, _, _, _, _, _, _, hne, h0, h1⟩ := laid_sentinels2 (nm := "*errors.errorString") h' gRange tRange gEnd tEnd Tryz.underlying187 rowES Tryz.underlying289 Tryz.underlying313 rfl rfl Tryz.underlying9 cellsES cellsS
  exact ⟨a, b, by simpa using World.var?_cell gRange v0 0, by simpa using World.var?_cell gEnd v1 0, hne, c0, c1, t0, t1, h0, h1⟩
end Go.Proofs.YtppgknjpbfopjaaGreatDoor
