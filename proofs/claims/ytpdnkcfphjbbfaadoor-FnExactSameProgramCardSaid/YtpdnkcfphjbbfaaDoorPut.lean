/- PutNumber of impl and of spec compute the same function. -/
import Derived.Test.YtpdnkcfphjbbfaaDoorErr
import Derived.Test.YtpdnkcfphjbbfaaDoorOwn
import Derived.Test.YtpdnkcfphjbbfaaDoorCardKit
import Derived.Deep.QuietTactic
import Derived.BigQuiet
import Derived.WalkSpells
namespace Go.Proofs.YtpdnkcfphjbbfaaDoor
open Go.ChangeShapes Go.WideShapes Go.ChangeAt Go.RowKit
/-- Byte i of a number's two's complement. -/
def bytN (n : Int) (i : Nat) : UInt8 := UInt8.ofNat (n / 2 ^ (8 * i) % 256).toNat
theorem bytN_nat (n : Int) (i : Nat) : ((bytN n i).toNat : Int) = n / 2 ^ (8 * i) % 256 := by
  unfold bytN
  rw [UInt8.toNat_ofNat']
  omega
def putTo (n : Int) : Nat → List UInt8
  | 0 => []
  | k + 1 => putTo n k ++ [bytN n k]
theorem putTo_len (n : Int) (k : Nat) : (putTo n k).length = k := by
  induction k with
  | zero => rfl
  | succ k ih => simp [putTo, ih]
theorem ret2_se {a b : ByteArray} {v : Value} (h : a = b) : Ending.returned (.tuple #[.string a, v]) = .returned (.tuple #[.string b, v]) := by rw [h]
def putFill (n : Int) (m k : Nat) : List Value := u8s (putTo n k) ++ List.replicate (m - k) (.int .u8 0)
theorem putFill_zero (n : Int) (m : Nat) : putFill n m 0 = List.replicate m (.int .u8 0) := by simp [putFill, putTo, u8s]
theorem putFill_full (n : Int) (m : Nat) : putFill n m m = u8s (putTo n m) := by simp [putFill]
theorem putFill_at (n : Int) (m k : Nat) (h : k < m) : (putFill n m k)[k]? = some (.int .u8 0) := by
  unfold putFill
  rw [List.getElem?_append_right (by rw [u8s_len, putTo_len]; exact Nat.le_refl _), u8s_len, putTo_len, Nat.sub_self, List.getElem?_replicate, if_pos (by omega)]
theorem putFill_set (n : Int) (m k : Nat) (h : k < m) : (putFill n m k).set k (.int .u8 ((bytN n k).toNat : Int)) = putFill n m (k + 1) := by
  unfold putFill
  rw [List.set_append_right _ _ (by rw [u8s_len, putTo_len]; exact Nat.le_refl _), u8s_len, putTo_len]
  obtain ⟨d, hd⟩ : ∃ d, m - k = d + 1 := ⟨m - k - 1, by omega⟩
  have hd2 : m - (k + 1) = d := by omega
  rw [hd, hd2, Nat.sub_self]
  show _ ++ (List.replicate (d + 1) _).set 0 _ = _
  rw [List.replicate_succ, List.set_cons_zero, putTo, ← u8s_snoc, List.append_assoc]
  rfl
/-- Does n fit into size bytes? -/
def fitsN (n size : Int) : Bool := decide ((size = 1 ∧ -128 ≤ n ∧ n ≤ 127) ∨ (size = 2 ∧ -32768 ≤ n ∧ n ≤ 32767) ∨ (size = 4 ∧ -2147483648 ≤ n ∧ n ≤ 2147483647))
def putS (n size : Int) : ByteArray := if fitsN n size = true then ⟨(putTo n size.toNat).toArray⟩ else ⟨#[]⟩
def putC (n size : Int) : Int := if fitsN n size = true then 0 else 4
theorem putS_yes {n size : Int} (h : fitsN n size = true) : putS n size = ⟨(putTo n size.toNat).toArray⟩ := if_pos h
theorem putC_yes {n size : Int} (h : fitsN n size = true) : putC n size = 0 := if_pos h
theorem putS_no {n size : Int} (h : fitsN n size = false) : putS n size = ⟨#[]⟩ := by unfold putS; rw [h]; rfl
theorem putC_no {n size : Int} (h : fitsN n size = false) : putC n size = 4 := by unfold putC; rw [h]; rfl
theorem ret2_si' {a b : ByteArray} {c d : Int} (h : a = b) (k : c = d) : Ending.returned (.tuple #[.string a, .int .i64 c]) = .returned (.tuple #[.string b, .int .i64 d]) := by rw [h, k]
theorem ret_bb {a b : Bool} (h : a = b) : Ending.returned (.bool a) = .returned (.bool b) := by rw [h]
def sizeOK (size : Int) : Bool := decide (size = 1 ∨ size = 2 ∨ size = 4)
theorem l01In_any (n a b : Int) (w : World) : Calls Tryd.prog 62 #[.int .i64 n, .int .i64 a, .int .i64 b] w fun e w' => e = .returned (.bool (decide (a ≤ n ∧ n ≤ b))) ∧ w = w' := by
  go_enter Tryd.func62, Tryd.ntmps62
  go_wp2
  all_goals go_ret
  · have h1 : a ≤ n := by assumption
    exact ⟨by simp [h1], rfl⟩
  · have h1 : n < a := by assumption
    have h2 : ¬ a ≤ n := by omega
    exact ⟨by simp [h2], rfl⟩
/-- The k-th state of the shifted number. -/
def shN (n : Int) (k : Nat) : Int := IntKind.u64.wrap n / 2 ^ (8 * k)
theorem shN_zero (n : Int) : shN n 0 = IntKind.u64.wrap n := by unfold shN; simp
theorem shN_succ (n : Int) (k : Nat) : shN n k / 256 = shN n (k + 1) := by
  unfold shN
  rw [Int.ediv_ediv_of_nonneg (by exact Int.pow_nonneg (by omega)), show 8 * (k + 1) = 8 * k + 8 from by omega, Int.pow_add]
  rfl
theorem u64_rng (n : Int) : 0 ≤ IntKind.u64.wrap n ∧ IntKind.u64.wrap n ≤ 18446744073709551615 := by rw [IntKind.wrap_u64]; omega
theorem shN_rng (n : Int) (k : Nat) : 0 ≤ shN n k ∧ shN n k ≤ 18446744073709551615 := by
  have h := u64_rng n
  have hp : (0 : Int) < 2 ^ (8 * k) := Int.pow_pos (by omega)
  unfold shN
  exact ⟨Int.ediv_nonneg h.1 (by omega), Int.le_trans (Int.ediv_le_self _ h.1) h.2⟩
theorem shN_byte (n : Int) (k : Nat) (hk : k < 4) : shN n k % 256 = n / 2 ^ (8 * k) % 256 := by
  unfold shN
  rw [IntKind.wrap_u64]
  match k, hk with
  | 0, _ => simp
  | 1, _ => simp; omega
  | 2, _ => simp; omega
  | 3, _ => simp; omega
theorem l01Put_any (n sz : Int) (h0 : 0 ≤ sz) (h4 : sz ≤ 4) (w : World) : Calls Tryd.prog 53 #[.int .i64 n, .int .i64 sz] w fun e w' => e = .returned (.string ⟨(putTo n sz.toNat).toArray⟩) ∧ Below w.heap.size w w' := by
  obtain ⟨m, rfl⟩ := Int.eq_ofNat_of_zero_le h0
  have hm : m ≤ 4 := by omega
  obtain ⟨i0, hi, hz0, hz1, hz2⟩ := info_parts (show (Tryd.prog.info? 5).map (fun i => (i.zero, i.size, i.bytes)) = some (some (.int .u8 0), 1, 1) by kernel_rfl)
  have HI := Lib.hid (And.intro hi (And.intro hz0 (And.intro hz1 hz2)))
  clear hi hz0 hz1 hz2 h0 h4
  go_enter Tryd.func53, Tryd.ntmps53
  go_wp2
  go_loopw [5, 6, 7] (fun v u i wr => ∃ k : Nat, k ≤ m ∧ i = .int .i64 k ∧ u = .int .u64 (shN n k) ∧ Hid (wr.ownsRow w.heap.size 5 1 v k (u8s (putTo n k))) ∧ Hid (Below w.heap.size w wr)) (fun _ _ i _ => m - (intOf i).toNat)
  case atStart => exact ⟨0, Nat.zero_le _, rfl, by rw [shN_zero], Lib.hid (World.ownsRow_lit w #[] 0 (Nat.le_refl _) (Nat.zero_le _) rfl), Lib.hid ((Below.refl _ _).alloc (Nat.le_refl _) _)⟩
  case round =>
    obtain ⟨k, hk, rfl, rfl, ho, hb⟩ := hrel
    have hr := shN_rng n k
    by_cases hlt : k < m
    · have hby := Lib.hid (show shN n k % 256 = ((bytN n k).toNat : Int) by rw [shN_byte n k (by omega), bytN_nat])
      have hsh := Lib.hid (shN_succ n k)
      obtain ⟨H1, H2, H3, H4⟩ := HI.out
      have hown := ho.out
      have hbel := hb.out
      go_wp2_with (at_builtin; go_must (refine wpList_append_own _ rfl (.tmp 16) (.tmp 19) _ rfl w.heap.size 5 i0 _ 1 1 Tryd.underlying84 H1 H2 H3 H4 rfl (by decide) u5 k (u8s (putTo n k)) rfl (hown.alloc _) ⟨wr.heap.size, 0, none⟩ 1 1 [.int .u8 (shN n k % 256)] rfl rfl (cell_one_new _ _ _) (by simp [Value.oneCell']) (by unfold maxLen; omega) (by omega) (by have := hbel.size; simp; omega) ?_); intro v' w' g1 g2 _)
      have hf : Hid (w'.ownsRow w.heap.size 5 1 v' (k + 1) (u8s (putTo n (k + 1)))) := by
        rw [hby.out, u8s_snoc] at g1
        exact Lib.hid g1
      have hk2 := Lib.hid (((hbel.alloc hbel.size _).grown g2 (by have := hbel.size; simp; omega) (fun k hk => (hown.lt k hk).1)))
      clear g1 g2 hown hbel H1 H2 H3 H4
      rw [hsh.out]
      exact ⟨⟨k + 1, by omega, by go_num, rfl, hf, hk2⟩, by simp [intOf]; omega⟩
    · obtain rfl : k = m := by omega
      have hcv := own_str 84 9 5 Tryd.underlying84 Tryd.underlying5 Tryd.underlying9 ho.out
      go_wp2
      go_ret
      exact ⟨by rw [Int.toNat_natCast]; rfl, hb.out⟩
theorem sizeOK_of_fits {n size : Int} (h : fitsN n size = true) : sizeOK size = true := by
  have := of_decide_eq_true h
  exact decide_eq_true (by omega)
theorem fits_of_size {n size : Int} (h : sizeOK size = false) : fitsN n size = false := by
  have := of_decide_eq_false h
  exact decide_eq_false (by omega)
theorem size_rng {size : Int} (h : sizeOK size = true) : 0 ≤ size ∧ size ≤ 4 := by
  have := of_decide_eq_true h
  omega
theorem cellsS : Tryd.prog.cellsOf 9 = 1 := by kernel_rfl
theorem starES : "*errors.errorString" = "*" ++ "errors.errorString" := by decide
end Go.Proofs.YtpdnkcfphjbbfaaDoor
