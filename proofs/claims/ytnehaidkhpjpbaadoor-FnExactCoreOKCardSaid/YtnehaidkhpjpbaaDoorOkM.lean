/- Elements of the stack beside their types. -/
import Derived.Test.YtnehaidkhpjpbaaDoorGen
import Derived.Test.YtnehaidkhpjpbaaDoorOwn
import Derived.Test.YtnehaidkhpjpbaaDoorFb
import Derived.Test.YtnehaidkhpjpbaaDoorNum
import Derived.Test.YtnehaidkhpjpbaaDoorPut
import Derived.Test.YtnehaidkhpjpbaaDoorOpn
import Derived.Test.YtnehaidkhpjpbaaDoorStk
import Derived.Test.YtnehaidkhpjpbaaDoorCor
import Derived.Test.YtnehaidkhpjpbaaDoorOkV
namespace Go.Proofs.YtnehaidkhpjpbaaDoor
open Go.ChangeShapes Go.WideShapes Go.ChangeAt Go.RowKit Go.PlainAid
set_option linter.unusedVariables false
theorem mt_isValue (n : Int) (w : World) : Calls Tryd.prog 149 #[.int .i64 n] w fun e w' => e = .returned (.bool (inI32 n)) ∧ w = w' := by
  go_enter Tryd.func149, Tryd.ntmps149
  go_wp2_with (go_at_call 167; refine (fits32_any _ _).mono ?_; rintro e w' ⟨rfl, rfl⟩)
  go_ret
  exact ⟨by unfold inI32; simp, rfl⟩
theorem mt_isValue_is {n : Int} {b : Bool} (h : inI32 n = b) (w : World) : Calls Tryd.prog 149 #[.int .i64 n] w fun e w' => e = .returned (.bool b) ∧ w = w' := h ▸ mt_isValue n w
theorem mt_l01Int (n : Int) (w : World) : Calls Tryd.prog 117 #[.int .i64 n] w fun e w' => e = .returned (.bool (inI32 n)) ∧ w = w' := by
  go_enter Tryd.func117, Tryd.ntmps117
  go_wp2_with (go_at_call 64; refine (fbIn_any _ _ _ _).mono ?_; rintro e w' ⟨rfl, rfl⟩)
  go_ret
  exact ⟨rfl, rfl⟩
theorem mt_l01Int_is {n : Int} {b : Bool} (h : inI32 n = b) (w : World) : Calls Tryd.prog 117 #[.int .i64 n] w fun e w' => e = .returned (.bool b) ∧ w = w' := h ▸ mt_l01Int n w
def elB (t n : Int) : Bool := inI32 n && (decide (t ≠ 98) || (decide (n = 0) || decide (n = 1)))
def mB (T : ByteArray) (l : List Int) : Bool := (List.range l.length).all fun j => elB (bt T j) (l.getD j 0)
theorem mB_no {T : ByteArray} {l : List Int} {j : Nat} (hj : j < l.length) (h : elB (bt T j) (l.getD j 0) = false) : mB T l = false := by
  unfold mB
  rw [List.all_eq_false]
  exact ⟨j, List.mem_range.2 hj, by rw [h]; simp⟩
theorem mB_yes {T : ByteArray} {l : List Int} (h : ∀ j, j < l.length → elB (bt T j) (l.getD j 0) = true) : mB T l = true := by
  unfold mB
  rw [List.all_eq_true]
  exact fun j hj => h j (List.mem_range.1 hj)
theorem elB_out {t n : Int} (h : inI32 n = false) : elB t n = false := by unfold elB; rw [h]; rfl
theorem elB_int {t n : Int} (h : inI32 n = true) (ht : t ≠ 98) : elB t n = true := by unfold elB; rw [h, decide_eq_true ht]; rfl
theorem elB_zero {t n : Int} (h : inI32 n = true) (h0 : n = 0) : elB t n = true := by unfold elB; rw [h, decide_eq_true h0]; simp
theorem elB_one {t n : Int} (h : inI32 n = true) (h0 : n = 1) : elB t n = true := by unfold elB; rw [h, decide_eq_true h0]; simp
theorem elB_bad {t n : Int} (ht : t = 98) (h0 : n ≠ 0) (h1 : n ≠ 1) : elB t n = false := by unfold elB; rw [decide_eq_false (fun q => q ht), decide_eq_false h0, decide_eq_false h1]; simp
set_option maxRecDepth 100000 in
set_option maxHeartbeats 1000000 in
theorem matches_any (T : ByteArray) (l : List Int) (a : Option Addr) (c : Nat) (hl : l.length ≤ maxLen) (hT : T.size = l.length) (w : World) (hz : Lies w a (kC l)) :
    Calls Tryd.prog 121 #[.slice a l.length c, .string T] w fun e w' => e = .returned (.bool (mB T l)) ∧ Below w.heap.size w w' := by
  have HZ := Lib.hid hz
  have HN := Lib.hid (fun j => @mB_no T l j)
  have HY := Lib.hid (@mB_yes T l)
  clear hz
  generalize mB T l = R at *
  unfold maxLen at hl
  generalize hL : l.length = n at *
  have HL := Lib.hid hL
  clear hL
  go_enter Tryd.func121, Tryd.ntmps121
  go_wp2
  go_loopw [9] (fun i wr => ∃ k : Nat, k ≤ n ∧ i = .int .i64 k ∧ Hid (∀ q, q < k → elB (bt T q) (l.getD q 0) = true) ∧ Hid (Below w.heap.size w wr)) (fun i _ => n - (intOf i).toNat)
  case atStart => exact ⟨0, Nat.zero_le _, rfl, Lib.hid (by intro q hq; omega), Lib.hid (Below.refl _ _)⟩
  case round =>
    obtain ⟨k, hk, rfl, hr, hb⟩ := hrel
    by_cases hlt : k < n
    · obtain ⟨b1, o1, rfl, hb1, hc1⟩ := HZ.out.open (by rw [kC_len, HL.out]; omega)
      have d0 := (hb.out.cell (p := ⟨b1, o1 + k, none⟩) hb1).trans (kind_at hc1 (i := k) (by rw [HL.out]; exact hlt))
      have hi1 : (k : Int) < (T.size : Int) := by omega
      have hkT : k < T.size := by omega
      have hbt : bt T k = ((T[k]'hkT).toNat : Int) := dif_pos hkT
      have HX := Lib.hid (HN.out k hlt)
      have HK : Hid (elB (bt T k) (l.getD k 0) = true → ∀ q, q < k + 1 → elB (bt T q) (l.getD q 0) = true) := Lib.hid (fun h q hq => by
        by_cases e : q = k
        · rw [e]; exact h
        · exact hr.out q (by omega))
      clear hc1
      generalize l.getD k 0 = x at *
      cases hc : inI32 x
      case false =>
        have HC := Lib.hid hc
        have HR := Lib.hid (HX.out (elB_out hc))
        clear hc HX HK
        go_wp2_with (go_at_call 149; refine (mt_isValue_is HC.out _).mono ?_; rintro e w' ⟨rfl, rfl⟩)
        go_ret
        exact ⟨rb_eq HR.out.symm, hb.out⟩
      have HC := Lib.hid hc
      by_cases h98 : bt T k = 98
      case neg =>
        have HK2 := Lib.hid (HK.out (elB_int hc h98))
        rw [hbt] at h98
        clear hc hbt HX HK
        go_wp2_with (go_at_call 149; refine (mt_isValue_is HC.out _).mono ?_; rintro e w' ⟨rfl, rfl⟩)
        go_roundw
        case rel => exact ⟨k + 1, by omega, by go_num, HK2, hb⟩
        case measure => simp [intOf]; omega
      have h98' := h98
      rw [hbt] at h98'
      by_cases h0 : x = 0
      case pos =>
        have HK2 := Lib.hid (HK.out (elB_zero hc h0))
        subst h0
        clear hc h98 hbt HX HK
        go_wp2_with (go_at_call 149; refine (mt_isValue_is HC.out _).mono ?_; rintro e w' ⟨rfl, rfl⟩)
        go_roundw
        case rel => exact ⟨k + 1, by omega, by go_num, HK2, hb⟩
        case measure => simp [intOf]; omega
      by_cases h1 : x = 1
      case pos =>
        have HK2 := Lib.hid (HK.out (elB_one hc h1))
        subst h1
        clear hc h98 hbt HX HK h0
        go_wp2_with (go_at_call 149; refine (mt_isValue_is HC.out _).mono ?_; rintro e w' ⟨rfl, rfl⟩)
        go_roundw
        case rel => exact ⟨k + 1, by omega, by go_num, HK2, hb⟩
        case measure => simp [intOf]; omega
      have HR := Lib.hid (HX.out (elB_bad h98 h0 h1))
      have g3 : (x != 0 && x != 1) = true := by rw [Bool.and_eq_true]; exact ⟨by rw [bne_iff_ne]; exact h0, by rw [bne_iff_ne]; exact h1⟩
      clear hc HX HK h98
      go_wp2_with (go_at_call 149; refine (mt_isValue_is HC.out _).mono ?_; rintro e w' ⟨rfl, rfl⟩)
      go_ret
      exact ⟨rb_eq HR.out.symm, hb.out⟩
    · obtain rfl : k = n := by omega
      have HR := Lib.hid (HY.out hr.out)
      go_wp2
      go_ret
      exact ⟨rb_eq HR.out.symm, hb.out⟩
end Go.Proofs.YtnehaidkhpjpbaaDoor
namespace Go.Proofs.YtnehaidkhpjpbaaDoor
open Go.ChangeShapes Go.WideShapes Go.ChangeAt Go.RowKit
set_option linter.unusedVariables false
theorem cGo_len : ∀ (l A : List Int), l.length ≠ A.length → cGo l A = false
  | [], [], h => absurd rfl h
  | [], a :: A, _ => rfl
  | c :: l, [], _ => rfl
  | c :: l, a :: A, h => by
    rw [cGo, cGo_len l A (fun e => h (by simp [e]))]
    simp
theorem cGo_both {l A : List Int} {i : Nat} (h1 : i < l.length) (h2 : i < A.length) : cGo (l.drop i) (A.drop i) = (decide (1 ≤ l.getD i 0 ∧ l.getD i 0 ≤ A.getD i 0) && cGo (l.drop (i + 1)) (A.drop (i + 1))) := by
  have e1 : l.getD i 0 = l[i] := by simp [List.getD, h1]
  have e2 : A.getD i 0 = A[i] := by simp [List.getD, h2]
  rw [List.drop_eq_getElem_cons h1, List.drop_eq_getElem_cons h2, cGo, e1, e2]
theorem cGo_done {l A : List Int} (h : l.length = A.length) : cGo (l.drop l.length) (A.drop l.length) = true := by
  rw [List.drop_length, h, List.drop_length]; rfl
theorem l01In_isD {n a b : Int} {q : Bool} (h : decide (a ≤ n ∧ n ≤ b) = q) (w : World) : Calls Tryd.prog 64 #[.int .i64 n, .int .i64 a, .int .i64 b] w fun e w' => e = .returned (.bool q) ∧ w = w' := h ▸ l01In_any n a b w
/-- A frame of accepted routines. -/
def fmB (ls : List (List Ins)) (r p : Int) (l : List Int) : Bool := decide (0 ≤ r ∧ r < ls.length) && (decide (0 ≤ p ∧ p ≤ codeLen ls r) && cGo l (loopsL (ls.getD r.toNat []) p.toNat))
theorem fmB_r {ls : List (List Ins)} {r p : Int} {l : List Int} (h : ¬ (0 ≤ r ∧ r < ls.length)) : fmB ls r p l = false := by unfold fmB; rw [decide_eq_false h]; rfl
theorem fmB_q {ls : List (List Ins)} {q : Nat} {p : Int} {l : List Int} (h : q < ls.length) : fmB ls q p l = (decide (0 ≤ p ∧ p ≤ ((ls.getD q []).length : Int)) && cGo l (loopsL (ls.getD q []) p.toNat)) := by
  unfold fmB codeLen; rw [decide_eq_true (by omega), Bool.true_and]; simp only [Int.toNat_natCast]
set_option maxRecDepth 100000 in
set_option maxHeartbeats 4000000 in
theorem l07Frame_any (ls : List (List Ins)) (b : Option Addr) (bc : Nat) (r p : Int) (x : Option Addr) (l : List Int) (xc : Nat) (hm : ls.length ≤ 6) (hl : ∀ j, j < ls.length → (ls.getD j []).length ≤ 40) (hM : ∀ j, j < ls.length → ∀ k, k < (ls.getD j []).length → opens (ls.getD j []) k → ∃ o e, vMatch (ls.getD j []) k = some (o, e) ∧ MOK (ls.getD j []) k o e) (hln : l.length ≤ maxLen) (w : World) (hz : Routs w b ls) (hx : Lies w x (kC l)) :
    Calls Tryd.prog 115 #[.slice b ls.length bc, .agg #[.int .i64 r, .int .i64 p, .slice x l.length xc]] w fun e w' => e = .returned (.bool (fmB ls r p l)) ∧ Below w.heap.size w w' := by
  have HA := Lib.hid (fun w (h : Routs w b ls) j (hj : j < ls.length) => h.at hj)
  have HZ := Lib.hid hz
  have HX := Lib.hid hx
  have HB := Lib.hid (dbox w (.cells #[.int .i64 r, .int .i64 p, .slice x l.length xc] 149))
  have HK := Lib.hid (heap_alloc_new w (.cells #[.int .i64 r, .int .i64 p, .slice x l.length xc] 149))
  have k0 := cell_of_row _ w.heap.size 0 _ _ _ HK.out
  have k1 := cell_of_row _ w.heap.size 1 _ _ _ HK.out
  have k2 := cell_of_row _ w.heap.size 2 _ _ _ HK.out
  unfold maxLen at hln
  obtain ⟨B, hB⟩ : ∃ B : Int, B = (ls.length : Int) - 1 := ⟨_, rfl⟩
  by_cases hr : 0 ≤ r ∧ r < ls.length
  case neg =>
    have HR := Lib.hid (@fmB_r ls r p l hr)
    have HI := Lib.hid (fun w => l01In_isD (n := r) (a := 0) (b := B) (q := false) (decide_eq_false (by omega)) w)
    clear hz hl hM hx hr
    generalize fmB ls r p l = R at *
    generalize ls.length = u at *
    generalize l.length = v at *
    have hw : IntKind.i64.wrap ((u : Int) - 1) = B := by rw [hB]; exact IntWalk.i64_in _ (by omega)
    clear hB
    go_enter Tryd.func115, Tryd.ntmps115
    go_wp2
    go_quiet (first | (go_at_call 64; with_reducible refine Calls.mono (HI.out _) ?_; exact fun e w' h => ⟨h.1, _, h.2.symm⟩))
    go_wp2
    go_ret
    exact ⟨rb_eq HR.out.symm, bel_dn HB.out _⟩
  obtain ⟨q, rfl⟩ : ∃ q : Nat, r = q := ⟨r.toNat, by omega⟩
  have hq : q < ls.length := by omega
  have hqi : (q : Int) < (ls.length : Int) := by omega
  have HI := Lib.hid (fun w => l01In_isD (n := (q : Int)) (a := 0) (b := B) (q := true) (decide_eq_true (by omega)) w)
  obtain ⟨y2, o2, x2, z2, rfl, hb2, hc2, hz2⟩ := HA.out w HZ.out q hq
  have e0 := (HB.out.cell (p := ⟨y2, o2 + q, none⟩) hb2).trans hc2
  have hlq := hl q hq
  have HL2 := Lib.hid hz2
  have HR := Lib.hid (@fmB_q ls q p l hq)
  have HMQ := Lib.hid (hM q hq)
  clear hz2 hc2 hr hz hl hM hq
  generalize fmB ls (q : Int) p l = R at *
  generalize ls.getD q [] = zs at *
  generalize hu : ls.length = u at *
  clear hu
  have hw : IntKind.i64.wrap ((u : Int) - 1) = B := by rw [hB]; exact IntWalk.i64_in _ (by omega)
  clear hB
  by_cases hp : 0 ≤ p ∧ p ≤ (zs.length : Int)
  case neg =>
    have HR2 : Hid (R = false) := Lib.hid (by rw [HR.out, decide_eq_false hp]; rfl)
    have HI2 := Lib.hid (fun w => l01In_isD (n := p) (a := 0) (b := (zs.length : Int)) (q := false) (decide_eq_false hp) w)
    clear hx hp HR
    generalize zs.length = m at *
    generalize l.length = v at *
    go_enter Tryd.func115, Tryd.ntmps115
    go_wp2
    go_quiet (first
      | (go_at_call 64; with_reducible refine Calls.mono (HI.out _) ?_; exact fun e w' h => ⟨h.1, _, h.2.symm⟩)
      | (go_at_call 64; with_reducible refine Calls.mono (HI2.out _) ?_; exact fun e w' h => ⟨h.1, _, h.2.symm⟩))
    go_wp2
    go_ret
    exact ⟨rb_eq HR2.out.symm, bel_dn HB.out _⟩
  obtain ⟨p', rfl⟩ : ∃ p' : Nat, p = p' := ⟨p.toNat, by omega⟩
  have hpn : p' ≤ zs.length := by omega
  have HI2 := Lib.hid (fun w => l01In_isD (n := (p' : Int)) (a := 0) (b := (zs.length : Int)) (q := true) (decide_eq_true hp) w)
  have HR2 : Hid (R = cGo l (loopsL zs p')) := Lib.hid (by rw [HR.out, decide_eq_true hp, Bool.true_and, Int.toNat_natCast])
  have HO := Lib.hid (fun w hz => (l07Open_any zs x2 z2 p' hlq hpn HMQ.out w hz).mono (R' := fun e w' => ∃ a c, e = .returned (.slice a (loopsL zs p').length c) ∧ w'.ownsRow w.heap.size 3 1 (.slice a (loopsL zs p').length c) (loopsL zs p').length (kC (loopsL zs p')) ∧ Below w.heap.size w w') fun e w' h => h)
  have HCL := Lib.hid (cGo_len l (loopsL zs p'))
  have HCB := Lib.hid (fun i => @cGo_both l (loopsL zs p') i)
  have HCD := Lib.hid (@cGo_done l (loopsL zs p'))
  have H00 : Hid (cGo l (loopsL zs p') = cGo (l.drop 0) ((loopsL zs p').drop 0)) := Lib.hid rfl
  clear hx hp HR HMQ
  generalize loopsL zs p' = A at *
  generalize zs.length = m at *
  generalize hAl : A.length = t at *
  have HAL := Lib.hid hAl
  generalize hv : l.length = v at *
  have HV := Lib.hid hv
  clear hv hAl
  go_enter Tryd.func115, Tryd.ntmps115
  go_wp2
  go_quiet (first
    | (go_at_call 64; with_reducible refine Calls.mono (HI.out _) ?_; exact fun e w' h => ⟨h.1, _, h.2.symm⟩)
    | (go_at_call 64; with_reducible refine Calls.mono (HI2.out _) ?_; exact fun e w' h => ⟨h.1, _, h.2.symm⟩))
  go_wp2
  go_region_with (go_at_call 148; refine Calls.mono (HO.out _ (HL2.out.below (bel_dn HB.out _) (Nat.le_refl _))) ?_; rintro e w3 ⟨a, c, rfl, ho, hb3⟩)
  all_goals
    have hlt3 : w.heap.size < (w.alloc (.cells #[.int .i64 (q : Int), .int .i64 (p' : Int), .slice x v xc] 149)).heap.size := by simp
    have j2 := (hb3.cell (p := ⟨w.heap.size, 2, none⟩) hlt3).trans k2
    have Hb3 := Lib.hid ((bel_dn HB.out _).trans (hb3.mono (bel_dn HB.out _).size))
    have HA3 := Lib.hid (lies_own ho)
    have HW3 := Lib.hid (Nat.lt_of_lt_of_le hlt3 hb3.size)
    clear hb3 ho hlt3 k0 k1 k2 HK HB
    by_cases htv : t = v
    case neg =>
      have HF : Hid (R = false) := Lib.hid (by rw [HR2.out]; exact HCL.out (by omega))
      have gt : ((t : Int) != (v : Int)) = true := by simp; omega
      go_wp2
      go_ret
      exact ⟨rb_eq HF.out.symm, Hb3.out⟩
    subst htv
    have gt : ((t : Int) != (t : Int)) = false := by simp
    go_wp2
    go_loopw [6] (fun i wr => ∃ k : Nat, k ≤ t ∧ i = .int .i64 k ∧ Hid (R = cGo (l.drop k) (A.drop k)) ∧ Hid (Below w3.heap.size w3 wr)) (fun i _ => t - (intOf i).toNat)
    case atStart => exact ⟨0, Nat.zero_le _, rfl, Lib.hid (by rw [HR2.out, H00.out]), Lib.hid (Below.refl _ _)⟩
    case round =>
      obtain ⟨k, hk, rfl, hr, hb⟩ := hrel
      by_cases hlt : k < t
      · have hlti : (k : Int) < (t : Int) := by omega
        obtain ⟨b1, o1, rfl, hb1, hc1⟩ := HX.out.open (by rw [kC_len, HV.out]; omega)
        obtain ⟨b4, o4, rfl, hb4, hc4⟩ := HA3.out.open (by rw [kC_len, HAL.out]; omega)
        have d0 := ((Hb3.out.trans (hb.out.mono Hb3.out.size)).cell (p := ⟨b1, o1 + k, none⟩) hb1).trans (kind_at hc1 (i := k) (by rw [HV.out]; exact hlt))
        have d1 := (hb.out.cell (p := ⟨b4, o4 + k, none⟩) hb4).trans (kind_at hc4 (i := k) (by rw [HAL.out]; exact hlt))
        have d2 := (hb.out.cell (p := ⟨w.heap.size, 2, none⟩) HW3.out).trans j2
        have hcb := HCB.out k hlt hlt
        rw [← hr.out] at hcb
        have HE := Lib.hid hcb
        clear hc1 hc4 hcb j2
        generalize l.getD k 0 = x' at *
        generalize A.getD k 0 = y' at *
        by_cases hin : 1 ≤ x' ∧ x' ≤ y'
        · have HE2 : Hid (R = cGo (l.drop (k + 1)) (A.drop (k + 1))) := Lib.hid (by rw [HE.out, decide_eq_true hin, Bool.true_and])
          have HI3 := Lib.hid (fun w => l01In_isD (n := x') (a := 1) (b := y') (q := true) (decide_eq_true hin) w)
          go_wp2
          go_quiet (first | (go_at_call 64; with_reducible refine Calls.mono (HI3.out _) ?_; exact fun e w' h => ⟨h.1, _, h.2.symm⟩))
          go_wp2
          go_roundw
          case rel => exact ⟨k + 1, by omega, by go_num, HE2, Lib.hid (bel_dn hb.out _)⟩
          case measure => simp [intOf]; omega
        · have HE2 : Hid (R = false) := Lib.hid (by rw [HE.out, decide_eq_false hin]; rfl)
          have HI3 := Lib.hid (fun w => l01In_isD (n := x') (a := 1) (b := y') (q := false) (decide_eq_false hin) w)
          go_wp2
          go_quiet (first | (go_at_call 64; with_reducible refine Calls.mono (HI3.out _) ?_; exact fun e w' h => ⟨h.1, _, h.2.symm⟩))
          go_wp2
          go_ret
          exact ⟨rb_eq HE2.out.symm, Hb3.out.trans ((bel_dn hb.out _).mono Hb3.out.size)⟩
      · obtain rfl : k = t := by omega
        have HE2 : Hid (R = true) := Lib.hid (by rw [hr.out]; exact HCD.out (by trivial))
        go_wp2
        go_ret
        exact ⟨rb_eq HE2.out.symm, Hb3.out.trans (hb.out.mono Hb3.out.size)⟩
end Go.Proofs.YtnehaidkhpjpbaaDoor
namespace Go.Proofs.YtnehaidkhpjpbaaDoor
open Go.ChangeShapes Go.WideShapes Go.ChangeAt Go.RowKit
set_option linter.unusedVariables false
/-- The types under k frames. -/
def typB (ls : List (List Ins)) (ks : List Int) (fs : List FM) : Nat → ByteArray
  | 0 => ⟨#[]⟩
  | k + 1 => typB ls ks fs k ++ (stackF (ls.getD (fs.getD k fm0).1.toNat []) ks (fs.getD k fm0).1 (fs.getD k fm0).2.1).1
theorem typB_step {ls : List (List Ins)} {ks : List Int} {fs : List FM} {k q : Nat} (h : (fs.getD k fm0).1 = (q : Int)) : typB ls ks fs (k + 1) = typB ls ks fs k ++ (stackF (ls.getD q []) ks q (fs.getD k fm0).2.1).1 := by
  rw [typB, h, Int.toNat_natCast]
theorem typB_size {ls : List (List Ins)} {ks : List Int} {fs : List FM} : ∀ {n : Nat}, (∀ j, j < n → (stackF (ls.getD (fs.getD j fm0).1.toNat []) ks (fs.getD j fm0).1 (fs.getD j fm0).2.1).1.size ≤ 8) → ∀ k, k ≤ n → (typB ls ks fs k).size ≤ 8 * k
  | _, _, 0, _ => Nat.zero_le _
  | n, h, k + 1, hk => by
    have h1 := typB_size h k (by omega)
    have h2 := h k (by omega)
    rw [typB, ByteArray.size_append]
    omega
set_option maxRecDepth 100000 in
set_option maxHeartbeats 2000000 in
theorem l07Types_any (ls : List (List Ins)) (b : Option Addr) (bc : Nat) (ks : List Int) (k : Option Addr) (kc : Nat) (h : CH) (C : Cor) (hl : ∀ j, j < ls.length → (ls.getD j []).length ≤ 40) (hk : ks.length ≤ maxLen) (hn : C.fr.length ≤ 6)
    (hq : ∀ j, j < C.fr.length → ∃ q : Nat, (C.fr.getD j fm0).1 = (q : Int) ∧ q < ls.length) (hs : ∀ j, j < C.fr.length → (stackF (ls.getD (C.fr.getD j fm0).1.toNat []) ks (C.fr.getD j fm0).1 (C.fr.getD j fm0).2.1).1.size ≤ 8) (w : World) (hz : Routs w b ls) (hy : Lies w k (kC ks)) (hc : CLies w h C) :
    Calls Tryd.prog 116 #[.slice b ls.length bc, .slice k ks.length kc, cV h C] w fun e w' => e = .returned (.string (typB ls ks C.fr C.fr.length)) ∧ Below w.heap.size w w' := by
  have HS := Lib.hid (fun (q : Nat) (hq : q < ls.length) x c r p X hz hy => specStackAt_any (ls.getD q []) x c ks k kc r p (by have := hl q hq; unfold maxLen; omega) hk X hz hy)
  have HA := Lib.hid (fun w (h : Routs w b ls) j (hj : j < ls.length) => h.at hj)
  have HZ := Lib.hid hz
  have HY := Lib.hid hy
  have HF := Lib.hid (fun j (hj : j < C.fr.length) => hc.fr.at hj)
  have HQ := Lib.hid hq
  have HL := Lib.hid hl
  have HSZ := Lib.hid hs
  have HTS := Lib.hid (fun j => typB_size (ls := ls) (ks := ks) (fs := C.fr) hs j)
  have HTE := Lib.hid (fun j q => @typB_step ls ks C.fr j q)
  have HT0 : Hid ((⟨#[]⟩ : ByteArray) = typB ls ks C.fr 0) := Lib.hid rfl
  clear hz hy hc hq hl hs hk
  obtain ⟨ha0, ha1, hc0, hc1⟩ := h
  obtain ⟨fs, st⟩ := C
  simp only at *
  change Calls Tryd.prog 116 #[.slice b ls.length bc, .slice k ks.length kc, .agg #[.slice ha0 fs.length hc0, .slice ha1 st.length hc1]] w _
  have HB := Lib.hid (Bx.start w (.cells #[.slice ha0 fs.length hc0, .slice ha1 st.length hc1] 62))
  generalize hM : fs.length = n at *
  have HM := Lib.hid hM
  generalize hU : ls.length = u at *
  have HU := Lib.hid hU
  clear hM hU
  generalize ks.length = kn at *
  generalize st.length = sn at *
  go_enter Tryd.func116, Tryd.ntmps116
  go_wp2
  go_loopw [7, 8] (fun t i wr => ∃ j : Nat, j ≤ n ∧ i = .int .i64 j ∧ t = .string (typB ls ks fs j) ∧ Hid (Bx w (.cells #[.slice ha0 n hc0, .slice ha1 sn hc1] 62) wr)) (fun _ i _ => n - (intOf i).toNat)
  case atStart => exact ⟨0, Nat.zero_le _, rfl, by rw [HT0.out], HB⟩
  case round =>
    obtain ⟨j, hj, rfl, rfl, hb⟩ := hrel
    have b0 := cell_of_row _ w.heap.size 0 _ _ _ hb.out.box
    have hts := HTS.out j (by omega)
    by_cases hlt : j < n
    · have hlti : (j : Int) < (n : Int) := by omega
      obtain ⟨q, hq1, hq2⟩ := HQ.out j hlt
      have hq2i : (q : Int) < (u : Int) := by omega
      obtain ⟨y2, o2, x2, z2, rfl, hb2, f0, f1, f2, _⟩ := HF.out j hlt
      have hte := HTE.out j q hq1
      have hsz := HSZ.out j hlt
      rw [hq1] at f0 hsz
      rw [Int.toNat_natCast] at hsz
      have d0 := (hb.out.bel.cell (p := ⟨y2, o2 + j * 3, none⟩) hb2).trans f0
      have d1 := (hb.out.bel.cell (p := ⟨y2, o2 + j * 3 + 1, none⟩) hb2).trans f1
      have d2 := (hb.out.bel.cell (p := ⟨y2, o2 + j * 3 + 2, none⟩) hb2).trans f2
      obtain ⟨y3, o3, x3, z3, rfl, hb3, c3, hz3⟩ := HA.out w HZ.out q hq2
      have hbw := (hb.out.bel.alloc hb.out.bel.size (.cells #[.int .i64 (q : Int), .int .i64 (fs.getD j fm0).2.1, .slice x2 (fs.getD j fm0).2.2.length z2] 149))
      have d3 := (hbw.cell (p := ⟨y3, o3 + q, none⟩) hb3).trans c3
      have HBW := Lib.hid hbw
      have HBX := Lib.hid (hb.out.to (dbox wr (.cells #[.int .i64 (q : Int), .int .i64 (fs.getD j fm0).2.1, .slice x2 (fs.getD j fm0).2.2.length z2] 149)))
      have kb := heap_alloc_new wr (.cells #[.int .i64 (q : Int), .int .i64 (fs.getD j fm0).2.1, .slice x2 (fs.getD j fm0).2.2.length z2] 149)
      have g0 := cell_of_row _ wr.heap.size 0 _ _ _ kb
      have g1 := cell_of_row _ wr.heap.size 1 _ _ _ kb
      have HZ3 := Lib.hid hz3
      have HSQ := Lib.hid (fun X h1 h2 => HS.out q hq2 x3 z3 q (fs.getD j fm0).2.1 X h1 h2)
      have HTE2 := Lib.hid hte
      have hlq := HL.out q hq2
      clear c3 hz3 f0 f1 f2 hbw kb hte hq1
      generalize stackF (ls.getD q []) ks q (fs.getD j fm0).2.1 = S at *
      generalize (fs.getD j fm0).2.1 = p at *
      generalize (fs.getD j fm0).2.2.length = v2 at *
      generalize (ls.getD q []).length = zl at *
      obtain ⟨S1, S2⟩ := S
      simp only at *
      go_wp2
      go_region_with (go_at_call 23; refine Calls.mono (HSQ.out _ (HZ3.out.below (bel_dn HBW.out _) (Nat.le_refl _)) (HY.out.below (bel_dn HBW.out _) (Nat.le_refl _))) ?_; rintro e w3 ⟨rfl, hb3⟩; have HX3 := Lib.hid ((HBX.out.to (bel_dn (Below.refl _ _) _)).to hb3))
      all_goals go_wp2
      all_goals exact ⟨⟨j + 1, by omega, by go_num, by rw [HTE2.out], HX3⟩, by simp [intOf]; omega⟩
    · obtain rfl : j = n := by omega
      go_wp2
      go_ret
      exact ⟨rfl, hb.out.bel⟩
end Go.Proofs.YtnehaidkhpjpbaaDoor
namespace Go.Proofs.YtnehaidkhpjpbaaDoor
open Go.ChangeShapes Go.WideShapes Go.ChangeAt Go.RowKit Go.PlainAid
set_option linter.unusedVariables false
/-- The next frame's routine. -/
def nxt (fs : List FM) (i : Nat) : Option Int := if i + 1 < fs.length then some (fs.getD (i + 1) fm0).1 else none
def frB (ls : List (List Ins)) (fs : List FM) (i : Nat) : Bool := plB ls (fs.getD i fm0).1 (fs.getD i fm0).2.1 (nxt fs i) && cGo (fs.getD i fm0).2.2 (loopsL (ls.getD (fs.getD i fm0).1.toNat []) (fs.getD i fm0).2.1.toNat)
def frA (ls : List (List Ins)) (fs : List FM) : Bool := (List.range fs.length).all (frB ls fs)
def corB (ls : List (List Ins)) (ks : List Int) (C : Cor) : Bool := decide (C.fr.length ≤ 6) && (frA ls C.fr && (decide ((typB ls ks C.fr C.fr.length).size = C.st.length) && mB (typB ls ks C.fr C.fr.length) C.st))
theorem frA_no {ls : List (List Ins)} {fs : List FM} {j : Nat} (hj : j < fs.length) (h : frB ls fs j = false) : frA ls fs = false := by
  unfold frA
  rw [List.all_eq_false]
  exact ⟨j, List.mem_range.2 hj, by rw [h]; simp⟩
theorem frA_yes {ls : List (List Ins)} {fs : List FM} (h : ∀ j, j < fs.length → frB ls fs j = true) : frA ls fs = true := by
  unfold frA
  rw [List.all_eq_true]
  exact fun j hj => h j (List.mem_range.1 hj)
theorem corB_many {ls : List (List Ins)} {ks : List Int} {C : Cor} (h : ¬ C.fr.length ≤ 6) : corB ls ks C = false := by unfold corB; rw [decide_eq_false h]; rfl
theorem corB_frame {ls : List (List Ins)} {ks : List Int} {C : Cor} {j : Nat} (hj : j < C.fr.length) (h : frB ls C.fr j = false) : corB ls ks C = false := by unfold corB; rw [frA_no hj h]; simp
theorem corB_size {ls : List (List Ins)} {ks : List Int} {C : Cor} (h : ¬ (typB ls ks C.fr C.fr.length).size = C.st.length) : corB ls ks C = false := by unfold corB; rw [decide_eq_false h]; simp
theorem corB_rest {ls : List (List Ins)} {ks : List Int} {C : Cor} (h6 : C.fr.length ≤ 6) (h : ∀ j, j < C.fr.length → frB ls C.fr j = true) (hs : (typB ls ks C.fr C.fr.length).size = C.st.length) : corB ls ks C = mB (typB ls ks C.fr C.fr.length) C.st := by
  unfold corB; rw [decide_eq_true h6, frA_yes h, decide_eq_true hs]; simp
theorem plB_rng {ls : List (List Ins)} {r p : Int} {nx : Option Int} (h : plB ls r p nx = true) : 0 ≤ r ∧ r < ls.length ∧ 0 ≤ p ∧ p ≤ codeLen ls r := by
  unfold plB at h
  rw [Bool.and_eq_true, decide_eq_true_iff] at h
  obtain ⟨h1, h2⟩ := h
  refine ⟨h1.1, h1.2, ?_⟩
  cases nx with
  | none => rw [decide_eq_true_iff] at h2; omega
  | some s => rw [Bool.and_eq_true, decide_eq_true_iff] at h2; omega
theorem frB_rng {ls : List (List Ins)} {fs : List FM} {j : Nat} (h : frB ls fs j = true) : ∃ q : Nat, (fs.getD j fm0).1 = (q : Int) ∧ q < ls.length := by
  unfold frB at h
  rw [Bool.and_eq_true] at h
  have := plB_rng h.1
  exact ⟨(fs.getD j fm0).1.toNat, by omega, by omega⟩
/-- What spec's test of the frame alone says of the whole one. -/
theorem frB_fm {ls : List (List Ins)} {fs : List FM} {j : Nat} (h : fmB ls (fs.getD j fm0).1 (fs.getD j fm0).2.1 (fs.getD j fm0).2.2 = false) : frB ls fs j = false := by
  cases hf : frB ls fs j
  · rfl
  · exfalso
    unfold frB at hf
    rw [Bool.and_eq_true] at hf
    have hp := plB_rng hf.1
    have : fmB ls (fs.getD j fm0).1 (fs.getD j fm0).2.1 (fs.getD j fm0).2.2 = true := by
      unfold fmB; rw [decide_eq_true ⟨hp.1, hp.2.1⟩, decide_eq_true ⟨hp.2.2.1, hp.2.2.2⟩, hf.2]; rfl
    rw [this] at h; cases h
theorem fm_yes {ls : List (List Ins)} {r p : Int} {l : List Int} (h : fmB ls r p l = true) : ∃ q p' : Nat, r = q ∧ p = p' ∧ q < ls.length ∧ p' ≤ (ls.getD q []).length ∧ cGo l (loopsL (ls.getD q []) p') = true := by
  unfold fmB codeLen at h
  rw [Bool.and_eq_true, Bool.and_eq_true, decide_eq_true_iff, decide_eq_true_iff] at h
  obtain ⟨h1, h2, h3⟩ := h
  refine ⟨r.toNat, p.toNat, by omega, by omega, by omega, by omega, h3⟩
theorem frB_last {ls : List (List Ins)} {fs : List FM} {j q p' : Nat} (hq : q < ls.length) (hr : (fs.getD j fm0).1 = q) (hp : (fs.getD j fm0).2.1 = p') (hc : cGo (fs.getD j fm0).2.2 (loopsL (ls.getD q []) p') = true) (hn : ¬ j + 1 < fs.length) : frB ls fs j = decide ((p' : Int) < (ls.getD q []).length) := by
  unfold frB nxt
  rw [if_neg hn, hr, hp, plB_last hq, Int.toNat_natCast, Int.toNat_natCast, hc, Bool.and_true]
  exact decide_eq_decide.2 (by omega)
theorem frB_next {ls : List (List Ins)} {fs : List FM} {j q p' : Nat} (hq : q < ls.length) (hr : (fs.getD j fm0).1 = q) (hp : (fs.getD j fm0).2.1 = p') (hpl : p' ≤ (ls.getD q []).length) (hc : cGo (fs.getD j fm0).2.2 (loopsL (ls.getD q []) p') = true) (hn : j + 1 < fs.length) :
    frB ls fs j = (decide (0 < p') && decide (((ls.getD q []).getD (p' - 1) (0, 0)).1 = 26 ∧ ((ls.getD q []).getD (p' - 1) (0, 0)).2 = (fs.getD (j + 1) fm0).1)) := by
  unfold frB nxt
  rw [if_pos hn, hr, hp, plB_next hq, Int.toNat_natCast, Int.toNat_natCast, hc, Bool.and_true]
  by_cases h0 : 0 < p'
  · rw [decide_eq_true (p := 0 < p') h0, decide_eq_true (by omega), show ((p' : Int) - 1).toNat = p' - 1 by omega]
  · rw [decide_eq_false (p := 0 < p') h0, decide_eq_false (by omega)]; rfl
end Go.Proofs.YtnehaidkhpjpbaaDoor
namespace Go.Proofs.YtnehaidkhpjpbaaDoor
open Go.ChangeShapes Go.WideShapes Go.ChangeAt Go.RowKit Go.PlainAid
set_option linter.unusedVariables false
theorem mt_l01Int_is' {n : Int} {b : Bool} (h : inI32 n = b) (w : World) : Calls Tryd.prog 117 #[.int .i64 n] w fun e w' => e = .returned (.bool b) ∧ w = w' := mt_l01Int_is h w
set_option maxRecDepth 100000 in
set_option maxHeartbeats 2000000 in
theorem l07OK_any (ls : List (List Ins)) (b : Option Addr) (bc : Nat) (ks : List Int) (k : Option Addr) (kc : Nat) (h : CH) (C : Cor) (hm : ls.length ≤ 6) (hl : ∀ j, j < ls.length → (ls.getD j []).length ≤ 40) (hM : ∀ j, j < ls.length → ∀ k, k < (ls.getD j []).length → opens (ls.getD j []) k → ∃ o e, vMatch (ls.getD j []) k = some (o, e) ∧ MOK (ls.getD j []) k o e)
    (hs : ∀ q, q < ls.length → ∀ p, (stackF (ls.getD q []) ks q p).1.size ≤ 8) (hk : ks.length ≤ maxLen) (hcl : C.le maxLen) (w : World) (hz : Routs w b ls) (hy : Lies w k (kC ks)) (hc : CLies w h C) :
    Calls Tryd.prog 86 #[.slice b ls.length bc, .slice k ks.length kc, cV h C] w fun e w' => e = .returned (.bool (corB ls ks C)) ∧ Below w.heap.size w w' := by
  obtain ⟨ha0, ha1, hc0, hc1⟩ := h
  obtain ⟨fs, st⟩ := C
  have hln := hcl.h2
  have hst := hcl.h1
  simp only at hln hst
  have HN6 := Lib.hid (@corB_many ls ks ⟨fs, st⟩)
  have HNF := Lib.hid (fun j => @corB_frame ls ks ⟨fs, st⟩ j)
  have HNS := Lib.hid (@corB_size ls ks ⟨fs, st⟩)
  have HNR := Lib.hid (@corB_rest ls ks ⟨fs, st⟩)
  simp only at HN6 HNF HNS HNR
  change Calls Tryd.prog 86 #[.slice b ls.length bc, .slice k ks.length kc, .agg #[.slice ha0 fs.length hc0, .slice ha1 st.length hc1]] w _
  have HB := Lib.hid (Bx.start w (.cells #[.slice ha0 fs.length hc0, .slice ha1 st.length hc1] 62))
  generalize corB ls ks ⟨fs, st⟩ = R at *
  by_cases h6 : fs.length ≤ 6
  case neg =>
    have HF : Hid (R = false) := Lib.hid (HN6.out h6)
    have h6i : (6 : Int) < (fs.length : Int) := by omega
    clear hz hy hc hM hl hs HN6 HNF HNS HNR hln hcl
    generalize fs.length = n at *
    generalize ls.length = u at *
    generalize ks.length = kn at *
    generalize st.length = sn at *
    go_enter Tryd.func86, Tryd.ntmps86
    go_wp2
    go_ret
    exact ⟨rb_eq HF.out.symm, HB.out.bel⟩
  have HFR := Lib.hid (fun r p x l xc hln X hz hx => l07Frame_any ls b bc r p x l xc hm hl hM hln X hz hx)
  have HTY : Hid (∀ X, (∀ j, j < fs.length → ∃ q : Nat, (fs.getD j fm0).1 = (q : Int) ∧ q < ls.length) → Routs X b ls → Lies X k (kC ks) → CLies X ⟨ha0, ha1, hc0, hc1⟩ ⟨fs, st⟩ →
      Calls Tryd.prog 116 #[.slice b ls.length bc, .slice k ks.length kc, .agg #[.slice ha0 fs.length hc0, .slice ha1 st.length hc1]] X fun e w' => e = .returned (.string (typB ls ks fs fs.length)) ∧ Below X.heap.size X w') :=
    Lib.hid (fun X hq hz hy hc => l07Types_any ls b bc ks k kc ⟨ha0, ha1, hc0, hc1⟩ ⟨fs, st⟩ hl hk h6 hq (fun j hj => by obtain ⟨q, e, hq'⟩ := hq j hj; simp only at e ⊢; rw [e, Int.toNat_natCast]; exact hs q hq' _) X hz hy hc)
  have HTS : Hid ((∀ j, j < fs.length → ∃ q : Nat, (fs.getD j fm0).1 = (q : Int) ∧ q < ls.length) → (typB ls ks fs fs.length).size ≤ 48) := Lib.hid (fun hq => by
    have := typB_size (ls := ls) (ks := ks) (fs := fs) (n := fs.length) (fun j hj => by obtain ⟨q, e, hq'⟩ := hq j hj; rw [e, Int.toNat_natCast]; exact hs q hq' _) fs.length (Nat.le_refl _)
    omega)
  have HA := Lib.hid (fun w (h : Routs w b ls) j (hj : j < ls.length) => h.at hj)
  have HZ := Lib.hid hz
  have HY := Lib.hid hy
  have HC := Lib.hid hc
  have HF := Lib.hid (fun j (hj : j < fs.length) => hc.fr.at hj)
  have HS := Lib.hid hc.st
  have HL := Lib.hid hl
  have HLN := Lib.hid hln
  have HFM := Lib.hid (fun j => @frB_fm ls fs j)
  have HLA := Lib.hid (fun j q p' => @frB_last ls fs j q p')
  have HNX := Lib.hid (fun j q p' => @frB_next ls fs j q p')
  have HRG := Lib.hid (fun j => @frB_rng ls fs j)
  clear hz hy hc hM hl hs hln hcl HN6 hk
  simp only at HF HS
  generalize hM : fs.length = n at *
  have HM := Lib.hid hM
  generalize hU : ls.length = u at *
  have HU := Lib.hid hU
  clear hM hU
  generalize ks.length = kn at *
  generalize hsn : st.length = sn at *
  have HSN := Lib.hid hsn
  clear hsn
  go_enter Tryd.func86, Tryd.ntmps86
  go_wp2
  go_loopw [7] (fun i wr => ∃ j : Nat, j ≤ n ∧ i = .int .i64 j ∧ Hid (∀ m, m < j → frB ls fs m = true) ∧ Hid (Bx w (.cells #[.slice ha0 n hc0, .slice ha1 sn hc1] 62) wr)) (fun i _ => n - (intOf i).toNat)
  case atStart => exact ⟨0, Nat.zero_le _, rfl, Lib.hid (by intro m hm; omega), HB⟩
  case round =>
    obtain ⟨j, hj, rfl, hr, hb⟩ := hrel
    have b0 := cell_of_row _ w.heap.size 0 _ _ _ hb.out.box
    have b1 := cell_of_row _ w.heap.size 1 _ _ _ hb.out.box
    by_cases hlt : j < n
    · have hlti : (j : Int) < (n : Int) := by omega
      obtain ⟨y2, o2, x2, z2, rfl, hb2, f0, f1, f2, hx2⟩ := HF.out j hlt
      have d0 := (hb.out.bel.cell (p := ⟨y2, o2 + j * 3, none⟩) hb2).trans f0
      have d1 := (hb.out.bel.cell (p := ⟨y2, o2 + j * 3 + 1, none⟩) hb2).trans f1
      have d2 := (hb.out.bel.cell (p := ⟨y2, o2 + j * 3 + 2, none⟩) hb2).trans f2
      have HFJ := Lib.hid (fun xc X h1 h2 => HFR.out (fs.getD j fm0).1 (fs.getD j fm0).2.1 x2 (fs.getD j fm0).2.2 xc (HLN.out j hlt) X h1 h2)
      have HX2 := Lib.hid hx2
      cases hfm : fmB ls (fs.getD j fm0).1 (fs.getD j fm0).2.1 (fs.getD j fm0).2.2 with
      | false =>
        have HE : Hid (R = false) := Lib.hid (HNF.out j hlt (HFM.out j hfm))
        rw [hfm] at HFJ
        have HBX := Lib.hid (hb.out.to (dbox wr (.cells #[.int .i64 (fs.getD j fm0).1, .int .i64 (fs.getD j fm0).2.1, .slice x2 (fs.getD j fm0).2.2.length z2] 149)))
        have kb := heap_alloc_new wr (.cells #[.int .i64 (fs.getD j fm0).1, .int .i64 (fs.getD j fm0).2.1, .slice x2 (fs.getD j fm0).2.2.length z2] 149)
        have g0 := cell_of_row _ wr.heap.size 0 _ _ _ kb
        have g1 := cell_of_row _ wr.heap.size 1 _ _ _ kb
        have g2 := cell_of_row _ wr.heap.size 2 _ _ _ kb
        clear hfm kb f0 f1 f2 hx2
        generalize (fs.getD j fm0).1 = r at *
        generalize (fs.getD j fm0).2.1 = p at *
        generalize (fs.getD j fm0).2.2.length = v2 at *
        go_wp2_with fail
        refine Calls.mono (HFJ.out _ _ (HZ.out.below HBX.out.bel) (HX2.out.below HBX.out.bel (Nat.le_refl _))) ?_
        rintro e w3 ⟨rfl, hb3⟩
        have HX3 := Lib.hid (HBX.out.to hb3)
        clear hb3
        go_wp2
        go_ret
        exact ⟨rb_eq HE.out.symm, HX3.out.bel⟩
      | true =>
        obtain ⟨q, p', er, ep, hq, hpl, hcg⟩ := fm_yes hfm
        rw [HU.out] at hq
        have hqi : (q : Int) < (u : Int) := by omega
        have hfl := HLA.out j q p' hq er ep hcg
        have hfn := HNX.out j q p' hq er ep hpl hcg
        simp only [er, ep] at hfm
        simp only [er, ep, hfm] at HFJ
        rw [er] at f0 d0
        rw [ep] at f1 d1
        obtain ⟨y3, o3, x3, z3, rfl, hb4, c3, hz3⟩ := HA.out w HZ.out q hq
        have HBX := Lib.hid (hb.out.to (dbox wr (.cells #[.int .i64 (q : Int), .int .i64 (p' : Int), .slice x2 (fs.getD j fm0).2.2.length z2] 149)))
        have kb := heap_alloc_new wr (.cells #[.int .i64 (q : Int), .int .i64 (p' : Int), .slice x2 (fs.getD j fm0).2.2.length z2] 149)
        have g0 := cell_of_row _ wr.heap.size 0 _ _ _ kb
        have g1 := cell_of_row _ wr.heap.size 1 _ _ _ kb
        have g2 := cell_of_row _ wr.heap.size 2 _ _ _ kb
        have KB := Lib.hid kb
        have HZ3 := Lib.hid hz3
        have hlq := HL.out q hq
        have HC3 := Lib.hid c3
        have HFL := Lib.hid hfl
        have HFN := Lib.hid hfn
        clear hfm kb f0 f1 f2 hx2 hz3 c3 hcg er ep hfl hfn
        generalize (fs.getD j fm0).2.2.length = v2 at *
        generalize ls.getD q [] = zs at *
        go_wp2_with fail
        refine Calls.mono (HFJ.out _ _ (HZ.out.below HBX.out.bel) (HX2.out.below HBX.out.bel (Nat.le_refl _))) ?_
        rintro e w3 ⟨rfl, hb3⟩
        have HX3 := Lib.hid (HBX.out.to hb3)
        have kb3 := blk_bel KB.out hb3
        clear hb3 b0 b1 d0 d1 d2 g0 g1 g2 KB HBX HFJ
        have b0 := cell_of_row _ w.heap.size 0 _ _ _ HX3.out.box
        have b1 := cell_of_row _ w.heap.size 1 _ _ _ HX3.out.box
        have g0 := cell_of_row _ wr.heap.size 0 _ _ _ kb3
        have g1 := cell_of_row _ wr.heap.size 1 _ _ _ kb3
        have d3 := (HX3.out.bel.cell (p := ⟨y3, o3 + q, none⟩) hb4).trans HC3.out
        clear kb3
        by_cases hlast : j + 1 < n
        case neg =>
          have HFL2 := Lib.hid (HFL.out hlast)
          have gB : ((j : Int) == (n : Int) - 1) = true := by simp; omega
          have gl : decide ((j : Int) < (n : Int) - 1) = false := decide_eq_false (by omega)
          clear HFL HFN
          generalize hzm : zs.length = m at *
          by_cases hpe : p' = m
          case pos =>
            have HE : Hid (R = false) := Lib.hid (HNF.out j hlt (by rw [HFL2.out]; exact decide_eq_false (by omega)))
            have gp : ((p' : Int) == (m : Int)) = true := by simp; omega
            go_wp2
            go_ret
            exact ⟨rb_eq HE.out.symm, HX3.out.bel⟩
          have HE : Hid (∀ m, m < j + 1 → frB ls fs m = true) := Lib.hid (fun m' hm' => by
            by_cases hmj : m' < j
            · exact hr.out m' hmj
            · rw [show m' = j by omega, HFL2.out]; exact decide_eq_true (by omega))
          have gp : ((p' : Int) == (m : Int)) = false := by rw [beq_eq_false_iff_ne]; omega
          go_wp2
          go_quiet (fail)
          go_wp2
          go_roundw
          case rel => exact ⟨j + 1, by omega, by go_num, HE, Lib.hid (HX3.out.to (bel_dn (Below.refl _ _) _))⟩
          case measure => simp [intOf]; omega
        have HFN2 := Lib.hid (HFN.out hlast)
        have gB : ((j : Int) == (n : Int) - 1) = false := by rw [beq_eq_false_iff_ne]; omega
        have gl' : (j : Int) < (n : Int) - 1 := by omega
        have gl : decide ((j : Int) < (n : Int) - 1) = true := decide_eq_true gl'
        clear HFL HFN
        by_cases hp0 : p' = 0
        case pos =>
          have HE : Hid (R = false) := Lib.hid (HNF.out j hlt (by rw [HFN2.out, decide_eq_false (by omega)]; rfl))
          have g1' : w3.cell? ⟨wr.heap.size, 1, none⟩ = some (.int .i64 0) := by have := g1; rw [hp0] at this; exact this
          clear g1
          generalize hzm : zs.length = m at *
          go_wp2
          go_quiet (fail)
          go_wp2
          go_ret
          exact ⟨rb_eq HE.out.symm, bel_dn HX3.out.bel _⟩
        obtain ⟨p1, rfl⟩ : ∃ p1, p' = p1 + 1 := ⟨p' - 1, by omega⟩
        have HFN3 : Hid (frB ls fs j = decide ((zs.getD p1 (0, 0)).1 = 26 ∧ (zs.getD p1 (0, 0)).2 = (fs.getD (j + 1) fm0).1)) := Lib.hid (by rw [HFN2.out, decide_eq_true (by omega)]; rfl)
        obtain ⟨b5, o5, rfl, hb5, hc5⟩ := HZ3.out.open (by rw [flat_len insC_len]; omega)
        obtain ⟨i0, i1⟩ := ins_at hc5 (i := p1) (by omega)
        have v0 := (HX3.out.bel.cell (p := ⟨b5, o5 + p1 * 2, none⟩) hb5).trans i0
        have v1 := (HX3.out.bel.cell (p := ⟨b5, o5 + p1 * 2 + 1, none⟩) hb5).trans i1
        obtain ⟨j1, hj1⟩ : ∃ j1 : Nat, j1 = j + 1 := ⟨_, rfl⟩
        obtain ⟨y6, o6, x6, z6, e6, hb6, f6, _, _, _⟩ := HF.out (j + 1) hlast
        obtain ⟨rfl, rfl⟩ : y2 = y6 ∧ o2 = o6 := by cases e6; exact ⟨rfl, rfl⟩
        have v2 := (HX3.out.bel.cell (p := ⟨y2, o2 + (j + 1) * 3, none⟩) hb6).trans f6
        rw [← hj1] at v2 HFN3
        have hj1i : (j : Int) + 1 = (j1 : Int) := by omega
        have hj1n : (j1 : Int) < (n : Int) := by omega
        have g1' : w3.cell? ⟨wr.heap.size, 1, none⟩ = some (.int .i64 ((p1 : Int) + 1)) := g1
        have hpm : (p1 : Int) < (zs.length : Int) := by omega
        have hjw : (p1 : Int) + 1 - 1 = (p1 : Int) := by omega
        have gz : ((p1 : Int) + 1 == 0) = false := by rw [beq_eq_false_iff_ne]; omega
        clear g1 i0 i1 hc5 f6 e6 HFN2 HZ3 hj1
        generalize (zs.getD p1 (0, 0)).1 = a1 at *
        generalize (zs.getD p1 (0, 0)).2 = a2 at *
        generalize (fs.getD j1 fm0).1 = s1 at *
        generalize hzm : zs.length = m at *
        by_cases h3 : a1 = 26 ∧ a2 = s1
        · have heq := fun w => @eqIns2_is a1 a2 26 s1 true (decide_eq_true h3) w
          have HE : Hid (∀ m, m < j + 1 → frB ls fs m = true) := Lib.hid (fun m' hm' => by
            by_cases hmj : m' < j
            · exact hr.out m' hmj
            · rw [show m' = j by omega, HFN3.out]; exact decide_eq_true h3)
          clear h3
          go_wp2
          go_quiet (fail)
          go_wp2
          go_roundw
          case rel => exact ⟨j + 1, by omega, by go_num, HE, Lib.hid (HX3.out.to (bel_dn (Below.refl _ _) _))⟩
          case measure => simp [intOf]; omega
        · have heq := fun w => @eqIns2_is a1 a2 26 s1 false (decide_eq_false h3) w
          have HE : Hid (R = false) := Lib.hid (HNF.out j hlt (by rw [HFN3.out]; exact decide_eq_false h3))
          clear h3
          go_wp2
          go_quiet (fail)
          go_wp2
          go_ret
          exact ⟨rb_eq HE.out.symm, bel_dn HX3.out.bel _⟩
    · obtain rfl : j = n := by omega
      have HQ : ∀ i, i < j → ∃ q : Nat, (fs.getD i fm0).1 = (q : Int) ∧ q < u := fun i hi => HRG.out i (hr.out i hi)
      have hT := HTS.out HQ
      have HC2 := Lib.hid (HTY.out wr HQ (HZ.out.below hb.out.bel) (HY.out.below hb.out.bel (Nat.le_refl _)) (HC.out.below hb.out.bel (Nat.le_refl _)))
      have HRA := hr
      clear HQ HTS HTY hr HFR HFM HLA HNX HRG HNF
      generalize typB ls ks fs j = T at *
      go_wp2_with fail
      refine Calls.mono HC2.out ?_
      rintro e w3 ⟨rfl, hb3⟩
      have HX3 := Lib.hid (hb.out.to hb3)
      clear hb3 b0 b1
      have b0 := cell_of_row _ w.heap.size 0 _ _ _ HX3.out.box
      have b1 := cell_of_row _ w.heap.size 1 _ _ _ HX3.out.box
      by_cases hsz : T.size = sn
      case neg =>
        have HE := Lib.hid (HNS.out hsz)
        have gt : ((T.size : Int) != (sn : Int)) = true := by simp; omega
        go_wp2
        go_ret
        exact ⟨rb_eq HE.out.symm, HX3.out.bel⟩
      have HE := Lib.hid (HNR.out h6 HRA.out hsz)
      have gt : ((T.size : Int) != (sn : Int)) = false := by simp; omega
      have HMN := Lib.hid (fun q => @mB_no T st q)
      have HMY := Lib.hid (@mB_yes T st)
      rw [HSN.out] at HMN HMY
      have HT := Lib.hid hsz
      clear HNS HNR HC2 hsz
      go_wp2
      go_loopw [11] (fun i wr => ∃ k : Nat, k ≤ sn ∧ i = .int .i64 k ∧ Hid (∀ q, q < k → elB (bt T q) (st.getD q 0) = true) ∧ Hid (Bx w (.cells #[.slice ha0 j hc0, .slice ha1 sn hc1] 62) wr)) (fun i _ => sn - (intOf i).toNat)
      case atStart => exact ⟨0, Nat.zero_le _, rfl, Lib.hid (by intro q hq; omega), HX3⟩
      case round =>
        obtain ⟨k, hk, rfl, hr, hx⟩ := hrel
        have b1 := cell_of_row _ w.heap.size 1 _ _ _ hx.out.box
        by_cases hlt : k < sn
        · obtain ⟨b5, o5, rfl, hb5, hc5⟩ := HS.out.open (by rw [kC_len, HSN.out]; omega)
          have d0 := (hx.out.bel.cell (p := ⟨b5, o5 + k, none⟩) hb5).trans (kind_at hc5 (i := k) (by rw [HSN.out]; exact hlt))
          have hkT : k < T.size := by rw [HT.out]; exact hlt
          have hi1 : (k : Int) < (T.size : Int) := by omega
          have hi2 : (k : Int) < (sn : Int) := by omega
          have hbt : bt T k = ((T[k]'hkT).toNat : Int) := dif_pos hkT
          have HX := Lib.hid (HMN.out k hlt)
          have HK : Hid (elB (bt T k) (st.getD k 0) = true → ∀ q, q < k + 1 → elB (bt T q) (st.getD q 0) = true) := Lib.hid (fun h q hq => by
            by_cases e : q = k
            · rw [e]; exact h
            · exact hr.out q (by omega))
          clear hc5
          generalize st.getD k 0 = x at *
          have HI : Hid (∀ q, inI32 x = q → ∀ w, Calls Tryd.prog 117 #[.int .i64 x] w fun e w' => e = .returned (.bool q) ∧ w = w') := Lib.hid (fun q h w => mt_l01Int_is h w)
          have HJ : Hid (∀ q, decide (0 ≤ x ∧ x ≤ 1) = q → ∀ w, Calls Tryd.prog 64 #[.int .i64 x, .int .i64 0, .int .i64 1] w fun e w' => e = .returned (.bool q) ∧ w = w') := Lib.hid (fun q h w => l01In_isD h w)
          by_cases h98 : bt T k = 98
          case neg =>
            cases hc : inI32 x
            case false =>
              have HR := Lib.hid (HX.out (elB_out hc))
              have HI2 := Lib.hid (HI.out false hc)
              rw [hbt] at h98
              have g98 : (((T[k]'hkT).toNat : Int) == 98) = false := by rw [beq_eq_false_iff_ne]; exact h98
              clear hc hbt HX HK HI HJ
              go_wp2_with (go_at_call 117; refine (HI2.out _).mono ?_; rintro e w' ⟨rfl, rfl⟩)
              go_ret
              exact ⟨rb_eq (HE.out.trans HR.out).symm, hx.out.bel⟩
            have HK2 := Lib.hid (HK.out (elB_int hc h98))
            have HI2 := Lib.hid (HI.out true hc)
            rw [hbt] at h98
            have g98 : (((T[k]'hkT).toNat : Int) == 98) = false := by rw [beq_eq_false_iff_ne]; exact h98
            clear hc hbt HX HK HI HJ
            go_wp2_with (go_at_call 117; refine (HI2.out _).mono ?_; rintro e w' ⟨rfl, rfl⟩)
            go_roundw
            case rel => exact ⟨k + 1, by omega, by go_num, HK2, hx⟩
            case measure => simp [intOf]; omega
          have h98' := h98
          rw [hbt] at h98'
          have g98 : (((T[k]'hkT).toNat : Int) == 98) = true := by rw [beq_iff_eq]; exact h98'
          by_cases hx1 : 0 ≤ x ∧ x ≤ 1
          case neg =>
            have HR := Lib.hid (HX.out (elB_bad h98 (by omega) (by omega)))
            have HJ2 := Lib.hid (HJ.out false (decide_eq_false hx1))
            clear hbt HX HK HI HJ h98 hx1
            go_wp2_with (go_at_call 64; refine (HJ2.out _).mono ?_; rintro e w' ⟨rfl, rfl⟩)
            go_ret
            exact ⟨rb_eq (HE.out.trans HR.out).symm, hx.out.bel⟩
          have hc : inI32 x = true := by unfold inI32; exact decide_eq_true (by omega)
          have HK2 : Hid (∀ q, q < k + 1 → elB (bt T q) (st.getD q 0) = true) := Lib.hid (HK.out (by
            by_cases h0 : x = 0
            · exact elB_zero hc h0
            · exact elB_one hc (by omega)))
          have HI2 := Lib.hid (HI.out true hc)
          have HJ2 := Lib.hid (HJ.out true (decide_eq_true hx1))
          clear hbt HX HK HI HJ h98 hx1 hc
          go_wp2_with (first | (go_at_call 64; refine (HJ2.out _).mono ?_; rintro e w' ⟨rfl, rfl⟩) | (go_at_call 117; refine (HI2.out _).mono ?_; rintro e w' ⟨rfl, rfl⟩))
          go_roundw
          case rel => exact ⟨k + 1, by omega, by go_num, HK2, hx⟩
          case measure => simp [intOf]; omega
        · obtain rfl : k = sn := by omega
          have HR := Lib.hid (HMY.out hr.out)
          have hnl : ¬ (k : Int) < (T.size : Int) := by rw [HT.out]; omega
          have hnd : decide ((k : Int) < (T.size : Int)) = false := decide_eq_false hnl
          go_wp2
          go_ret
          exact ⟨rb_eq (HE.out.trans HR.out).symm, hx.out.bel⟩
end Go.Proofs.YtnehaidkhpjpbaaDoor
namespace Go.Proofs.YtnehaidkhpjpbaaDoor
open Go.ChangeShapes Go.WideShapes Go.ChangeAt Go.RowKit Go.PlainAid
set_option linter.unusedVariables false
/-- What CoreOK answers. -/
def corF (ls : List (List Ins)) (ks : List Int) (C : Cor) : Bool := if (allF ls ks).2.2 = 0 then corB ls ks C else false
theorem corF_ok {ls : List (List Ins)} {ks : List Int} {C : Cor} (h : (allF ls ks).2.2 = 0) : corF ls ks C = corB ls ks C := if_pos h
theorem corF_no {ls : List (List Ins)} {ks : List Int} {C : Cor} (h : (allF ls ks).2.2 ≠ 0) : corF ls ks C = false := if_neg h
theorem allGo_okC {ks : List Int} : ∀ (ls : List (List Ins)) (i : Nat), (allGo ks ls i).2.2 = 0 → ∀ j, j < ls.length → (vVer (ls.getD j []) ks ((i + j : Nat) : Int)).2 = 0
  | [], i, _, j, hj => by simp at hj
  | z :: t, i, h, j, hj => by
    rw [allGo] at h
    by_cases hv : (vVer z ks i).2 = 0
    · rw [if_neg (fun q => q hv)] at h
      cases j with
      | zero => simpa using hv
      | succ j =>
        have := allGo_okC t (i + 1) h j (by simpa using hj)
        simpa [Nat.add_assoc, Nat.add_comm 1 j] using this
    · rw [if_pos hv] at h
      exact absurd h hv
/-- Accepted routines: each one's code is. -/
theorem all_acc {ls : List (List Ins)} {ks : List Int} (h : (allF ls ks).2.2 = 0) : ls.length ≤ 6 ∧ ks.length ≤ 4096 ∧ ∀ j, j < ls.length → (ls.getD j []).length ≤ 40 ∧ okAll (ls.getD j []) = true ∧ (vVer (ls.getD j []) ks (j : Int)).2 = 0 ∧ (codeV (ls.getD j []) ks (j : Int)).2 = 0 := by
  unfold allF at h
  split at h
  · exact absurd h (by decide)
  split at h
  · exact absurd h (by decide)
  · rename_i h0 hw
    rw [Bool.not_eq_false, Bool.and_eq_true] at hw
    obtain ⟨h6, hwa⟩ := wellR_all hw.2
    refine ⟨h6, by omega, fun j hj => ?_⟩
    have hv := allGo_okC ls 0 h j hj
    simp only [Nat.zero_add] at hv
    obtain ⟨h1, h2⟩ := wellB_ok (hwa j hj)
    exact ⟨h1, h2, hv, by rw [codeV_all (hwa j hj) hw.1 (by omega)]; exact hv⟩
theorem acc_match {ls : List (List Ins)} {ks : List Int} (h : (allF ls ks).2.2 = 0) : ∀ j, j < ls.length → ∀ k, k < (ls.getD j []).length → opens (ls.getD j []) k → ∃ o e, vMatch (ls.getD j []) k = some (o, e) ∧ MOK (ls.getD j []) k o e := by
  intro j hj k hk ho
  obtain ⟨_, h2, h3, _⟩ := (all_acc h).2.2 j hj
  exact match_ok (okAll_vAll h2) h3 hk ho
theorem acc_stack {ls : List (List Ins)} {ks : List Int} (h : (allF ls ks).2.2 = 0) : ∀ q, q < ls.length → ∀ p, (stackF (ls.getD q []) ks q p).1.size ≤ 8 := by
  intro q hq p
  obtain ⟨_, _, h3, h4⟩ := (all_acc h).2.2 q hq
  unfold stackF
  rw [if_neg (fun e => e h4)]
  split
  · exact Nat.zero_le _
  · exact vStack_le h3 p.toNat
theorem all_long {ls : List (List Ins)} {ks : List Int} (h : 4096 < ls.length ∨ 4096 < ks.length) : (allF ls ks).2.2 ≠ 0 := by
  unfold allF
  rw [if_pos h]
  decide
set_option maxRecDepth 100000 in
set_option maxHeartbeats 2000000 in
theorem specCoreOK_any (a : Option Addr) (c : Nat) (ls : List (List Ins)) (ks : List Int) (k : Option Addr) (kc : Nat) (h : CH) (C : Cor) (hm : ls.length ≤ maxLen) (hl : ∀ j, j < ls.length → (ls.getD j []).length ≤ maxLen) (hk : ks.length ≤ maxLen) (hcl : C.le maxLen) (w : World) (hz : Routs w a ls) (hy : Lies w k (kC ks)) (hc : CLies w h C) :
    Calls Tryd.prog 47 #[.slice a ls.length c, .slice k ks.length kc, cV h C] w fun e w' => e = .returned (.bool (corF ls ks C)) ∧ Below w.heap.size w w' := by
  have HX := Lib.hid (Bx.start w (.cells #[.slice h.a0 C.fr.length h.c0, .slice h.a1 C.st.length h.c1] 62))
  have HV := Lib.hid (specVerifyAll_any a c ls ks k kc hm hl hk _ (hz.below HX.out.bel) (hy.below HX.out.bel (Nat.le_refl _)))
  have HO : Hid ((allF ls ks).2.2 = 0 → ∀ X, Below w.heap.size w X → Calls Tryd.prog 86 #[.slice a ls.length c, .slice k ks.length kc, .agg #[.slice h.a0 C.fr.length h.c0, .slice h.a1 C.st.length h.c1]] X fun e w' => e = .returned (.bool (corB ls ks C)) ∧ Below X.heap.size X w') :=
    Lib.hid (fun hv X hX => l07OK_any ls a c ks k kc h C (all_acc hv).1 (fun j hj => ((all_acc hv).2.2 j hj).1) (acc_match hv) (acc_stack hv) hk hcl X (hz.below hX) (hy.below hX (Nat.le_refl _)) (hc.below hX (Nat.le_refl _)))
  have HN := Lib.hid (@corF_no ls ks C)
  have HY := Lib.hid (@corF_ok ls ks C)
  have HG := Lib.hid (@all_long ls ks)
  clear hz hy hc hl hcl
  change Calls Tryd.prog 47 #[.slice a ls.length c, .slice k ks.length kc, .agg #[.slice h.a0 C.fr.length h.c0, .slice h.a1 C.st.length h.c1]] w _
  generalize corF ls ks C = R at *
  generalize corB ls ks C = S at *
  generalize (allF ls ks).1 = x at *
  generalize (allF ls ks).2.1 = y at *
  generalize (allF ls ks).2.2 = z at *
  unfold maxLen at hm hk
  generalize ls.length = n at *
  generalize ks.length = m at *
  generalize C.fr.length = u at *
  generalize C.st.length = v at *
  by_cases h1 : (4096 : Int) < (n : Int)
  · have HE := Lib.hid (HN.out (HG.out (.inl (by omega))))
    go_enter Tryd.func47, Tryd.ntmps47
    go_wp2
    go_ret
    exact ⟨rb_eq HE.out.symm, HX.out.bel⟩
  by_cases h2 : (4096 : Int) < (m : Int)
  · have HE := Lib.hid (HN.out (HG.out (.inr (by omega))))
    go_enter Tryd.func47, Tryd.ntmps47
    go_wp2
    go_ret
    exact ⟨rb_eq HE.out.symm, HX.out.bel⟩
  by_cases hv : z = 0
  · have HE := Lib.hid (HY.out hv)
    have HO2 := Lib.hid (HO.out hv)
    subst hv
    clear HN HY HO
    go_enter Tryd.func47, Tryd.ntmps47
    go_wp2_with fail
    refine Calls.mono HV.out ?_
    rintro e w1 ⟨rfl, hb1⟩
    have HX1 := Lib.hid (HX.out.to hb1)
    clear hb1
    have c0 := cell_of_row _ w.heap.size 0 _ _ _ HX1.out.box
    have c1 := cell_of_row _ w.heap.size 1 _ _ _ HX1.out.box
    go_wp2_with fail
    refine Calls.mono (HO2.out _ HX1.out.bel) ?_
    rintro e w2 ⟨rfl, hb2⟩
    have HX2 := Lib.hid (HX1.out.to hb2)
    clear hb2
    go_wp2
    go_ret
    exact ⟨rb_eq HE.out.symm, HX2.out.bel⟩
  · have HE := Lib.hid (HN.out hv)
    have gz : (z != 0) = true := by simp; omega
    clear HN HY HO
    go_enter Tryd.func47, Tryd.ntmps47
    go_wp2_with fail
    refine Calls.mono HV.out ?_
    rintro e w1 ⟨rfl, hb1⟩
    have HX1 := Lib.hid (HX.out.to hb1)
    clear hb1
    go_wp2
    go_ret
    exact ⟨rb_eq HE.out.symm, HX1.out.bel⟩
end Go.Proofs.YtnehaidkhpjpbaaDoor
