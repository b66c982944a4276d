/- Counters beside the loops that are open: impl's test. -/
import Derived.Test.YtnehaidkhpjpbaaDoorOpenP
import Derived.Test.YtnehaidkhpjpbaaDoorWkTo
namespace Go.Proofs.YtnehaidkhpjpbaaDoor
open Go.ChangeShapes Go.WideShapes Go.ChangeAt Go.RowKit
set_option linter.unusedVariables false
/-- Each counter from one to its loop's bound, ts many ts loops. -/
def cGo : List Int → List Int → Bool
  | [], [] => true
  | c :: cs, a :: ts => decide (1 ≤ c ∧ c ≤ a) && cGo cs ts
  | _, _ => false
theorem cGo_nil (a : Int) (ts : List Int) : cGo [] (a :: ts) = false := by simp [cGo]
theorem cGo_end : ∀ l : List Int, cGo l [] = decide (l.length = 0)
  | [] => rfl
  | c :: cs => by simp [cGo]
theorem cGo_cons {l : List Int} {n : Nat} (h : n < l.length) (a : Int) (ts : List Int) : cGo (l.drop n) (a :: ts) = (decide (1 ≤ l.getD n 0 ∧ l.getD n 0 ≤ a) && cGo (l.drop (n + 1)) ts) := by
  have e : l.getD n 0 = l[n] := by simp [List.getD, h]
  rw [List.drop_eq_getElem_cons h, cGo, e]
theorem loopsO_nil (zs : List Ins) : loopsO zs [] = [] := rfl
def vo0 : VO := ⟨0, 0, []⟩
theorem loopsO_drop {zs : List Ins} {os : List VO} {j : Nat} (h : j < os.length) : loopsO zs (os.drop j) = (if (zs.getD (os.getD j vo0).pos.toNat (0, 0)).1 = 24 then [(zs.getD (os.getD j vo0).pos.toNat (0, 0)).2] else []) ++ loopsO zs (os.drop (j + 1)) := by
  have e : os.getD j vo0 = os[j] := by simp [List.getD, h]
  rw [List.drop_eq_getElem_cons h, e]
  unfold loopsO
  rw [List.filterMap_cons]
  by_cases h1 : (zs.getD os[j].pos.toNat (0, 0)).1 = 24
  · rw [if_pos h1, if_pos h1]; rfl
  · rw [if_neg h1, if_neg h1]; rfl
theorem so_at {w : World} {b o : Nat} {os : List VO} (h : ∀ (j : Nat) v, (flat soC (os.map so))[j]? = some v → w.cell? ⟨b, o + j, none⟩ = some v) {i : Nat} (hi : i < os.length) :
    w.cell? ⟨b, o + i * 3, none⟩ = some (.int .i64 (os.getD i vo0).pos) ∧ w.cell? ⟨b, o + i * 3 + 1, none⟩ = some (.int .i64 ((os.getD i vo0).stk.length : Int)) ∧ w.cell? ⟨b, o + i * 3 + 2, none⟩ = some (.bool ((os.getD i vo0).op == 21)) := by
  have e : os.getD i vo0 = os[i] := by simp [List.getD, hi]
  have hx : (os.map so)[i]? = some (so os[i]) := by simp [hi]
  have h0 := flat_at soC_len hx (j := 0) (by omega)
  have h1 := flat_at soC_len hx (j := 1) (by omega)
  have h2 := flat_at soC_len hx (j := 2) (by omega)
  rw [e]
  exact ⟨h (i * 3) _ h0, h (i * 3 + 1) _ h1, h (i * 3 + 2) _ h2⟩
set_option maxRecDepth 100000 in
set_option maxHeartbeats 2000000 in
theorem countersOK_any (l : List Int) (zs : List Ins) (os : List VO) (a b d : Option Addr) (ac bc dc : Nat) (hl : l.length ≤ maxLen) (hzn : zs.length ≤ 40) (hon : os.length ≤ 4) (hp : ∀ j, j < os.length → ∃ q : Nat, (os.getD j vo0).pos = (q : Int) ∧ q < zs.length) (w : World) (hz : Lies w a (kC l)) (hy : Lies w b (flat insC zs)) (hx : Lies w d (flat soC (os.map so))) :
    Calls Tryd.prog 120 #[.slice a l.length ac, .slice b zs.length bc, .slice d os.length dc] w fun e w' => e = .returned (.bool (cGo l (loopsO zs os))) ∧ Below w.heap.size w w' := by
  have HZ := Lib.hid hz
  have HY := Lib.hid hy
  have HX := Lib.hid hx
  have HP := Lib.hid hp
  have HD := Lib.hid (fun j (h : j < os.length) => @loopsO_drop zs os j h)
  have HC := Lib.hid (fun n (h : n < l.length) => @cGo_cons l n h)
  have HR0 : Hid (cGo l (loopsO zs os) = cGo (l.drop 0) (loopsO zs (os.drop 0))) := Lib.hid rfl
  have HDE : Hid (loopsO zs (os.drop os.length) = []) := Lib.hid (by rw [List.drop_length]; rfl)
  have HDL : Hid (l.drop l.length = []) := Lib.hid List.drop_length
  have HLD : Hid (∀ n, (l.drop n).length = l.length - n) := Lib.hid (fun n => List.length_drop)
  clear hz hy hx hp
  generalize cGo l (loopsO zs os) = R at *
  unfold maxLen at hl
  generalize hL : l.length = n at *
  have HL := Lib.hid hL
  generalize hM : zs.length = m at *
  have HM := Lib.hid hM
  generalize hO : os.length = u at *
  have HO := Lib.hid hO
  clear hL hM hO
  go_enter Tryd.func120, Tryd.ntmps120
  go_wp2
  go_loopw [7, 13] (fun cn i wr => ∃ j k : Nat, j ≤ u ∧ k ≤ n ∧ i = .int .i64 j ∧ cn = .int .i64 k ∧ Hid (R = cGo (l.drop k) (loopsO zs (os.drop j))) ∧ Hid (Below w.heap.size w wr)) (fun _ i _ => u - (intOf i).toNat)
  case atStart => exact ⟨0, 0, Nat.zero_le _, Nat.zero_le _, rfl, rfl, HR0, Lib.hid (Below.refl _ _)⟩
  case round =>
    obtain ⟨j, k, hj, hk, rfl, rfl, hr, hb⟩ := hrel
    by_cases hlt : j < u
    · obtain ⟨b1, o1, rfl, hb1, hc1⟩ := HX.out.open (by rw [flat_len soC_len, List.length_map, HO.out]; omega)
      obtain ⟨s0, s1, s2⟩ := so_at hc1 (i := j) (by rw [HO.out]; exact hlt)
      obtain ⟨q, hq, hqz⟩ := HP.out j hlt
      have hd := HD.out j hlt
      rw [hq] at hd s0
      simp only [Int.toNat_natCast] at hd
      have d0 := (hb.out.cell (p := ⟨b1, o1 + j * 3, none⟩) hb1).trans s0
      have d1 := (hb.out.cell (p := ⟨b1, o1 + j * 3 + 1, none⟩) hb1).trans s1
      have d2 := (hb.out.cell (p := ⟨b1, o1 + j * 3 + 2, none⟩) hb1).trans s2
      obtain ⟨b2, o2, rfl, hb2, hc2⟩ := HY.out.open (by rw [flat_len insC_len, HM.out]; omega)
      obtain ⟨i0, i1⟩ := ins_at hc2 (i := q) (by rw [HM.out]; exact hqz)
      have hqi : (q : Int) < m := by omega
      clear hc1 hc2 s0 s1 s2 hq
      generalize (os.getD j vo0).stk.length = v1 at *
      generalize ((os.getD j vo0).op == 21) = v2 at *
      have HDJ := Lib.hid hd
      clear hd
      have HBa := Lib.hid (hb.out.alloc hb.out.size (.cells #[.int .i64 (q : Int), .int .i64 (v1 : Int), .bool v2] 164))
      have e0 := (HBa.out.cell (p := ⟨b2, o2 + q * 2, none⟩) hb2).trans i0
      have e1 := (HBa.out.cell (p := ⟨b2, o2 + q * 2 + 1, none⟩) hb2).trans i1
      clear i0 i1
      generalize (zs.getD q (0, 0)).1 = x at *
      generalize (zs.getD q (0, 0)).2 = y at *
      have HBb := Lib.hid (HBa.out.alloc HBa.out.size (.cells #[.int .i64 x, .int .i64 y] 77))
      by_cases h24 : x = 24
      case neg =>
        have HR2 : Hid (R = cGo (l.drop k) (loopsO zs (os.drop (j + 1)))) := Lib.hid (by rw [hr.out, HDJ.out, if_neg h24]; rfl)
        go_wp2
        go_roundw
        case rel => exact ⟨j + 1, k, by omega, hk, by go_num, rfl, HR2, HBb⟩
        case measure => simp [intOf]; omega
      subst h24
      have HR1 : Hid (R = cGo (l.drop k) (y :: loopsO zs (os.drop (j + 1)))) := Lib.hid (by rw [hr.out, HDJ.out, if_pos rfl]; rfl)
      by_cases hkn : k = n
      case pos =>
        have HR : Hid (R = false) := Lib.hid (by rw [HR1.out, hkn, HDL.out, cGo_nil])
        subst hkn
        have gk : ((k : Int) == (k : Int)) = true := by simp
        go_wp2
        go_quiet (fail)
        go_wp2
        go_ret
        exact ⟨rb_eq HR.out.symm, bel_dn HBb.out _⟩
      have hkl : k < n := by omega
      have gk : ((k : Int) == (n : Int)) = false := by rw [beq_eq_false_iff_ne]; omega
      have HR2 : Hid (R = (decide (1 ≤ l.getD k 0 ∧ l.getD k 0 ≤ y) && cGo (l.drop (k + 1)) (loopsO zs (os.drop (j + 1))))) := Lib.hid (by rw [HR1.out, HC.out k hkl])
      obtain ⟨b3, o3, rfl, hb3, hc3⟩ := HZ.out.open (by rw [kC_len, HL.out]; omega)
      have g0 := (HBb.out.cell (p := ⟨b3, o3 + k, none⟩) hb3).trans (kind_at hc3 (i := k) (by rw [HL.out]; exact hkl))
      have kb := heap_alloc_new (wr.alloc (.cells #[.int .i64 (q : Int), .int .i64 (v1 : Int), .bool v2] 164)) (.cells #[.int .i64 24, .int .i64 y] 77)
      have u1 := cell_of_row _ _ 1 _ _ _ kb
      clear hc3 kb
      generalize l.getD k 0 = z at *
      by_cases h1 : z < 1
      case pos =>
        have q1 : decide (z < 1) = true := decide_eq_true h1
        have HR : Hid (R = false) := Lib.hid (by rw [HR2.out, decide_eq_false (by omega)]; rfl)
        go_wp2
        go_quiet (fail)
        go_wp2
        go_ret
        exact ⟨rb_eq HR.out.symm, bel_dn HBb.out _⟩
      have q1 : decide (z < 1) = false := decide_eq_false h1
      by_cases h2 : y < z
      case pos =>
        have q2 : decide (y < z) = true := decide_eq_true h2
        have HR : Hid (R = false) := Lib.hid (by rw [HR2.out, decide_eq_false (by omega)]; rfl)
        go_wp2
        go_quiet (fail)
        go_wp2
        go_ret
        exact ⟨rb_eq HR.out.symm, bel_dn HBb.out _⟩
      have q2 : decide (y < z) = false := decide_eq_false h2
      have HR3 : Hid (R = cGo (l.drop (k + 1)) (loopsO zs (os.drop (j + 1)))) := Lib.hid (by rw [HR2.out, decide_eq_true (by omega)]; rfl)
      go_wp2
      go_quiet (fail)
      go_wp2
      go_roundw
      case rel => exact ⟨j + 1, k + 1, by omega, by omega, by go_num, by go_num, HR3, Lib.hid (bel_dn HBb.out _)⟩
      case measure => simp [intOf]; omega
    · obtain rfl : j = u := by omega
      have HR : Hid (R = decide (n - k = 0)) := Lib.hid (by rw [hr.out, HDE.out, cGo_end, HLD.out])
      by_cases hkn : k = n
      · have HR2 : Hid (R = true) := Lib.hid (by rw [HR.out]; exact decide_eq_true (by omega))
        subst hkn
        go_wp2
        go_ret
        exact ⟨rb_eq (by rw [HR2.out]), hb.out⟩
      · have HR2 : Hid (R = false) := Lib.hid (by rw [HR.out]; exact decide_eq_false (by omega))
        have g0 : ((k : Int) == n) = false := by rw [beq_eq_false_iff_ne]; omega
        go_wp2
        go_ret
        exact ⟨rb_eq (by rw [HR2.out]), hb.out⟩
end Go.Proofs.YtnehaidkhpjpbaaDoor
