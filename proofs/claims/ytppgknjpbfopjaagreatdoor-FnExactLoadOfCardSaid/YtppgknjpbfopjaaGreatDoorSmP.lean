/- Lists of tasks, of instructions, of booleans compared by slices.Equal. (Written by tools/gen_eq8.py.) -/
import Derived.Test.YtppgknjpbfopjaaGreatDoorPgm
import Derived.Test.YtppgknjpbfopjaaGreatDoorEqI
import Derived.Test.YtppgknjpbfopjaaGreatDoorCkP
namespace Go.Proofs.YtppgknjpbfopjaaGreatDoor
open Go.ChangeShapes Go.WideShapes Go.ChangeAt Go.RowKit
set_option linter.unusedVariables false
instance decTT : DecidableEq TT := fun x y => decidable_of_iff (x.k = y.k ∧ x.p = y.p ∧ x.d = y.d ∧ x.i = y.i ∧ x.q = y.q ∧ x.r = y.r) (by cases x; cases y; simp)
theorem fb_rb8 {a b : Bool} (h : a = b) : Ending.returned (.bool a) = .returned (.bool b) := by rw [h]
abbrev iV (z : Int × Int) : Value := .agg #[.int .i64 z.1, .int .i64 z.2]
def i0z : Int × Int := (0, 0)
abbrev C2 (b o : Nat) (u : Int × Int) (X : World) : Prop := X.cell? ⟨b, o, none⟩ = some (.int .i64 u.1) ∧ X.cell? ⟨b, o + 1, none⟩ = some (.int .i64 u.2)
theorem C2.bel {b o B : Nat} {u : Int × Int} {X Y : World} (h : C2 b o u X) (hb : Below B X Y) (hl : b < B) : C2 b o u Y :=
  ⟨(hb.cell (p := ⟨b, o, none⟩) hl).trans h.1, (hb.cell (p := ⟨b, o + 1, none⟩) hl).trans h.2⟩
theorem in_at {w : World} {b o : Nat} {zs : List (Int × Int)} (h : ∀ (j : Nat) v, (flat insC zs)[j]? = some v → w.cell? ⟨b, o + j, none⟩ = some v) {i : Nat} (hi : i < zs.length) : C2 b (o + i * 2) (zs.getD i i0z) w := ins_at h hi
theorem eqTt (x y : TT) (w : World) : (Op.equalIn 10000 77 (tV x) (tV y)).run Tryz.prog w = .ok (decide (x = y)) w := by
  obtain ⟨x0, x1, x2, x3, x4, x5⟩ := x
  obtain ⟨y0, y1, y2, y3, y4, y5⟩ := y
  have u3 := Tryz.underlying3
  have a3 := Tryz.isAgg3
  have z3 := Tryz.sizeOf3
  have hS : Tryz.prog.underlying 77 = some (.struct (Tryz.prog.fieldsOf 77)) := by kernel_rfl
  have hp : Tryz.prog.stoodInHeld 77 = false := by kernel_rfl
  rw [show (10000 : Nat) = 9999 + 1 from rfl, run_equalIn_agg w 9999 77 _ _ hS hp]
  simp only [Program.fieldsOf, Tryz.underlying77]
  go_simp
  by_cases h0 : x0 = y0 <;> by_cases h1 : x1 = y1 <;> by_cases h2 : x2 = y2 <;> by_cases h3 : x3 = y3 <;> by_cases h4 : x4 = y4 <;> by_cases h5 : x5 = y5 <;> simp [h0, h1, h2, h3, h4, h5]
theorem eqTt_is {x y : TT} {q : Bool} (h : decide (x = y) = q) (w : World) : (Op.equalIn 10000 77 (tV x) (tV y)).run Tryz.prog w = .ok q w := h ▸ eqTt x y w
theorem eqIn2 (x y : (Int × Int)) (w : World) : (Op.equalIn 10000 170 (iV x) (iV y)).run Tryz.prog w = .ok (decide (x = y)) w := by
  obtain ⟨x0, x1⟩ := x
  obtain ⟨y0, y1⟩ := y
  have u3 := Tryz.underlying3
  have a3 := Tryz.isAgg3
  have z3 := Tryz.sizeOf3
  have hS : Tryz.prog.underlying 170 = some (.struct (Tryz.prog.fieldsOf 170)) := by kernel_rfl
  have hp : Tryz.prog.stoodInHeld 170 = false := by kernel_rfl
  rw [show (10000 : Nat) = 9999 + 1 from rfl, run_equalIn_agg w 9999 170 _ _ hS hp]
  simp only [Program.fieldsOf, Tryz.underlying170]
  go_simp
  by_cases h0 : x0 = y0 <;> by_cases h1 : x1 = y1 <;> simp [h0, h1]
theorem eqIn2_is {x y : (Int × Int)} {q : Bool} (h : decide (x = y) = q) (w : World) : (Op.equalIn 10000 170 (iV x) (iV y)).run Tryz.prog w = .ok q w := h ▸ eqIn2 x y w
set_option maxRecDepth 100000 in
set_option maxHeartbeats 1000000 in
theorem slEqT_any (l m : List TT) (a b : Option Addr) (c d : Nat) (hl : l.length ≤ maxLen) (hm : m.length ≤ maxLen) (w : World) (hz : Lies w a (flat tC l)) (hy : Lies w b (flat tC m)) :
    Calls Tryz.prog 79 #[.slice a l.length c, .slice b m.length d] w fun e w' => e = .returned (.bool (decide (l = m))) ∧ Below w.heap.size w w' := by
  have Hz := Lib.hid hz
  have Hy := Lib.hid hy
  clear hz hy
  have HE := Lib.hid (@eql_len TT _ l m)
  have HN := Lib.hid (fun j => @eql_no TT _ l m j t0)
  have HY := Lib.hid (@eql_yes TT _ l m t0)
  generalize decide (l = m) = R at *
  unfold maxLen at hl hm
  generalize hL : l.length = n at *
  have HL := Lib.hid hL
  generalize hM : m.length = p at *
  have HM := Lib.hid hM
  clear hL hM
  by_cases hnp : n = p
  case neg =>
    have HR := Lib.hid (HE.out hnp)
    have hb : ((n : Int) != p) = true := by rw [bne_iff_ne]; omega
    clear hnp
    go_enter Tryz.func79, Tryz.ntmps79
    go_wp2
    go_ret
    exact ⟨fb_rb8 (by rw [HR.out]), Below.refl _ _⟩
  subst hnp
  have hs : ((n : Int) != n) = false := by simp
  go_enter Tryz.func79, Tryz.ntmps79
  go_wp2
  go_loopw [13] (fun i wr => ∃ k : Nat, k ≤ n ∧ i = .int .i64 k ∧ Hid (∀ q, q < k → l.getD q t0 = m.getD q t0) ∧ Hid (Below w.heap.size w wr)) (fun i _ => n - (intOf i).toNat)
  case atStart => exact ⟨0, Nat.zero_le _, rfl, Lib.hid (by intro q hq; omega), Lib.hid (Below.refl _ _)⟩
  case round =>
    obtain ⟨k, hk, rfl, hr, hb⟩ := hrel
    by_cases hlt : k < n
    · obtain ⟨b1, o1, rfl, hb1, hc1⟩ := Hz.out.open (by rw [flat_len tC_len, HL.out]; omega)
      obtain ⟨b2, o2, rfl, hb2, hc2⟩ := Hy.out.open (by rw [flat_len tC_len, HM.out]; omega)
      have e1 : C6 b1 (o1 + k * 6) (l.getD k t0) wr := (tt_at hc1 (by rw [HL.out]; exact hlt)).bel hb.out hb1
      have e2 : C6 b2 (o2 + k * 6) (m.getD k t0) wr := (tt_at hc2 (by rw [HM.out]; exact hlt)).bel hb.out hb2
      obtain ⟨p0, p1, p2, p3, p4, p5⟩ := e1
      obtain ⟨q0, q1, q2, q3, q4, q5⟩ := e2
      clear hc1 hc2
      have HX := Lib.hid (HN.out k)
      have HK : Hid (l.getD k t0 = m.getD k t0 → ∀ q, q < k + 1 → l.getD q t0 = m.getD q t0) := Lib.hid (fun h q hq => by
        by_cases e : q = k
        · rw [e]; exact h
        · exact hr.out q (by omega))
      generalize l.getD k t0 = x at *
      generalize m.getD k t0 = y at *
      by_cases hxy : x = y
      · have HK2 := Lib.hid (HK.out hxy)
        have hxx := (fun w => eqTt_is (decide_eq_true hxy) w)
        clear hxy HX HK
        go_wp2_with fail
        go_quiet (fail)
        go_wp2
        go_roundw
        case rel => exact ⟨k + 1, by omega, by go_num, HK2, Lib.hid (bel_dn hb.out _)⟩
        case measure => simp [intOf]; omega
      · have HR := Lib.hid (HX.out hxy)
        have hxx := (fun w => eqTt_is (decide_eq_false hxy) w)
        clear hxy HX HK
        go_wp2_with fail
        go_quiet (fail)
        go_wp2
        go_ret
        exact ⟨fb_rb8 (by rw [HR.out]), bel_dn hb.out _⟩
    · obtain rfl : k = n := by omega
      have HR := Lib.hid (HY.out (by first | rfl | trivial) hr.out)
      go_wp2
      go_ret
      exact ⟨fb_rb8 (by rw [HR.out]), hb.out⟩
set_option maxRecDepth 100000 in
set_option maxHeartbeats 1000000 in
theorem slEqN_any (l m : List (Int × Int)) (a b : Option Addr) (c d : Nat) (hl : l.length ≤ maxLen) (hm : m.length ≤ maxLen) (w : World) (hz : Lies w a (flat insC l)) (hy : Lies w b (flat insC m)) :
    Calls Tryz.prog 139 #[.slice a l.length c, .slice b m.length d] w fun e w' => e = .returned (.bool (decide (l = m))) ∧ Below w.heap.size w w' := by
  have Hz := Lib.hid hz
  have Hy := Lib.hid hy
  clear hz hy
  have HE := Lib.hid (@eql_len (Int × Int) _ l m)
  have HN := Lib.hid (fun j => @eql_no (Int × Int) _ l m j i0z)
  have HY := Lib.hid (@eql_yes (Int × Int) _ l m i0z)
  generalize decide (l = m) = R at *
  unfold maxLen at hl hm
  generalize hL : l.length = n at *
  have HL := Lib.hid hL
  generalize hM : m.length = p at *
  have HM := Lib.hid hM
  clear hL hM
  by_cases hnp : n = p
  case neg =>
    have HR := Lib.hid (HE.out hnp)
    have hb : ((n : Int) != p) = true := by rw [bne_iff_ne]; omega
    clear hnp
    go_enter Tryz.func139, Tryz.ntmps139
    go_wp2
    go_ret
    exact ⟨fb_rb8 (by rw [HR.out]), Below.refl _ _⟩
  subst hnp
  have hs : ((n : Int) != n) = false := by simp
  go_enter Tryz.func139, Tryz.ntmps139
  go_wp2
  go_loopw [13] (fun i wr => ∃ k : Nat, k ≤ n ∧ i = .int .i64 k ∧ Hid (∀ q, q < k → l.getD q i0z = m.getD q i0z) ∧ Hid (Below w.heap.size w wr)) (fun i _ => n - (intOf i).toNat)
  case atStart => exact ⟨0, Nat.zero_le _, rfl, Lib.hid (by intro q hq; omega), Lib.hid (Below.refl _ _)⟩
  case round =>
    obtain ⟨k, hk, rfl, hr, hb⟩ := hrel
    by_cases hlt : k < n
    · obtain ⟨b1, o1, rfl, hb1, hc1⟩ := Hz.out.open (by rw [flat_len insC_len, HL.out]; omega)
      obtain ⟨b2, o2, rfl, hb2, hc2⟩ := Hy.out.open (by rw [flat_len insC_len, HM.out]; omega)
      have e1 : C2 b1 (o1 + k * 2) (l.getD k i0z) wr := (in_at hc1 (by rw [HL.out]; exact hlt)).bel hb.out hb1
      have e2 : C2 b2 (o2 + k * 2) (m.getD k i0z) wr := (in_at hc2 (by rw [HM.out]; exact hlt)).bel hb.out hb2
      obtain ⟨p0, p1⟩ := e1
      obtain ⟨q0, q1⟩ := e2
      clear hc1 hc2
      have HX := Lib.hid (HN.out k)
      have HK : Hid (l.getD k i0z = m.getD k i0z → ∀ q, q < k + 1 → l.getD q i0z = m.getD q i0z) := Lib.hid (fun h q hq => by
        by_cases e : q = k
        · rw [e]; exact h
        · exact hr.out q (by omega))
      generalize l.getD k i0z = x at *
      generalize m.getD k i0z = y at *
      by_cases hxy : x = y
      · have HK2 := Lib.hid (HK.out hxy)
        have hxx := (fun w => eqIn2_is (decide_eq_true hxy) w)
        clear hxy HX HK
        go_wp2_with fail
        go_quiet (fail)
        go_wp2
        go_roundw
        case rel => exact ⟨k + 1, by omega, by go_num, HK2, Lib.hid (bel_dn hb.out _)⟩
        case measure => simp [intOf]; omega
      · have HR := Lib.hid (HX.out hxy)
        have hxx := (fun w => eqIn2_is (decide_eq_false hxy) w)
        clear hxy HX HK
        go_wp2_with fail
        go_quiet (fail)
        go_wp2
        go_ret
        exact ⟨fb_rb8 (by rw [HR.out]), bel_dn hb.out _⟩
    · obtain rfl : k = n := by omega
      have HR := Lib.hid (HY.out (by first | rfl | trivial) hr.out)
      go_wp2
      go_ret
      exact ⟨fb_rb8 (by rw [HR.out]), hb.out⟩
set_option maxRecDepth 100000 in
set_option maxHeartbeats 1000000 in
theorem slEqB8_any (l m : List Bool) (a b : Option Addr) (c d : Nat) (hl : l.length ≤ maxLen) (hm : m.length ≤ maxLen) (w : World) (hz : Lies w a (flat bI l)) (hy : Lies w b (flat bI m)) :
    Calls Tryz.prog 80 #[.slice a l.length c, .slice b m.length d] w fun e w' => e = .returned (.bool (decide (l = m))) ∧ Below w.heap.size w w' := by
  have Hz := Lib.hid hz
  have Hy := Lib.hid hy
  clear hz hy
  have HE := Lib.hid (@eql_len Bool _ l m)
  have HN := Lib.hid (fun j => @eql_no Bool _ l m j false)
  have HY := Lib.hid (@eql_yes Bool _ l m false)
  generalize decide (l = m) = R at *
  unfold maxLen at hl hm
  generalize hL : l.length = n at *
  have HL := Lib.hid hL
  generalize hM : m.length = p at *
  have HM := Lib.hid hM
  clear hL hM
  by_cases hnp : n = p
  case neg =>
    have HR := Lib.hid (HE.out hnp)
    have hb : ((n : Int) != p) = true := by rw [bne_iff_ne]; omega
    clear hnp
    go_enter Tryz.func80, Tryz.ntmps80
    go_wp2
    go_ret
    exact ⟨fb_rb8 (by rw [HR.out]), Below.refl _ _⟩
  subst hnp
  have hs : ((n : Int) != n) = false := by simp
  go_enter Tryz.func80, Tryz.ntmps80
  go_wp2
  go_loopw [13] (fun i wr => ∃ k : Nat, k ≤ n ∧ i = .int .i64 k ∧ Hid (∀ q, q < k → l.getD q false = m.getD q false) ∧ Hid (Below w.heap.size w wr)) (fun i _ => n - (intOf i).toNat)
  case atStart => exact ⟨0, Nat.zero_le _, rfl, Lib.hid (by intro q hq; omega), Lib.hid (Below.refl _ _)⟩
  case round =>
    obtain ⟨k, hk, rfl, hr, hb⟩ := hrel
    by_cases hlt : k < n
    · obtain ⟨b1, o1, rfl, hb1, hc1⟩ := Hz.out.open (by rw [bC_len, HL.out]; omega)
      obtain ⟨b2, o2, rfl, hb2, hc2⟩ := Hy.out.open (by rw [bC_len, HM.out]; omega)
      have d0 := (hb.out.cell (p := ⟨b1, o1 + k, none⟩) hb1).trans (bool_at hc1 (i := k) (by rw [HL.out]; exact hlt))
      have d1 := (hb.out.cell (p := ⟨b2, o2 + k, none⟩) hb2).trans (bool_at hc2 (i := k) (by rw [HM.out]; exact hlt))
      clear hc1 hc2
      have HX := Lib.hid (HN.out k)
      have HK : Hid (l.getD k false = m.getD k false → ∀ q, q < k + 1 → l.getD q false = m.getD q false) := Lib.hid (fun h q hq => by
        by_cases e : q = k
        · rw [e]; exact h
        · exact hr.out q (by omega))
      generalize l.getD k false = x at *
      generalize m.getD k false = y at *
      by_cases hxy : x = y
      · have HK2 := Lib.hid (HK.out hxy)
        subst hxy
        have hxx : (x != x) = false := by simp
        clear HX HK
        go_wp2_with fail
        go_quiet (fail)
        go_wp2
        go_roundw
        case rel => exact ⟨k + 1, by omega, by go_num, HK2, Lib.hid (bel_dn hb.out _)⟩
        case measure => simp [intOf]; omega
      · have HR := Lib.hid (HX.out hxy)
        have hyx : y = !x := by cases x <;> cases y <;> first | rfl | exact absurd rfl hxy
        subst hyx
        clear hxy HX HK
        cases x
        all_goals
          go_wp2_with fail
          go_quiet (fail)
          go_wp2
          go_ret
          exact ⟨fb_rb8 (by rw [HR.out]), bel_dn hb.out _⟩
    · obtain rfl : k = n := by omega
      have HR := Lib.hid (HY.out (by first | rfl | trivial) hr.out)
      go_wp2
      go_ret
      exact ⟨fb_rb8 (by rw [HR.out]), hb.out⟩
end Go.Proofs.YtppgknjpbfopjaaGreatDoor
namespace Go.Proofs.YtppgknjpbfopjaaGreatDoor
open Go.ChangeShapes Go.WideShapes Go.ChangeAt Go.RowKit
set_option linter.unusedVariables false
theorem sameRoutine_any (zs ys : List Ins) (a b : Option Addr) (c d : Nat) (hn : zs.length ≤ maxLen) (hm : ys.length ≤ maxLen) (w : World) (hz : Lies w a (flat insC zs)) (hy : Lies w b (flat insC ys)) :
    Calls Tryz.prog 78 #[.agg #[.slice a zs.length c], .agg #[.slice b ys.length d]] w fun e w' => e = .returned (.bool (decide (zs = ys))) ∧ Below w.heap.size w w' := by
  have HX := Lib.hid (Bx2.start w (.cells #[.slice a zs.length c] 108) (.cells #[.slice b ys.length d] 108))
  have HE := Lib.hid (slEqN_any zs ys a b c d hn hm _ (hz.below HX.out.bel (Nat.le_refl _)) (hy.below HX.out.bel (Nat.le_refl _)))
  clear hz hy hn hm
  generalize decide (zs = ys) = R at *
  generalize zs.length = n at *
  generalize ys.length = m at *
  go_enter Tryz.func78, Tryz.ntmps78
  go_wp2_with fail
  refine Calls.mono HE.out ?_
  rintro e w1 ⟨rfl, hb⟩
  have HX := Lib.hid (HX.out.to hb)
  clear hb
  go_wp2
  go_ret
  exact ⟨rfl, HX.out.bel⟩
set_option maxHeartbeats 1000000 in
theorem eqFuncR_any (ls ms : List (List Ins)) (a b : Option Addr) (c d : Nat) (hl : ls.length ≤ maxLen) (hm : ms.length ≤ maxLen) (hlr : ∀ j, j < ls.length → (ls.getD j []).length ≤ maxLen) (hmr : ∀ j, j < ms.length → (ms.getD j []).length ≤ maxLen) (w : World) (hz : RL w a ls) (hy : RL w b ms) :
    Calls Tryz.prog 77 #[.slice a ls.length c, .slice b ms.length d, .func (.func 78) #[] #[]] w fun e w' => e = .returned (.bool (decide (ls = ms))) ∧ Below w.heap.size w w' := by
  have Hz := Lib.hid hz
  have Hy := Lib.hid hy
  clear hz hy
  have HE := Lib.hid (@eql_len (List Ins) _ ls ms)
  have HN := Lib.hid (fun j => @eql_no (List Ins) _ ls ms j [])
  have HY := Lib.hid (@eql_yes (List Ins) _ ls ms [])
  have HLR := Lib.hid hlr
  have HMR := Lib.hid hmr
  clear hlr hmr
  generalize decide (ls = ms) = R at *
  unfold maxLen at hl hm
  generalize hL : ls.length = n at *
  have HL := Lib.hid hL
  generalize hM : ms.length = p at *
  have HM := Lib.hid hM
  clear hL hM
  by_cases hnp : n = p
  case neg =>
    have HR := Lib.hid (HE.out hnp)
    have hb : ((n : Int) != p) = true := by rw [bne_iff_ne]; omega
    clear hnp
    go_enter Tryz.func77, Tryz.ntmps77
    go_wp2
    go_ret
    exact ⟨rb_eq (by rw [HR.out]), Below.refl _ _⟩
  subst hnp
  have hs : ((n : Int) != n) = false := by simp
  go_enter Tryz.func77, Tryz.ntmps77
  go_wp2
  go_loopw [17] (fun i wr => ∃ k : Nat, k ≤ n ∧ i = .int .i64 k ∧ Hid (∀ q, q < k → ls.getD q [] = ms.getD q []) ∧ Hid (Below w.heap.size w wr)) (fun i _ => n - (intOf i).toNat)
  case atStart => exact ⟨0, Nat.zero_le _, rfl, Lib.hid (by intro q hq; omega), Lib.hid (Below.refl _ _)⟩
  case round =>
    obtain ⟨k, hk, rfl, hr, hb⟩ := hrel
    by_cases hlt : k < n
    · obtain ⟨b1, o1, x1, c1, rfl, hb1, hc1, hz1⟩ := Hz.out.at (j := k) (by rw [HL.out]; exact hlt)
      obtain ⟨b2, o2, x2, c2, rfl, hb2, hc2, hz2⟩ := Hy.out.at (j := k) (by rw [HM.out]; exact hlt)
      have d0 := (hb.out.cell (p := ⟨b1, o1 + k, none⟩) hb1).trans hc1
      have d1 := (hb.out.cell (p := ⟨b2, o2 + k, none⟩) hb2).trans hc2
      have hl1 : b1 < wr.heap.size := Nat.lt_of_lt_of_le hb1 hb.out.size
      have hl2 : b2 < wr.heap.size := Nat.lt_of_lt_of_le hb2 hb.out.size
      have HX := Lib.hid (HN.out k)
      have HK : Hid (ls.getD k [] = ms.getD k [] → ∀ q, q < k + 1 → ls.getD q [] = ms.getD q []) := Lib.hid (fun h q hq => by
        by_cases e : q = k
        · rw [e]; exact h
        · exact hr.out q (by omega))
      have HA : Hid (∀ O O' : Obj, Below w.heap.size w ((wr.alloc O).alloc O')) := Lib.hid (fun O O' => (hb.out.alloc hb.out.size O).alloc (hb.out.alloc hb.out.size O).size O')
      have HS := Lib.hid (fun w2 (h : Below w.heap.size w w2) => sameRoutine_any (ls.getD k []) (ms.getD k []) x1 x2 c1 c2 (HLR.out k hlt) (HMR.out k hlt) w2 (hz1.below h (Nat.le_refl _)) (hz2.below h (Nat.le_refl _)))
      clear hc1 hc2 hz1 hz2
      by_cases hxy : ls.getD k [] = ms.getD k []
      · have HK2 := Lib.hid (HK.out hxy)
        rw [decide_eq_true hxy] at HS
        clear hxy HX HK
        generalize (ls.getD k []).length = q1 at *
        generalize (ms.getD k []).length = q2 at *
        go_wp2_with fail
        refine Calls.mono (HS.out _ (HA.out _ _)) ?_
        rintro e w2 ⟨rfl, hb3⟩
        have Hb3 := Lib.hid ((HA.out (.cells #[.slice x1 q1 c1] 108) (.cells #[.slice x2 q2 c2] 108)).trans (hb3.mono (HA.out _ _).size))
        clear hb3 d0 d1
        go_wp2
        go_roundw
        case rel => exact ⟨k + 1, by omega, by go_num, HK2, Hb3⟩
        case measure => simp [intOf]; omega
      · have HR := Lib.hid (HX.out hxy)
        rw [decide_eq_false hxy] at HS
        clear hxy HX HK
        generalize (ls.getD k []).length = q1 at *
        generalize (ms.getD k []).length = q2 at *
        go_wp2_with fail
        refine Calls.mono (HS.out _ (HA.out _ _)) ?_
        rintro e w2 ⟨rfl, hb3⟩
        have Hb3 := Lib.hid ((HA.out (.cells #[.slice x1 q1 c1] 108) (.cells #[.slice x2 q2 c2] 108)).trans (hb3.mono (HA.out _ _).size))
        clear hb3 d0 d1
        go_wp2
        go_ret
        exact ⟨rb_eq (by rw [HR.out]), Hb3.out⟩
    · obtain rfl : k = n := by omega
      have HR := Lib.hid (HY.out (by first | rfl | trivial) hr.out)
      go_wp2
      go_ret
      exact ⟨rb_eq (by rw [HR.out]), hb.out⟩
def okP (D : Pgm) : Bool := (ckF D).2 == 0
theorem programOK_any (h : PH) (D : Pgm) (hm : D.le maxLen) (w : World) (ht : VTabs w) (hz : PLies w h D) :
    Calls Tryz.prog 53 #[pV h D] w fun e w' => e = .returned (.bool (okP D)) ∧ Below w.heap.size w w' := by
  have HX := Lib.hid (Bx.start w (pO h D 35))
  have HC := Lib.hid (checkProgram_any h D hm _ (ht.below HX.out.bel (Nat.le_refl _)) (hz.below HX.out.bel (Nat.le_refl _)))
  have HO : Hid (okP D = ((ckF D).2 == 0)) := Lib.hid rfl
  clear hz ht
  generalize okP D = OK at *
  generalize ckF D = R at *
  obtain ⟨r1, r2⟩ := R
  dsimp only at HC HO
  go_enter Tryz.func53, Tryz.ntmps53
  go_wp2_with fail
  refine Calls.mono HC.out ?_
  rintro e w1 ⟨rfl, hb⟩
  have HX := Lib.hid (HX.out.to hb)
  clear hb
  go_wp2
  go_ret
  exact ⟨rb_eq HO.out.symm, HX.out.bel⟩
theorem l08OK_any (h : PH) (D : Pgm) (hm : D.le maxLen) (w : World) (hz : PLies w h D) :
    Calls Tryz.prog 33 #[pV h D] w fun e w' => e = .returned (.bool (okP D)) ∧ Below w.heap.size w w' := by
  have HX := Lib.hid (Bx.start w (pO h D 35))
  have HC := Lib.hid (l08Check_any h D hm _ (hz.below HX.out.bel (Nat.le_refl _)))
  have HO : Hid (okP D = ((ckF D).2 == 0)) := Lib.hid rfl
  clear hz
  generalize okP D = OK at *
  generalize ckF D = R at *
  obtain ⟨r1, r2⟩ := R
  dsimp only at HC HO
  go_enter Tryz.func33, Tryz.ntmps33
  go_wp2_with fail
  refine Calls.mono HC.out ?_
  rintro e w1 ⟨rfl, hb⟩
  have HX := Lib.hid (HX.out.to hb)
  clear hb
  go_wp2
  go_ret
  exact ⟨rb_eq HO.out.symm, HX.out.bel⟩
def smB (D E : Pgm) : Bool := okP D && (decide (D.ks = E.ks) && (decide (D.rs = E.rs) && (decide (D.ts = E.ts) && decide (D.sa = E.sa))))
set_option maxHeartbeats 1000000 in
theorem sameProgram_any (h g : PH) (D E : Pgm) (hm : D.le maxLen) (hn : E.le maxLen) (w : World) (ht : VTabs w) (hz : PLies w h D) (hy : PLies w g E) :
    Calls Tryz.prog 28 #[pV h D, pV g E] w fun e w' => e = .returned (.bool (smB D E)) ∧ Below w.heap.size w w' := by
  have HX := Lib.hid (Bx2.start w (pO h D 35) (pO g E 35))
  have HZ := Lib.hid hz
  have HY := Lib.hid hy
  have HC := Lib.hid (programOK_any h D hm _ (ht.below HX.out.bel (Nat.le_refl _)) (hz.below HX.out.bel (Nat.le_refl _)))
  have H0 := Lib.hid (fun w hz hy => slEqI_any D.ks E.ks h.a0 g.a0 h.c0 g.c0 hm.h0 hn.h0 w hz hy)
  have H1 := Lib.hid (fun w hz hy => eqFuncR_any D.rs E.rs h.a1 g.a1 h.c1 g.c1 hm.h1 hn.h1 hm.hr hn.hr w hz hy)
  have H2 := Lib.hid (fun w hz hy => slEqT_any D.ts E.ts h.a2 g.a2 h.c2 g.c2 hm.h2 hn.h2 w hz hy)
  have H3 := Lib.hid (fun w hz hy => slEqB8_any D.sa E.sa h.a3 g.a3 h.c3 g.c3 hm.h3 hn.h3 w hz hy)
  have HS : Hid (smB D E = (okP D && (decide (D.ks = E.ks) && (decide (D.rs = E.rs) && (decide (D.ts = E.ts) && decide (D.sa = E.sa)))))) := Lib.hid rfl
  clear hz hy ht
  generalize smB D E = S at *
  generalize okP D = R at *
  generalize decide (D.ks = E.ks) = R0 at *
  generalize decide (D.rs = E.rs) = R1 at *
  generalize decide (D.ts = E.ts) = R2 at *
  generalize decide (D.sa = E.sa) = R3 at *
  cases R
  · go_enter Tryz.func28, Tryz.ntmps28
    go_wp2_with fail
    refine Calls.mono HC.out ?_
    rintro e w1 ⟨rfl, hb⟩
    have HX := Lib.hid (HX.out.to hb)
    clear hb
    go_wp2
    go_ret
    exact ⟨rb_eq (by rw [HS.out]; rfl), HX.out.bel⟩
  cases R0
  · go_enter Tryz.func28, Tryz.ntmps28
    go_wp2_with fail
    refine Calls.mono HC.out ?_
    rintro e w1 ⟨rfl, hb⟩
    have HX := Lib.hid (HX.out.to hb)
    clear hb
    have p0 := cell_of_row _ w.heap.size 0 _ _ _ HX.out.box
    have q0 := cell_of_row _ (w.heap.size + 1) 0 _ _ _ HX.out.box2
    go_wp2_with fail
    refine Calls.mono (H0.out _ (HZ.out.below HX.out.bel (Nat.le_refl _)).ks (HY.out.below HX.out.bel (Nat.le_refl _)).ks) ?_
    rintro e v0 ⟨rfl, hb⟩
    have HX := Lib.hid (HX.out.to hb)
    clear hb p0 q0
    go_wp2
    go_ret
    exact ⟨rb_eq (by rw [HS.out]; rfl), HX.out.bel⟩
  cases R1
  · go_enter Tryz.func28, Tryz.ntmps28
    go_wp2_with fail
    refine Calls.mono HC.out ?_
    rintro e w1 ⟨rfl, hb⟩
    have HX := Lib.hid (HX.out.to hb)
    clear hb
    have p0 := cell_of_row _ w.heap.size 0 _ _ _ HX.out.box
    have q0 := cell_of_row _ (w.heap.size + 1) 0 _ _ _ HX.out.box2
    go_wp2_with fail
    refine Calls.mono (H0.out _ (HZ.out.below HX.out.bel (Nat.le_refl _)).ks (HY.out.below HX.out.bel (Nat.le_refl _)).ks) ?_
    rintro e v0 ⟨rfl, hb⟩
    have HX := Lib.hid (HX.out.to hb)
    clear hb p0 q0
    have p1 := cell_of_row _ w.heap.size 1 _ _ _ HX.out.box
    have q1 := cell_of_row _ (w.heap.size + 1) 1 _ _ _ HX.out.box2
    go_wp2_with fail
    refine Calls.mono (H1.out _ (HZ.out.below HX.out.bel (Nat.le_refl _)).rs (HY.out.below HX.out.bel (Nat.le_refl _)).rs) ?_
    rintro e v1 ⟨rfl, hb⟩
    have HX := Lib.hid (HX.out.to hb)
    clear hb p1 q1
    go_wp2
    go_ret
    exact ⟨rb_eq (by rw [HS.out]; rfl), HX.out.bel⟩
  cases R2
  · go_enter Tryz.func28, Tryz.ntmps28
    go_wp2_with fail
    refine Calls.mono HC.out ?_
    rintro e w1 ⟨rfl, hb⟩
    have HX := Lib.hid (HX.out.to hb)
    clear hb
    have p0 := cell_of_row _ w.heap.size 0 _ _ _ HX.out.box
    have q0 := cell_of_row _ (w.heap.size + 1) 0 _ _ _ HX.out.box2
    go_wp2_with fail
    refine Calls.mono (H0.out _ (HZ.out.below HX.out.bel (Nat.le_refl _)).ks (HY.out.below HX.out.bel (Nat.le_refl _)).ks) ?_
    rintro e v0 ⟨rfl, hb⟩
    have HX := Lib.hid (HX.out.to hb)
    clear hb p0 q0
    have p1 := cell_of_row _ w.heap.size 1 _ _ _ HX.out.box
    have q1 := cell_of_row _ (w.heap.size + 1) 1 _ _ _ HX.out.box2
    go_wp2_with fail
    refine Calls.mono (H1.out _ (HZ.out.below HX.out.bel (Nat.le_refl _)).rs (HY.out.below HX.out.bel (Nat.le_refl _)).rs) ?_
    rintro e v1 ⟨rfl, hb⟩
    have HX := Lib.hid (HX.out.to hb)
    clear hb p1 q1
    have p2 := cell_of_row _ w.heap.size 2 _ _ _ HX.out.box
    have q2 := cell_of_row _ (w.heap.size + 1) 2 _ _ _ HX.out.box2
    go_wp2_with fail
    refine Calls.mono (H2.out _ (HZ.out.below HX.out.bel (Nat.le_refl _)).ts (HY.out.below HX.out.bel (Nat.le_refl _)).ts) ?_
    rintro e v2 ⟨rfl, hb⟩
    have HX := Lib.hid (HX.out.to hb)
    clear hb p2 q2
    go_wp2
    go_ret
    exact ⟨rb_eq (by rw [HS.out]; rfl), HX.out.bel⟩
  go_enter Tryz.func28, Tryz.ntmps28
  go_wp2_with fail
  refine Calls.mono HC.out ?_
  rintro e w1 ⟨rfl, hb⟩
  have HX := Lib.hid (HX.out.to hb)
  clear hb
  have p0 := cell_of_row _ w.heap.size 0 _ _ _ HX.out.box
  have q0 := cell_of_row _ (w.heap.size + 1) 0 _ _ _ HX.out.box2
  go_wp2_with fail
  refine Calls.mono (H0.out _ (HZ.out.below HX.out.bel (Nat.le_refl _)).ks (HY.out.below HX.out.bel (Nat.le_refl _)).ks) ?_
  rintro e v0 ⟨rfl, hb⟩
  have HX := Lib.hid (HX.out.to hb)
  clear hb p0 q0
  have p1 := cell_of_row _ w.heap.size 1 _ _ _ HX.out.box
  have q1 := cell_of_row _ (w.heap.size + 1) 1 _ _ _ HX.out.box2
  go_wp2_with fail
  refine Calls.mono (H1.out _ (HZ.out.below HX.out.bel (Nat.le_refl _)).rs (HY.out.below HX.out.bel (Nat.le_refl _)).rs) ?_
  rintro e v1 ⟨rfl, hb⟩
  have HX := Lib.hid (HX.out.to hb)
  clear hb p1 q1
  have p2 := cell_of_row _ w.heap.size 2 _ _ _ HX.out.box
  have q2 := cell_of_row _ (w.heap.size + 1) 2 _ _ _ HX.out.box2
  go_wp2_with fail
  refine Calls.mono (H2.out _ (HZ.out.below HX.out.bel (Nat.le_refl _)).ts (HY.out.below HX.out.bel (Nat.le_refl _)).ts) ?_
  rintro e v2 ⟨rfl, hb⟩
  have HX := Lib.hid (HX.out.to hb)
  clear hb p2 q2
  have p3 := cell_of_row _ w.heap.size 3 _ _ _ HX.out.box
  have q3 := cell_of_row _ (w.heap.size + 1) 3 _ _ _ HX.out.box2
  go_wp2_with fail
  refine Calls.mono (H3.out _ (HZ.out.below HX.out.bel (Nat.le_refl _)).sa (HY.out.below HX.out.bel (Nat.le_refl _)).sa) ?_
  rintro e v3 ⟨rfl, hb⟩
  have HX := Lib.hid (HX.out.to hb)
  clear hb p3 q3
  go_wp2
  go_ret
  exact ⟨rb_eq (by rw [HS.out]; cases R3 <;> rfl), HX.out.bel⟩
end Go.Proofs.YtppgknjpbfopjaaGreatDoor
