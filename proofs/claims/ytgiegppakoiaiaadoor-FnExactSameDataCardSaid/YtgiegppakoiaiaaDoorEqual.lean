/- Lists compared: slices.Equal over integers, booleans, function blocks; spec's own comparisons. (Written by tools/gen_equal.py.) -/
import Derived.Test.YtgiegppakoiaiaaDoorKindsLaw
namespace Go.Proofs.YtgiegppakoiaiaaDoor
open Go.ChangeShapes Go.WideShapes Go.ChangeAt Go.RowKit
set_option linter.unusedVariables false
theorem eql_len {α : Type} [DecidableEq α] {l m : List α} (h : l.length ≠ m.length) : decide (l = m) = false := decide_eq_false (fun e => h (by rw [e]))
theorem eql_no {α : Type} [DecidableEq α] {l m : List α} {j : Nat} {d : α} (h : l.getD j d ≠ m.getD j d) : decide (l = m) = false := decide_eq_false (fun e => h (by rw [e]))
theorem eql_yes {α : Type} [DecidableEq α] {l m : List α} (d : α) (h : l.length = m.length) (g : ∀ j, j < l.length → l.getD j d = m.getD j d) : decide (l = m) = true := decide_eq_true (by
  apply List.ext_getElem h
  intro i h1 h2
  have := g i h1
  simpa [List.getD, h1, h2] using this)
set_option maxRecDepth 100000 in
set_option maxHeartbeats 1000000 in
theorem slEqI_any (l m : List Int) (a b : Option Addr) (c d : Nat) (hl : l.length ≤ maxLen) (hm : m.length ≤ maxLen) (w : World) (hz : Lies w a (kC l)) (hy : Lies w b (kC m)) :
    Calls Tryd.prog 54 #[.slice a l.length c, .slice b m.length d] w fun e w' => e = .returned (.bool (decide (l = m))) ∧ Below w.heap.size w w' := by
  have Hz := Lib.hid hz
  have Hy := Lib.hid hy
  clear hz hy
  have HE := Lib.hid (@eql_len Int _ l m)
  have HN := Lib.hid (fun j => @eql_no Int _ l m j 0)
  have HY := Lib.hid (@eql_yes Int _ l m 0)
  generalize decide (l = m) = R at *
  unfold maxLen at hl hm
  generalize hL : l.length = n at *
  have HL := Lib.hid hL
  generalize hM : m.length = p at *
  have HM := Lib.hid hM
  clear hL hM
  by_cases hnp : n = p
  case neg =>
    have HR := Lib.hid (HE.out hnp)
    have hb : ((n : Int) != p) = true := by rw [bne_iff_ne]; omega
    clear hnp
    go_enter Tryd.func54, Tryd.ntmps54
    go_wp2
    go_ret
    exact ⟨fb_rb (by rw [HR.out]), Below.refl _ _⟩
  subst hnp
  have hs : ((n : Int) != n) = false := by simp
  go_enter Tryd.func54, Tryd.ntmps54
  go_wp2
  go_loopw [13] (fun i wr => ∃ k : Nat, k ≤ n ∧ i = .int .i64 k ∧ Hid (∀ q, q < k → l.getD q 0 = m.getD q 0) ∧ Hid (Below w.heap.size w wr)) (fun i _ => n - (intOf i).toNat)
  case atStart => exact ⟨0, Nat.zero_le _, rfl, Lib.hid (by intro q hq; omega), Lib.hid (Below.refl _ _)⟩
  case round =>
    obtain ⟨k, hk, rfl, hr, hb⟩ := hrel
    by_cases hlt : k < n
    · obtain ⟨b1, o1, rfl, hb1, hc1⟩ := Hz.out.open (by rw [kC_len, HL.out]; omega)
      obtain ⟨b2, o2, rfl, hb2, hc2⟩ := Hy.out.open (by rw [kC_len, HM.out]; omega)
      have d0 := (hb.out.cell (p := ⟨b1, o1 + k, none⟩) hb1).trans (kind_at hc1 (i := k) (by rw [HL.out]; exact hlt))
      have d1 := (hb.out.cell (p := ⟨b2, o2 + k, none⟩) hb2).trans (kind_at hc2 (i := k) (by rw [HM.out]; exact hlt))
      clear hc1 hc2
      have HX := Lib.hid (HN.out k)
      have HK : Hid (l.getD k 0 = m.getD k 0 → ∀ q, q < k + 1 → l.getD q 0 = m.getD q 0) := Lib.hid (fun h q hq => by
        by_cases e : q = k
        · rw [e]; exact h
        · exact hr.out q (by omega))
      generalize l.getD k 0 = x at *
      generalize m.getD k 0 = y at *
      by_cases hxy : x = y
      · have HK2 := Lib.hid (HK.out hxy)
        have hxx := (show (x != y) = false by rw [bne_eq_false_iff_eq]; exact hxy)
        clear hxy HX HK
        go_wp2_with fail
        go_quiet (fail)
        go_wp2
        go_roundw
        case rel => exact ⟨k + 1, by omega, by go_num, HK2, Lib.hid (bel_dn hb.out _)⟩
        case measure => simp [intOf]; omega
      · have HR := Lib.hid (HX.out hxy)
        have hxx := (show (x != y) = true by rw [bne_iff_ne]; exact hxy)
        clear hxy HX HK
        go_wp2_with fail
        go_quiet (fail)
        go_wp2
        go_ret
        exact ⟨fb_rb (by rw [HR.out]), bel_dn hb.out _⟩
    · obtain rfl : k = n := by omega
      have HR := Lib.hid (HY.out (by first | rfl | trivial) hr.out)
      go_wp2
      go_ret
      exact ⟨fb_rb (by rw [HR.out]), hb.out⟩
set_option maxRecDepth 100000 in
set_option maxHeartbeats 1000000 in
theorem slEqB_any (l m : List Bool) (a b : Option Addr) (c d : Nat) (hl : l.length ≤ maxLen) (hm : m.length ≤ maxLen) (w : World) (hz : Lies w a (flat bI l)) (hy : Lies w b (flat bI m)) :
    Calls Tryd.prog 56 #[.slice a l.length c, .slice b m.length d] w fun e w' => e = .returned (.bool (decide (l = m))) ∧ Below w.heap.size w w' := by
  have Hz := Lib.hid hz
  have Hy := Lib.hid hy
  clear hz hy
  have HE := Lib.hid (@eql_len Bool _ l m)
  have HN := Lib.hid (fun j => @eql_no Bool _ l m j false)
  have HY := Lib.hid (@eql_yes Bool _ l m false)
  generalize decide (l = m) = R at *
  unfold maxLen at hl hm
  generalize hL : l.length = n at *
  have HL := Lib.hid hL
  generalize hM : m.length = p at *
  have HM := Lib.hid hM
  clear hL hM
  by_cases hnp : n = p
  case neg =>
    have HR := Lib.hid (HE.out hnp)
    have hb : ((n : Int) != p) = true := by rw [bne_iff_ne]; omega
    clear hnp
    go_enter Tryd.func56, Tryd.ntmps56
    go_wp2
    go_ret
    exact ⟨fb_rb (by rw [HR.out]), Below.refl _ _⟩
  subst hnp
  have hs : ((n : Int) != n) = false := by simp
  go_enter Tryd.func56, Tryd.ntmps56
  go_wp2
  go_loopw [13] (fun i wr => ∃ k : Nat, k ≤ n ∧ i = .int .i64 k ∧ Hid (∀ q, q < k → l.getD q false = m.getD q false) ∧ Hid (Below w.heap.size w wr)) (fun i _ => n - (intOf i).toNat)
  case atStart => exact ⟨0, Nat.zero_le _, rfl, Lib.hid (by intro q hq; omega), Lib.hid (Below.refl _ _)⟩
  case round =>
    obtain ⟨k, hk, rfl, hr, hb⟩ := hrel
    by_cases hlt : k < n
    · obtain ⟨b1, o1, rfl, hb1, hc1⟩ := Hz.out.open (by rw [bC_len, HL.out]; omega)
      obtain ⟨b2, o2, rfl, hb2, hc2⟩ := Hy.out.open (by rw [bC_len, HM.out]; omega)
      have d0 := (hb.out.cell (p := ⟨b1, o1 + k, none⟩) hb1).trans (bool_at hc1 (i := k) (by rw [HL.out]; exact hlt))
      have d1 := (hb.out.cell (p := ⟨b2, o2 + k, none⟩) hb2).trans (bool_at hc2 (i := k) (by rw [HM.out]; exact hlt))
      clear hc1 hc2
      have HX := Lib.hid (HN.out k)
      have HK : Hid (l.getD k false = m.getD k false → ∀ q, q < k + 1 → l.getD q false = m.getD q false) := Lib.hid (fun h q hq => by
        by_cases e : q = k
        · rw [e]; exact h
        · exact hr.out q (by omega))
      generalize l.getD k false = x at *
      generalize m.getD k false = y at *
      by_cases hxy : x = y
      · have HK2 := Lib.hid (HK.out hxy)
        subst hxy
        have hxx : (x != x) = false := by simp
        clear HX HK
        go_wp2_with fail
        go_quiet (fail)
        go_wp2
        go_roundw
        case rel => exact ⟨k + 1, by omega, by go_num, HK2, Lib.hid (bel_dn hb.out _)⟩
        case measure => simp [intOf]; omega
      · have HR := Lib.hid (HX.out hxy)
        have hyx : y = !x := by cases x <;> cases y <;> first | rfl | exact absurd rfl hxy
        subst hyx
        clear hxy HX HK
        cases x
        all_goals
          go_wp2_with fail
          go_quiet (fail)
          go_wp2
          go_ret
          exact ⟨fb_rb (by rw [HR.out]), bel_dn hb.out _⟩
    · obtain rfl : k = n := by omega
      have HR := Lib.hid (HY.out (by first | rfl | trivial) hr.out)
      go_wp2
      go_ret
      exact ⟨fb_rb (by rw [HR.out]), hb.out⟩
theorem eqFt (x y : FT) (w : World) : (Op.equalIn 10000 86 (fV x) (fV y)).run Tryd.prog w = .ok (decide (x = y)) w := by
  obtain ⟨a, b, c, d⟩ := x
  obtain ⟨e, f, g, h⟩ := y
  have u3 := Tryd.underlying3
  have a3 := Tryd.isAgg3
  have z3 := Tryd.sizeOf3
  have u4 := Tryd.underlying4
  have a4 := Tryd.isAgg4
  have z4 := Tryd.sizeOf4
  have hS : Tryd.prog.underlying 86 = some (.struct (Tryd.prog.fieldsOf 86)) := by kernel_rfl
  have hp : Tryd.prog.stoodInHeld 86 = false := by kernel_rfl
  rw [show (10000 : Nat) = 9999 + 1 from rfl, run_equalIn_agg w 9999 86 _ _ hS hp]
  simp only [Program.fieldsOf, Tryd.underlying86]
  go_simp
  by_cases h1 : a = e <;> by_cases h2 : b = f <;> by_cases h3 : c = g <;> by_cases h4 : d = h <;> simp [h1, h2, h3, h4]
theorem eqFt_is {x y : FT} {q : Bool} (h : decide (x = y) = q) (w : World) : (Op.equalIn 10000 86 (fV x) (fV y)).run Tryd.prog w = .ok q w := h ▸ eqFt x y w
set_option maxRecDepth 100000 in
set_option maxHeartbeats 1000000 in
theorem slEqF_any (l m : List FT) (a b : Option Addr) (c d : Nat) (hl : l.length ≤ maxLen) (hm : m.length ≤ maxLen) (w : World) (hz : Lies w a (flat fC l)) (hy : Lies w b (flat fC m)) :
    Calls Tryd.prog 55 #[.slice a l.length c, .slice b m.length d] w fun e w' => e = .returned (.bool (decide (l = m))) ∧ Below w.heap.size w w' := by
  have Hz := Lib.hid hz
  have Hy := Lib.hid hy
  clear hz hy
  have HE := Lib.hid (@eql_len FT _ l m)
  have HN := Lib.hid (fun j => @eql_no FT _ l m j f0)
  have HY := Lib.hid (@eql_yes FT _ l m f0)
  generalize decide (l = m) = R at *
  unfold maxLen at hl hm
  generalize hL : l.length = n at *
  have HL := Lib.hid hL
  generalize hM : m.length = p at *
  have HM := Lib.hid hM
  clear hL hM
  by_cases hnp : n = p
  case neg =>
    have HR := Lib.hid (HE.out hnp)
    have hb : ((n : Int) != p) = true := by rw [bne_iff_ne]; omega
    clear hnp
    go_enter Tryd.func55, Tryd.ntmps55
    go_wp2
    go_ret
    exact ⟨fb_rb (by rw [HR.out]), Below.refl _ _⟩
  subst hnp
  have hs : ((n : Int) != n) = false := by simp
  go_enter Tryd.func55, Tryd.ntmps55
  go_wp2
  go_loopw [13] (fun i wr => ∃ k : Nat, k ≤ n ∧ i = .int .i64 k ∧ Hid (∀ q, q < k → l.getD q f0 = m.getD q f0) ∧ Hid (Below w.heap.size w wr)) (fun i _ => n - (intOf i).toNat)
  case atStart => exact ⟨0, Nat.zero_le _, rfl, Lib.hid (by intro q hq; omega), Lib.hid (Below.refl _ _)⟩
  case round =>
    obtain ⟨k, hk, rfl, hr, hb⟩ := hrel
    by_cases hlt : k < n
    · obtain ⟨b1, o1, rfl, hb1, hc1⟩ := Hz.out.open (by rw [flat_len fC_len, HL.out]; omega)
      obtain ⟨b2, o2, rfl, hb2, hc2⟩ := Hy.out.open (by rw [flat_len fC_len, HM.out]; omega)
      have e1 : C4 b1 (o1 + k * 4) (l.getD k f0) wr := (ft_at hc1 (by rw [HL.out]; exact hlt)).bel hb.out hb1
      have e2 : C4 b2 (o2 + k * 4) (m.getD k f0) wr := (ft_at hc2 (by rw [HM.out]; exact hlt)).bel hb.out hb2
      obtain ⟨p0, p1, p2, p3⟩ := e1
      obtain ⟨q0, q1, q2, q3⟩ := e2
      clear hc1 hc2
      have HX := Lib.hid (HN.out k)
      have HK : Hid (l.getD k f0 = m.getD k f0 → ∀ q, q < k + 1 → l.getD q f0 = m.getD q f0) := Lib.hid (fun h q hq => by
        by_cases e : q = k
        · rw [e]; exact h
        · exact hr.out q (by omega))
      generalize l.getD k f0 = x at *
      generalize m.getD k f0 = y at *
      by_cases hxy : x = y
      · have HK2 := Lib.hid (HK.out hxy)
        have hxx := (fun w => eqFt_is (decide_eq_true hxy) w)
        clear hxy HX HK
        go_wp2_with fail
        go_quiet (fail)
        go_wp2
        go_roundw
        case rel => exact ⟨k + 1, by omega, by go_num, HK2, Lib.hid (bel_dn hb.out _)⟩
        case measure => simp [intOf]; omega
      · have HR := Lib.hid (HX.out hxy)
        have hxx := (fun w => eqFt_is (decide_eq_false hxy) w)
        clear hxy HX HK
        go_wp2_with fail
        go_quiet (fail)
        go_wp2
        go_ret
        exact ⟨fb_rb (by rw [HR.out]), bel_dn hb.out _⟩
    · obtain rfl : k = n := by omega
      have HR := Lib.hid (HY.out (by first | rfl | trivial) hr.out)
      go_wp2
      go_ret
      exact ⟨fb_rb (by rw [HR.out]), hb.out⟩
set_option maxRecDepth 100000 in
set_option maxHeartbeats 1000000 in
theorem l00Same_any (l m : List Int) (a b : Option Addr) (c d : Nat) (hl : l.length ≤ maxLen) (hm : m.length ≤ maxLen) (w : World) (hz : Lies w a (kC l)) (hy : Lies w b (kC m)) :
    Calls Tryd.prog 127 #[.slice a l.length c, .slice b m.length d] w fun e w' => e = .returned (.bool (decide (l = m))) ∧ Below w.heap.size w w' := by
  have Hz := Lib.hid hz
  have Hy := Lib.hid hy
  clear hz hy
  have HE := Lib.hid (@eql_len Int _ l m)
  have HN := Lib.hid (fun j => @eql_no Int _ l m j 0)
  have HY := Lib.hid (@eql_yes Int _ l m 0)
  generalize decide (l = m) = R at *
  unfold maxLen at hl hm
  generalize hL : l.length = n at *
  have HL := Lib.hid hL
  generalize hM : m.length = p at *
  have HM := Lib.hid hM
  clear hL hM
  by_cases hnp : n = p
  case neg =>
    have HR := Lib.hid (HE.out hnp)
    have hb : ((n : Int) != p) = true := by rw [bne_iff_ne]; omega
    clear hnp
    go_enter Tryd.func127, Tryd.ntmps127
    go_wp2
    go_ret
    exact ⟨fb_rb (by rw [HR.out]), Below.refl _ _⟩
  subst hnp
  have hs : ((n : Int) != n) = false := by simp
  go_enter Tryd.func127, Tryd.ntmps127
  go_wp2
  go_loopw [5] (fun i wr => ∃ k : Nat, k ≤ n ∧ i = .int .i64 k ∧ Hid (∀ q, q < k → l.getD q 0 = m.getD q 0) ∧ Hid (Below w.heap.size w wr)) (fun i _ => n - (intOf i).toNat)
  case atStart => exact ⟨0, Nat.zero_le _, rfl, Lib.hid (by intro q hq; omega), Lib.hid (Below.refl _ _)⟩
  case round =>
    obtain ⟨k, hk, rfl, hr, hb⟩ := hrel
    by_cases hlt : k < n
    · obtain ⟨b1, o1, rfl, hb1, hc1⟩ := Hz.out.open (by rw [kC_len, HL.out]; omega)
      obtain ⟨b2, o2, rfl, hb2, hc2⟩ := Hy.out.open (by rw [kC_len, HM.out]; omega)
      have d0 := (hb.out.cell (p := ⟨b1, o1 + k, none⟩) hb1).trans (kind_at hc1 (i := k) (by rw [HL.out]; exact hlt))
      have d1 := (hb.out.cell (p := ⟨b2, o2 + k, none⟩) hb2).trans (kind_at hc2 (i := k) (by rw [HM.out]; exact hlt))
      clear hc1 hc2
      have HX := Lib.hid (HN.out k)
      have HK : Hid (l.getD k 0 = m.getD k 0 → ∀ q, q < k + 1 → l.getD q 0 = m.getD q 0) := Lib.hid (fun h q hq => by
        by_cases e : q = k
        · rw [e]; exact h
        · exact hr.out q (by omega))
      generalize l.getD k 0 = x at *
      generalize m.getD k 0 = y at *
      by_cases hxy : x = y
      · have HK2 := Lib.hid (HK.out hxy)
        have hxx := (show (x != y) = false by rw [bne_eq_false_iff_eq]; exact hxy)
        clear hxy HX HK
        go_wp2_with fail
        go_quiet (fail)
        go_wp2
        go_roundw
        case rel => exact ⟨k + 1, by omega, by go_num, HK2, Lib.hid (bel_dn hb.out _)⟩
        case measure => simp [intOf]; omega
      · have HR := Lib.hid (HX.out hxy)
        have hxx := (show (x != y) = true by rw [bne_iff_ne]; exact hxy)
        clear hxy HX HK
        go_wp2_with fail
        go_quiet (fail)
        go_wp2
        go_ret
        exact ⟨fb_rb (by rw [HR.out]), bel_dn hb.out _⟩
    · obtain rfl : k = n := by omega
      have HR := Lib.hid (HY.out (by first | rfl | trivial) hr.out)
      go_wp2
      go_ret
      exact ⟨fb_rb (by rw [HR.out]), hb.out⟩
set_option maxRecDepth 100000 in
set_option maxHeartbeats 1000000 in
theorem l06SameBools_any (l m : List Bool) (a b : Option Addr) (c d : Nat) (hl : l.length ≤ maxLen) (hm : m.length ≤ maxLen) (w : World) (hz : Lies w a (flat bI l)) (hy : Lies w b (flat bI m)) :
    Calls Tryd.prog 128 #[.slice a l.length c, .slice b m.length d] w fun e w' => e = .returned (.bool (decide (l = m))) ∧ Below w.heap.size w w' := by
  have Hz := Lib.hid hz
  have Hy := Lib.hid hy
  clear hz hy
  have HE := Lib.hid (@eql_len Bool _ l m)
  have HN := Lib.hid (fun j => @eql_no Bool _ l m j false)
  have HY := Lib.hid (@eql_yes Bool _ l m false)
  generalize decide (l = m) = R at *
  unfold maxLen at hl hm
  generalize hL : l.length = n at *
  have HL := Lib.hid hL
  generalize hM : m.length = p at *
  have HM := Lib.hid hM
  clear hL hM
  by_cases hnp : n = p
  case neg =>
    have HR := Lib.hid (HE.out hnp)
    have hb : ((n : Int) != p) = true := by rw [bne_iff_ne]; omega
    clear hnp
    go_enter Tryd.func128, Tryd.ntmps128
    go_wp2
    go_ret
    exact ⟨fb_rb (by rw [HR.out]), Below.refl _ _⟩
  subst hnp
  have hs : ((n : Int) != n) = false := by simp
  go_enter Tryd.func128, Tryd.ntmps128
  go_wp2
  go_loopw [5] (fun i wr => ∃ k : Nat, k ≤ n ∧ i = .int .i64 k ∧ Hid (∀ q, q < k → l.getD q false = m.getD q false) ∧ Hid (Below w.heap.size w wr)) (fun i _ => n - (intOf i).toNat)
  case atStart => exact ⟨0, Nat.zero_le _, rfl, Lib.hid (by intro q hq; omega), Lib.hid (Below.refl _ _)⟩
  case round =>
    obtain ⟨k, hk, rfl, hr, hb⟩ := hrel
    by_cases hlt : k < n
    · obtain ⟨b1, o1, rfl, hb1, hc1⟩ := Hz.out.open (by rw [bC_len, HL.out]; omega)
      obtain ⟨b2, o2, rfl, hb2, hc2⟩ := Hy.out.open (by rw [bC_len, HM.out]; omega)
      have d0 := (hb.out.cell (p := ⟨b1, o1 + k, none⟩) hb1).trans (bool_at hc1 (i := k) (by rw [HL.out]; exact hlt))
      have d1 := (hb.out.cell (p := ⟨b2, o2 + k, none⟩) hb2).trans (bool_at hc2 (i := k) (by rw [HM.out]; exact hlt))
      clear hc1 hc2
      have HX := Lib.hid (HN.out k)
      have HK : Hid (l.getD k false = m.getD k false → ∀ q, q < k + 1 → l.getD q false = m.getD q false) := Lib.hid (fun h q hq => by
        by_cases e : q = k
        · rw [e]; exact h
        · exact hr.out q (by omega))
      generalize l.getD k false = x at *
      generalize m.getD k false = y at *
      by_cases hxy : x = y
      · have HK2 := Lib.hid (HK.out hxy)
        subst hxy
        have hxx : (x != x) = false := by simp
        clear HX HK
        go_wp2_with fail
        go_quiet (fail)
        go_wp2
        go_roundw
        case rel => exact ⟨k + 1, by omega, by go_num, HK2, Lib.hid (bel_dn hb.out _)⟩
        case measure => simp [intOf]; omega
      · have HR := Lib.hid (HX.out hxy)
        have hyx : y = !x := by cases x <;> cases y <;> first | rfl | exact absurd rfl hxy
        subst hyx
        clear hxy HX HK
        cases x
        all_goals
          go_wp2_with fail
          go_quiet (fail)
          go_wp2
          go_ret
          exact ⟨fb_rb (by rw [HR.out]), bel_dn hb.out _⟩
    · obtain rfl : k = n := by omega
      have HR := Lib.hid (HY.out (by first | rfl | trivial) hr.out)
      go_wp2
      go_ret
      exact ⟨fb_rb (by rw [HR.out]), hb.out⟩
end Go.Proofs.YtgiegppakoiaiaaDoor
