/- l00Number: the number that digits are. -/
import Derived.Test.YtnokkkmokfojnaaDoorRows
import Derived.WalkKit
import Derived.ProofKit
import Derived.OpenShut
import Derived.Handy
import Derived.PlainAid
import Derived.IntWalk
import Derived.WalkSmall
import Derived.WalkSpells
import Derived.Lib.Hide
import Derived.Lib.ItoaLen
import Derived.Lib.AtoiAll
import Derived.Deep.DeepCutAuto
import Derived.Deep.CutBlock
import Derived.Outline
namespace Go.Proofs.YtnokkkmokfojnaaDoor
open Go.ChangeShapes Go.WideShapes Go.ChangeAt Go.RowKit Go.PlainAid
/-- Does a sign stand ahead? -/
def numNeg (s : ByteArray) : Bool := decide (0 < s.size ∧ bt s 0 = 45)
/-- What stands behind the sign. -/
def numD (s : ByteArray) : ByteArray := if numNeg s = true then s.extract 1 s.size else s
def numTo (d : ByteArray) : Nat → Int
  | 0 => 0
  | k + 1 => numTo d k * 10 + bt d k - 48
def digAt (d : ByteArray) (k : Nat) : Prop := 48 ≤ bt d k ∧ bt d k ≤ 57
def numBad (d : ByteArray) (neg : Bool) : Prop := d.size = 0 ∨ 18 < d.size ∨ (bt d 0 = 48 ∧ (1 < d.size ∨ neg = true))
open Classical in
noncomputable def numOf (d : ByteArray) (neg : Bool) : Int × Bool :=
  if numBad d neg ∨ ¬ ∀ k, k < d.size → digAt d k then (0, false) else ((if neg = true then -1 else 1) * numTo d d.size, true)
theorem numOf_bad {d : ByteArray} {neg : Bool} (h : numBad d neg) : numOf d neg = (0, false) := if_pos (.inl h)
theorem numOf_no {d : ByteArray} {neg : Bool} {k : Nat} (hk : k < d.size) (h : ¬ digAt d k) : numOf d neg = (0, false) := if_pos (.inr fun g => h (g k hk))
theorem numOf_yes {d : ByteArray} {neg : Bool} (h : ¬ numBad d neg) (g : ∀ k, k < d.size → digAt d k) : numOf d neg = ((if neg = true then -1 else 1) * numTo d d.size, true) := if_neg (by rintro (a | a); exact h a; exact a g)
theorem numTo_rng (d : ByteArray) : ∀ k, (∀ j, j < k → digAt d j) → 0 ≤ numTo d k ∧ numTo d k ≤ 10 ^ k - 1
  | 0, _ => ⟨Int.le_refl _, Int.le_refl _⟩
  | k + 1, h => by
    have ih := numTo_rng d k (fun j hj => h j (by omega))
    have hk := h k (by omega)
    unfold digAt at hk
    rw [numTo, Int.pow_succ]
    omega
theorem pow_18 {k : Nat} (h : k ≤ 18) : (10 : Int) ^ k ≤ 1000000000000000000 := by
  have h1 := Nat.pow_le_pow_right (n := 10) (by omega) h
  have e : (10 : Nat) ^ 18 = 1000000000000000000 := by decide
  rw [e] at h1
  have h2 : (10 : Int) ^ k = ((10 ^ k : Nat) : Int) := by rw [Int.natCast_pow]; rfl
  rw [h2]
  omega
theorem pow_17 {k : Nat} (h : k ≤ 17) : (10 : Int) ^ k ≤ 100000000000000000 := by
  have h1 := Nat.pow_le_pow_right (n := 10) (by omega) h
  have e : (10 : Nat) ^ 17 = 100000000000000000 := by decide
  rw [e] at h1
  have h2 : (10 : Int) ^ k = ((10 ^ k : Nat) : Int) := by rw [Int.natCast_pow]; rfl
  rw [h2]
  omega
theorem ret_ib {a b : Int} {c d : Bool} (h : a = b) (k : c = d) : Ending.returned (.tuple #[.int .i64 a, .bool c]) = .returned (.tuple #[.int .i64 b, .bool d]) := by rw [h, k]
set_option maxRecDepth 100000 in
set_option maxHeartbeats 2000000 in
theorem l00Number_any (s : ByteArray) (hs : s.size ≤ 1000000) (w : World) : Calls Tryd.prog 69 #[.string s] w fun e w' => e = .returned (.tuple #[.int .i64 (numOf (numD s) (numNeg s)).1, .bool (numOf (numD s) (numNeg s)).2]) ∧ w = w' := by
  have hg := get_bt s
  have HN : Hid (numNeg s = decide (0 < s.size ∧ bt s 0 = 45)) := Lib.hid rfl
  have HD1 := Lib.hid (fun h : numNeg s = true => (if_pos h : numD s = s.extract 1 s.size))
  have HD0 := Lib.hid (fun h : numNeg s = false => (if_neg (by rw [h]; simp) : numD s = s))
  by_cases hp : 0 < s.size
  · have hpi : (0 : Int) < (s.size : Int) := by omega
    by_cases hn : bt s 0 = 45
    · have hq : (bt s 0 == 45) = true := beq_iff_eq.2 hn
      have HG : Hid (numNeg s = true) := Lib.hid (decide_eq_true ⟨hp, hn⟩)
      have HE0 : Hid (numD s = s.extract 1 s.size) := Lib.hid (if_pos HG.out)
      have hds : (s.extract 1 s.size).size ≤ s.size := by rw [ByteArray.size_extract]; omega
      have hgd := get_bt (s.extract 1 s.size)
      clear hn
      go_enter Tryd.func69, Tryd.ntmps69
      go_upto_region 5 with fail
      generalize hD : s.extract 1 s.size = D at *
      have HDD := Lib.hid hD
      have HE := HE0
      clear hD hg hq hp hpi HE0
      by_cases z0 : D.size = 0
      · have H := Lib.hid (numOf_bad (d := D) (neg := true) (.inl z0))
        have q0 : ((D.size : Int) == 0) = true := beq_iff_eq.2 (by omega)
        clear z0
        go_wp2
        go_ret2
        exact ⟨ret_ib (by rw [HE.out, HG.out, H.out]) (by rw [HE.out, HG.out, H.out]), rfl⟩
      have q0 : ((D.size : Int) == 0) = false := beq_eq_false_iff_ne.2 (by omega)
      have z1 : 0 < D.size := by omega
      by_cases z2 : 18 < D.size
      · have H := Lib.hid (numOf_bad (d := D) (neg := true) (.inr (.inl z2)))
        clear z0
        go_wp2
        go_ret2
        exact ⟨ret_ib (by rw [HE.out, HG.out, H.out]) (by rw [HE.out, HG.out, H.out]), rfl⟩
      by_cases z3 : bt D 0 = 48 ∧ (1 < D.size ∨ true = true)
      · have H := Lib.hid (numOf_bad (d := D) (neg := true) (.inr (.inr z3)))
        have q3 : (bt D 0 == 48) = true := beq_iff_eq.2 z3.1
        clear z3 z0
        by_cases z5 : 1 < D.size
        · go_wp2
          go_ret2
          exact ⟨ret_ib (by rw [HE.out, HG.out, H.out]) (by rw [HE.out, HG.out, H.out]), rfl⟩
        · go_wp2
          go_ret2
          exact ⟨ret_ib (by rw [HE.out, HG.out, H.out]) (by rw [HE.out, HG.out, H.out]), rfl⟩
      have HB := Lib.hid (show ¬ numBad D true from by rintro (h | h | h); exact z0 h; exact z2 h; exact z3 h)
      have hgo : bt D 0 ≠ 48 ∨ (bt D 0 = 48 ∧ ¬ 1 < D.size ∧ true = false) := by
        by_cases a : bt D 0 = 48
        · refine .inr ⟨a, fun b => z3 ⟨a, .inl b⟩, ?_⟩
          first | rfl | exact absurd ⟨a, .inr rfl⟩ z3
        · exact .inl a
      clear z3 z0
      rcases hgo with hgo | ⟨hgo, hgo2, hgo3⟩
      · have q3 : (bt D 0 == 48) = false := beq_eq_false_iff_ne.2 hgo
        clear hgo
        go_wp2
        go_loop [5, 6] (fun v i => ∃ k : Nat, k ≤ D.size ∧ i = .int .i64 k ∧ v = .int .i64 (numTo D k) ∧ Hid (∀ j, j < k → digAt D j)) (fun _ i => D.size - (intOf i).toNat)
        case atStart => exact ⟨0, Nat.zero_le _, rfl, rfl, Lib.hid (by intro j hj; omega)⟩
        case round =>
          obtain ⟨k, hk, rfl, rfl, hr⟩ := hrel
          obtain ⟨r0, r1⟩ := numTo_rng D k hr.out
          by_cases hlt : k < D.size
          · have r2 := pow_17 (k := k) (by omega)
            have r3 : numTo D k ≤ 99999999999999999 := by omega
            have hki : (k : Int) < D.size := by omega
            have b0 := bt_nonneg D k
            have b1 := bt_le D k
            clear r1 r2
            by_cases hd : digAt D k
            · have hx : Hid (∀ j, j < k + 1 → digAt D j) := Lib.hid (fun j hj => by
                by_cases e : j = k
                · rw [e]; exact hd
                · exact hr.out j (by omega))
              have d0 : 48 ≤ bt D k := hd.1
              have d1 : bt D k ≤ 57 := hd.2
              have HT : Hid (numTo D (k + 1) = numTo D k * 10 + bt D k - 48) := Lib.hid rfl
              clear hd
              go_wp2
              go_round
              case rel => exact ⟨k + 1, by omega, by go_num, by rw [HT.out], hx⟩
              case measure => simp [intOf]; omega
            · have H := Lib.hid (numOf_no (d := D) (neg := true) hlt hd)
              have hd2 : bt D k < 48 ∨ 57 < bt D k := by unfold digAt at hd; omega
              clear hd
              rcases hd2 with hd2 | hd2
              · go_wp2
                go_ret2
                exact ⟨ret_ib (by rw [HE.out, HG.out, H.out]) (by rw [HE.out, HG.out, H.out]), rfl⟩
              · have hd3 : 48 ≤ bt D k := by omega
                go_wp2
                go_ret2
                exact ⟨ret_ib (by rw [HE.out, HG.out, H.out]) (by rw [HE.out, HG.out, H.out]), rfl⟩
          · obtain rfl : k = D.size := by omega
            have r2 := pow_18 (k := D.size) (by omega)
            have r3 : numTo D D.size ≤ 999999999999999999 := by omega
            have H := Lib.hid (numOf_yes HB.out hr.out)
            clear r1 r2
            go_wp2
            go_ret2
            exact ⟨ret_ib (by rw [HE.out, HG.out, H.out]; simp) (by rw [HE.out, HG.out, H.out]), rfl⟩
      · cases hgo3
    · have hq : (bt s 0 == 45) = false := beq_eq_false_iff_ne.2 hn
      have HG : Hid (numNeg s = false) := Lib.hid (decide_eq_false (fun h => hn h.2))
      have HE : Hid (numD s = s) := Lib.hid (if_neg (by rw [HG.out]; simp))
      clear hn
      go_enter Tryd.func69, Tryd.ntmps69
      go_upto_region 5 with fail
      clear hq
      by_cases z0 : s.size = 0
      · have H := Lib.hid (numOf_bad (d := s) (neg := false) (.inl z0))
        have q0 : ((s.size : Int) == 0) = true := beq_iff_eq.2 (by omega)
        clear z0
        go_wp2
        go_ret2
        exact ⟨ret_ib (by rw [HE.out, HG.out, H.out]) (by rw [HE.out, HG.out, H.out]), rfl⟩
      have q0 : ((s.size : Int) == 0) = false := beq_eq_false_iff_ne.2 (by omega)
      have z1 : 0 < s.size := by omega
      by_cases z2 : 18 < s.size
      · have H := Lib.hid (numOf_bad (d := s) (neg := false) (.inr (.inl z2)))
        clear z0
        go_wp2
        go_ret2
        exact ⟨ret_ib (by rw [HE.out, HG.out, H.out]) (by rw [HE.out, HG.out, H.out]), rfl⟩
      by_cases z3 : bt s 0 = 48 ∧ (1 < s.size ∨ false = true)
      · have H := Lib.hid (numOf_bad (d := s) (neg := false) (.inr (.inr z3)))
        have q3 : (bt s 0 == 48) = true := beq_iff_eq.2 z3.1
        have z4 : 1 < s.size ∨ false = true := z3.2
        clear z3 z0
        by_cases z5 : 1 < s.size
        · clear z4
          go_wp2
          go_ret2
          exact ⟨ret_ib (by rw [HE.out, HG.out, H.out]) (by rw [HE.out, HG.out, H.out]), rfl⟩
        · exact absurd (show 1 < s.size from by rcases ‹1 < s.size ∨ false = true› with h | h; exact h; cases h) z5
      have HB := Lib.hid (show ¬ numBad s false from by rintro (h | h | h); exact z0 h; exact z2 h; exact z3 h)
      have hgo : bt s 0 ≠ 48 ∨ (bt s 0 = 48 ∧ ¬ 1 < s.size ∧ false = false) := by
        by_cases a : bt s 0 = 48
        · refine .inr ⟨a, fun b => z3 ⟨a, .inl b⟩, ?_⟩
          first | rfl | exact absurd ⟨a, .inr rfl⟩ z3
        · exact .inl a
      clear z3 z0
      rcases hgo with hgo | ⟨hgo, hgo2, hgo3⟩
      · have q3 : (bt s 0 == 48) = false := beq_eq_false_iff_ne.2 hgo
        clear hgo
        go_wp2
        go_loop [5, 6] (fun v i => ∃ k : Nat, k ≤ s.size ∧ i = .int .i64 k ∧ v = .int .i64 (numTo s k) ∧ Hid (∀ j, j < k → digAt s j)) (fun _ i => s.size - (intOf i).toNat)
        case atStart => exact ⟨0, Nat.zero_le _, rfl, rfl, Lib.hid (by intro j hj; omega)⟩
        case round =>
          obtain ⟨k, hk, rfl, rfl, hr⟩ := hrel
          obtain ⟨r0, r1⟩ := numTo_rng s k hr.out
          by_cases hlt : k < s.size
          · have r2 := pow_17 (k := k) (by omega)
            have r3 : numTo s k ≤ 99999999999999999 := by omega
            have hki : (k : Int) < s.size := by omega
            have b0 := bt_nonneg s k
            have b1 := bt_le s k
            clear r1 r2
            by_cases hd : digAt s k
            · have hx : Hid (∀ j, j < k + 1 → digAt s j) := Lib.hid (fun j hj => by
                by_cases e : j = k
                · rw [e]; exact hd
                · exact hr.out j (by omega))
              have d0 : 48 ≤ bt s k := hd.1
              have d1 : bt s k ≤ 57 := hd.2
              have HT : Hid (numTo s (k + 1) = numTo s k * 10 + bt s k - 48) := Lib.hid rfl
              clear hd
              go_wp2
              go_round
              case rel => exact ⟨k + 1, by omega, by go_num, by rw [HT.out], hx⟩
              case measure => simp [intOf]; omega
            · have H := Lib.hid (numOf_no (d := s) (neg := false) hlt hd)
              have hd2 : bt s k < 48 ∨ 57 < bt s k := by unfold digAt at hd; omega
              clear hd
              rcases hd2 with hd2 | hd2
              · go_wp2
                go_ret2
                exact ⟨ret_ib (by rw [HE.out, HG.out, H.out]) (by rw [HE.out, HG.out, H.out]), rfl⟩
              · have hd3 : 48 ≤ bt s k := by omega
                go_wp2
                go_ret2
                exact ⟨ret_ib (by rw [HE.out, HG.out, H.out]) (by rw [HE.out, HG.out, H.out]), rfl⟩
          · obtain rfl : k = s.size := by omega
            have r2 := pow_18 (k := s.size) (by omega)
            have r3 : numTo s s.size ≤ 999999999999999999 := by omega
            have H := Lib.hid (numOf_yes HB.out hr.out)
            clear r1 r2
            go_wp2
            go_ret2
            exact ⟨ret_ib (by rw [HE.out, HG.out, H.out]; simp) (by rw [HE.out, HG.out, H.out]), rfl⟩
      · have q3 : (bt s 0 == 48) = true := beq_iff_eq.2 hgo
        clear hgo hgo3
        go_wp2
        go_loop [5, 6] (fun v i => ∃ k : Nat, k ≤ s.size ∧ i = .int .i64 k ∧ v = .int .i64 (numTo s k) ∧ Hid (∀ j, j < k → digAt s j)) (fun _ i => s.size - (intOf i).toNat)
        case atStart => exact ⟨0, Nat.zero_le _, rfl, rfl, Lib.hid (by intro j hj; omega)⟩
        case round =>
          obtain ⟨k, hk, rfl, rfl, hr⟩ := hrel
          obtain ⟨r0, r1⟩ := numTo_rng s k hr.out
          by_cases hlt : k < s.size
          · have r2 := pow_17 (k := k) (by omega)
            have r3 : numTo s k ≤ 99999999999999999 := by omega
            have hki : (k : Int) < s.size := by omega
            have b0 := bt_nonneg s k
            have b1 := bt_le s k
            clear r1 r2
            by_cases hd : digAt s k
            · have hx : Hid (∀ j, j < k + 1 → digAt s j) := Lib.hid (fun j hj => by
                by_cases e : j = k
                · rw [e]; exact hd
                · exact hr.out j (by omega))
              have d0 : 48 ≤ bt s k := hd.1
              have d1 : bt s k ≤ 57 := hd.2
              have HT : Hid (numTo s (k + 1) = numTo s k * 10 + bt s k - 48) := Lib.hid rfl
              clear hd
              go_wp2
              go_round
              case rel => exact ⟨k + 1, by omega, by go_num, by rw [HT.out], hx⟩
              case measure => simp [intOf]; omega
            · have H := Lib.hid (numOf_no (d := s) (neg := false) hlt hd)
              have hd2 : bt s k < 48 ∨ 57 < bt s k := by unfold digAt at hd; omega
              clear hd
              rcases hd2 with hd2 | hd2
              · go_wp2
                go_ret2
                exact ⟨ret_ib (by rw [HE.out, HG.out, H.out]) (by rw [HE.out, HG.out, H.out]), rfl⟩
              · have hd3 : 48 ≤ bt s k := by omega
                go_wp2
                go_ret2
                exact ⟨ret_ib (by rw [HE.out, HG.out, H.out]) (by rw [HE.out, HG.out, H.out]), rfl⟩
          · obtain rfl : k = s.size := by omega
            have r2 := pow_18 (k := s.size) (by omega)
            have r3 : numTo s s.size ≤ 999999999999999999 := by omega
            have H := Lib.hid (numOf_yes HB.out hr.out)
            clear r1 r2
            go_wp2
            go_ret2
            exact ⟨ret_ib (by rw [HE.out, HG.out, H.out]; simp) (by rw [HE.out, HG.out, H.out]), rfl⟩
  · have HG : Hid (numNeg s = false) := Lib.hid (decide_eq_false (fun h => hp h.1))
    have HE : Hid (numD s = s) := Lib.hid (if_neg (by rw [HG.out]; simp))
    have H := Lib.hid (numOf_bad (d := s) (neg := false) (.inl (by omega)))
    have q0 : ((s.size : Int) == 0) = true := beq_iff_eq.2 (by omega)
    go_enter Tryd.func69, Tryd.ntmps69
    go_wp2
    go_ret2
    exact ⟨ret_ib (by rw [HE.out, HG.out, H.out]) (by rw [HE.out, HG.out, H.out]), rfl⟩
end Go.Proofs.YtnokkkmokfojnaaDoor
