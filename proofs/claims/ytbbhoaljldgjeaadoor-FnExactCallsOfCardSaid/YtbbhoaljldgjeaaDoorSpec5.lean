/- A step of spec's verifier is a step of the plain verifier. -/
import Derived.Test.YtbbhoaljldgjeaaDoorSpec4
namespace Go.Proofs.YtbbhoaljldgjeaaDoor
open Go.ChangeShapes Go.WideShapes Go.ChangeAt Go.RowKit
set_option linter.unusedVariables false
theorem SStat.bel {B p : Nat} {v : VW} {w w' : World} (h : SStat B p v w) (hb : Below w.heap.size w w') : SStat B p v w' := by
  obtain ⟨a, n, c, h⟩ := h
  exact ⟨a, n, c, h.bel hb⟩
theorem SStat.dn {B p : Nat} {v : VW} {w : World} (h : SStat B p v w) (q : Nat) : SStat B p v (w.drewN q) := by
  obtain ⟨a, n, c, h⟩ := h
  exact ⟨a, n, c, h.dn q⟩
theorem SStat.low {B p : Nat} {v : VW} {w : World} (h : SStat B p v w) : B ≤ w.heap.size := by
  obtain ⟨a, n, c, h⟩ := h
  exact h.low
def SEnd (B p : Nat) (R : VW × Int) (w : World) (e : Ending) (w' : World) : Prop := Below B w w' ∧ e = .returned (.int .i64 R.2) ∧ (R.2 = 0 → SStat B p R.1 w')
theorem snest_any {B p : Nat} {v : VW} {w : World} (h : SStat B p v w) (hp : v.pre) (x y i : Int) (hx : 21 ≤ x ∧ x ≤ 24) : SNest x y p i w (SEnd B p (vNest (x, y) i v) w) := by
  obtain ⟨a, n, c, h⟩ := h
  have hn := h.olen
  have h8 := hp.s8
  have h4 := hp.o4
  obtain ⟨c0, c1⟩ := h.cells
  obtain ⟨st, opn⟩ := v
  simp only at hn h4
  have hlow := h.low
  by_cases h1 : x = 21 ∨ x = 24
  · by_cases h5 : opn.length = 4
    · have e : vNest (x, y) i ⟨st, opn⟩ = (⟨st, opn⟩, 17) := by unfold vNest; rw [if_pos h1, if_pos h5]
      rw [e]
      have hn4 : n = 4 := by omega
      subst hn4
      exact Calls.mono (snest_deep p c a x y i h1 w c1) fun e w' ⟨he, hw⟩ => ⟨hw.mono hlow, he, fun q => absurd q (by simp)⟩
    · have e : vNest (x, y) i ⟨st, opn⟩ = (⟨st, opn ++ [⟨i, x, st⟩]⟩, 0) := by unfold vNest; rw [if_pos h1, if_neg h5]
      rw [e]
      refine Calls.mono (snest_open B p n c a (flat spC opn) x y i (bs st) h1 (by omega) w hlow h.plt c0 c1 (h.frozen 1) h.opens (fun e => h.neo e.symm)) fun e w' ⟨he, hw⟩ => ?_
      obtain ⟨h2, hb⟩ := h.opened (z := ⟨i, x, st⟩) hw
      exact ⟨hb, he, fun _ => h2⟩
  · have h1' : x = 22 ∨ x = 23 := by omega
    rcases opn_cases opn with rfl | ⟨os, o, rfl⟩
    · have e : vNest (x, y) i ⟨st, []⟩ = (⟨st, []⟩, 14) := by unfold vNest; rw [if_neg h1]; rfl
      rw [e]
      simp at hn
      subst hn
      exact Calls.mono (snest_none p c a x y i h1' w c1) fun e w' ⟨he, hw⟩ => ⟨hw.mono hlow, he, fun q => absurd q (by simp)⟩
    · obtain ⟨g, m, rfl, rfl, hm, hc⟩ := h.row
      obtain ⟨k0, k1, k2, kf⟩ := h.last
      simp only [List.length_append, List.length_singleton] at hn h4
      have hm4 : m + 1 ≤ 100 := by omega
      by_cases hl : st = o.stk
      · have hq : ((bs st).toList == (bs o.stk).toList) = true := beq_yes (bs_list _) (bs_list _) hl
        by_cases h22 : x = 22
        · subst h22
          by_cases ht : o.op = 21
          · have e : vNest (22, y) i ⟨st, os ++ [o]⟩ = (⟨st, os ++ [⟨o.pos, 22, o.stk⟩]⟩, 0) := by
              unfold vNest; rw [if_neg h1]; simp only [last_snoc, drop_snoc]; rw [if_neg (by simp [ht]), if_neg (by simpa using hl)]; rfl
            rw [e]
            rw [ht] at k1
            refine Calls.mono (snest_else p g m c y i (bs st) (bs o.stk) hm4 hq w c0 c1 k1 (kf _) k2) fun e w' ⟨he, O, q, hw⟩ => ?_
            subst hw
            have hb1 := (Below.refl w.heap.size w).alloc (Nat.le_refl _) O
            obtain ⟨h2, hb⟩ := (h.bel hb1).elsed q 22
            exact ⟨(hb1.mono hlow).trans hb, he, fun _ => ⟨_, _, _, h2⟩⟩
          · have e : vNest (22, y) i ⟨st, os ++ [o]⟩ = (⟨st, os ++ [o]⟩, 14) := by
              unfold vNest; rw [if_neg h1]; simp only [last_snoc, drop_snoc]; rw [if_pos ⟨trivial, ht⟩]
            rw [e]
            exact Calls.mono (snest_else_not p g m c y i o.op hm4 ht w c1 k1) fun e w' ⟨he, hw⟩ => ⟨hw.mono hlow, he, fun q => absurd q (by simp)⟩
        · have h23 : x = 23 := by omega
          subst h23
          have e : vNest (23, y) i ⟨st, os ++ [o]⟩ = (⟨st, os⟩, 0) := by
            unfold vNest; rw [if_neg h1]; simp only [last_snoc, drop_snoc]; rw [if_neg (by simp), if_neg (by simpa using hl)]; rfl
          rw [e]
          refine Calls.mono (snest_end p g m c y i o.op (bs st) (bs o.stk) hm4 hc hq w c0 c1 (h.frozen 1) k1 k2) fun e w' ⟨he, O, q, hw⟩ => ?_
          subst hw
          have hb1 := (Below.refl w.heap.size w).alloc (Nat.le_refl _) O
          obtain ⟨h2, hb⟩ := (h.bel hb1).closed q
          exact ⟨(hb1.mono hlow).trans hb, he, fun _ => ⟨_, _, _, h2⟩⟩
      · have hq : ((bs st).toList == (bs o.stk).toList) = false := beq_no (bs_list _) (bs_list _) hl
        by_cases h22 : x = 22 ∧ o.op ≠ 21
        · obtain ⟨rfl, ht⟩ := h22
          have e : vNest (22, y) i ⟨st, os ++ [o]⟩ = (⟨st, os ++ [o]⟩, 14) := by
            unfold vNest; rw [if_neg h1]; simp only [last_snoc, drop_snoc]; rw [if_pos ⟨trivial, ht⟩]
          rw [e]
          exact Calls.mono (snest_else_not p g m c y i o.op hm4 ht w c1 k1) fun e w' ⟨he, hw⟩ => ⟨hw.mono hlow, he, fun q => absurd q (by simp)⟩
        · have e : vNest (x, y) i ⟨st, os ++ [o]⟩ = (⟨st, os ++ [o]⟩, 13) := by
            unfold vNest; rw [if_neg h1]; simp only [last_snoc, drop_snoc]; rw [if_neg (by simpa using h22), if_pos (by simpa using hl)]
          rw [e]
          exact Calls.mono (snest_level p g m c x y i o.op (bs st) (bs o.stk) (by omega) hm4 hq w c0 c1 k1 k2) fun e w' ⟨he, hw⟩ => ⟨hw.mono hlow, he, fun q => absurd q (by simp)⟩
theorem l04Sign_any {k : Option Addr} {kc : Nat} {ks : List Int} {r x y : Int} (hx : okB x y = true) (hf : vFind ks r (x, y) = 0) (hkv : ∀ z ∈ ks, kindB z = true) (w : World) (hk : Lies w k (kC ks)) :
    Calls Tryd.prog 71 #[.agg #[.int .i64 x, .int .i64 y], .slice k ks.length kc] w fun e w' => Below w.heap.size w w' ∧ ∃ T G : ByteArray, e = .returned (.tuple #[.string T, .string G]) ∧ T.data.toList = (vSign ks (x, y)).1 ∧ G.data.toList = (vSign ks (x, y)).2 := by
  obtain ⟨q, rfl, q1, q2, q3, q4⟩ := okB_nat hx
  by_cases h19 : q = 19
  · subst h19
    have hy0 : 0 ≤ y := by have : opLo 19 = 0 := rfl; omega
    obtain ⟨m, rfl⟩ : ∃ m : Nat, y = m := ⟨y.toNat, by omega⟩
    have hm : m < ks.length := by
      unfold vFind at hf
      by_cases hh : (ks.length : Int) ≤ (m : Int)
      · rw [if_pos ⟨.inl rfl, hh⟩] at hf
        exact absurd hf (by decide)
      · omega
    obtain ⟨b, o, rfl, hbl, hcs⟩ := hk.open (by rw [kC_len]; omega)
    have hc := kind_at hcs hm
    refine (l04Sign_block b o ks.length kc m (ks.getD m 0) hm (hkv _ (by simp [List.getD, hm])) w hbl hc).mono fun e w' ⟨he, hb⟩ => ⟨hb, _, _, he, ?_, rfl⟩
    rw [takesF_list _ (hkv _ (by simp [List.getD, hm]))]
    show tkL (ks.getD m 0) = _
    simp [vSign]
  · obtain ⟨e1, e2⟩ := effT_sign q (by omega) q1 h19 ks y
    exact (l04Sign_plain q y q1 q2 h19 k ks.length kc w).mono fun e w' ⟨he, hb⟩ => ⟨hb, _, _, he, e1, e2⟩
end Go.Proofs.YtbbhoaljldgjeaaDoor
