/- A step of impl's verifier is a step of the plain verifier: structures; the whole step. -/
import Derived.Test.YtbbhoaljldgjeaaDoorWalk10
namespace Go.Proofs.YtbbhoaljldgjeaaDoor
open Go.ChangeShapes Go.WideShapes Go.ChangeAt Go.RowKit
set_option linter.unusedVariables false
theorem pfx_eq {s t : List UInt8} (h : s <+: t) : (t ≠ s) ↔ (t.length : Int) ≠ (s.length : Int) := by
  constructor
  · intro hne e
    exact hne (h.eq_of_length (by omega)).symm
  · intro hne e
    subst e
    exact hne rfl
theorem last_snoc (os : List VO) (o : VO) : (os ++ [o]).getLast? = some o := by simp
theorem drop_snoc (os : List VO) (o : VO) : (os ++ [o]).dropLast = os := by simp
def NestOut (x : Ins) (i : Int) (v : VW) : VW × Int := if 21 ≤ x.1 ∧ x.1 ≤ 24 then vNest x i v else (v, 0)
theorem nest_any {B p : Nat} {K : Value} {r i : Int} {v : VW} {w : World} (h : WStat B p K r i v w) (hp : v.pre) (x y : Int) :
    Calls Tryd.prog 95 #[.pointer (some ⟨p, 0, none⟩), .int .i64 x] w fun e w' => Below B w w' ∧
      (((NestOut (x, y) i v).2 = 0 ∧ e = .returned (.tuple #[]) ∧ WStat B p K r i (NestOut (x, y) i v).1 w' ∧ Keeps w w') ∨ ((NestOut (x, y) i v).2 ≠ 0 ∧ e = Off i (NestOut (x, y) i v).2)) := by
  obtain ⟨a, n, c, a', n', c', h⟩ := h
  have hn := h.slen
  have ho := h.olen
  have h8 := hp.s8
  have h4 := hp.o4
  obtain ⟨c0, c1, c2, c3, c4⟩ := h.cells
  obtain ⟨st, opn⟩ := v
  simp only [List.length_map] at ho h4 hn h8
  by_cases h0 : 21 ≤ x ∧ x ≤ 24
  · have e0 : NestOut (x, y) i ⟨st, opn⟩ = vNest (x, y) i ⟨st, opn⟩ := if_pos h0
    rw [e0]
    by_cases h1 : x = 21 ∨ x = 24
    · by_cases h5 : opn.length = 4
      · have e : vNest (x, y) i ⟨st, opn⟩ = (⟨st, opn⟩, 17) := by unfold vNest; rw [if_pos h1, if_pos h5]
        rw [e]
        have hn4 : n' = 4 := by omega
        subst hn4
        exact (nest_deep p c' a' x i h1 w c2 c4).mono fun e w' ⟨he, hw⟩ => ⟨hw ▸ Below.refl B _, .inr ⟨by simp, he⟩⟩
      · have e : vNest (x, y) i ⟨st, opn⟩ = (⟨st, opn ++ [⟨i, x, st⟩]⟩, 0) := by unfold vNest; rw [if_pos h1, if_neg h5]
        rw [e]
        refine (nest_open B p n c n' c' a a' (flat soC (opn.map so)) i x h1 (by omega) (by omega) w h.low h.plt c2 c3 c4 (h.frozen 4) h.opens (fun e => h.neo e.symm)).mono fun e w' ⟨he, hw⟩ => ?_
        have hz : [Value.int .i64 i, .int .i64 n, .bool (x == 21)] = soC (so ⟨i, x, st⟩) := by simp [so, soC, hn]
        rw [hz] at hw
        obtain ⟨⟨a2, c2', h2⟩, hb⟩ := h.opened hw
        exact ⟨hb.1, .inl ⟨rfl, he, ⟨a, n, c, a2, n' + 1, c2', by simpa using h2⟩, hb.2⟩⟩
    · have h1' : x = 22 ∨ x = 23 := by omega
      rcases opn_cases opn with rfl | ⟨os, o, rfl⟩
      · have e : vNest (x, y) i ⟨st, []⟩ = (⟨st, []⟩, 14) := by unfold vNest; rw [if_neg h1]; rfl
        rw [e]
        simp at ho
        subst ho
        exact (nest_none p c' a' x i h1' w c2 c4).mono fun e w' ⟨he, hw⟩ => ⟨hw ▸ Below.refl B _, .inr ⟨by simp, he⟩⟩
      · have h' := h
        rw [List.map_append, List.map_singleton] at h'
        obtain ⟨g, m, rfl, rfl, hm, hc⟩ := h'.opened_row
        obtain ⟨k0, k1, k2, kf⟩ := h'.last
        have hm4 : m + 1 ≤ 100 := by omega
        have hpf : o.stk <+: st := hp.pfx o (by simp)
        have hpe := pfx_eq hpf
        rw [hn] at hpe
        by_cases h22 : x = 22
        · subst h22
          by_cases ht : o.op = 21
          · have kt : w.cell? ⟨g, m * 3 + 2, none⟩ = some (.bool true) := by rw [k2]; simp [so, ht]
            by_cases hl : st = o.stk
            · have e : vNest (22, y) i ⟨st, os ++ [o]⟩ = (⟨st, os ++ [⟨o.pos, 22, o.stk⟩]⟩, 0) := by
                unfold vNest; rw [if_neg h1]; simp only [last_snoc, drop_snoc]; rw [if_neg (by simp [ht]), if_neg (by simpa using hl)]; rfl
              rw [e]
              have hk1 : w.cell? ⟨g, m * 3 + 1, none⟩ = some (.int .i64 n) := by rw [k1]; simp [so, ← hn, hl]
              refine (else_ok p g m c' n c a hm4 w (fun q => c3) c4 kt (kf _) (fun q => hk1)).mono fun e w' ⟨he, q, hw⟩ => ?_
              subst hw
              have hz : so o = (o.pos, (o.stk.length : Int), true) := by simp [so, ht]
              rw [hz] at h'
              obtain ⟨h2, hb⟩ := h'.elsed q
              exact ⟨hb.1, .inl ⟨rfl, he, ⟨a, n, c, _, _, c', by simpa [so] using h2⟩, hb.2⟩⟩
            · have e : vNest (22, y) i ⟨st, os ++ [o]⟩ = (⟨st, os ++ [o]⟩, 13) := by
                unfold vNest; rw [if_neg h1]; simp only [last_snoc, drop_snoc]; rw [if_neg (by simp [ht]), if_pos (by simpa using hl)]
              rw [e]
              exact (else_level p g m c' n c a i o.stk.length hm4 (hpe.1 hl) w (fun q => c2) (fun q => c3) c4 kt (fun q => k1)).mono fun e w' ⟨he, q, hw⟩ => ⟨hw ▸ bel_dn (Below.refl B w) q, .inr ⟨by simp, he⟩⟩
          · have e : vNest (22, y) i ⟨st, os ++ [o]⟩ = (⟨st, os ++ [o]⟩, 14) := by
              unfold vNest; rw [if_neg h1]; simp only [last_snoc, drop_snoc]; rw [if_pos ⟨trivial, ht⟩]
            rw [e]
            have kt : w.cell? ⟨g, m * 3 + 2, none⟩ = some (.bool false) := by rw [k2]; simp [so, ht]
            exact (else_not p g m c' i hm4 w (fun q => c2) c4 kt).mono fun e w' ⟨he, q, hw⟩ => ⟨hw ▸ bel_dn (Below.refl B w) q, .inr ⟨by simp, he⟩⟩
        · have h23 : x = 23 := by omega
          subst h23
          by_cases hl : st = o.stk
          · have e : vNest (23, y) i ⟨st, os ++ [o]⟩ = (⟨st, os⟩, 0) := by
              unfold vNest; rw [if_neg h1]; simp only [last_snoc, drop_snoc]; rw [if_neg (by simp), if_neg (by simpa using hl)]; rfl
            rw [e]
            have hk1 : w.cell? ⟨g, m * 3 + 1, none⟩ = some (.int .i64 n) := by rw [k1]; simp [so, ← hn, hl]
            refine (end_ok p g m c' n c a hm4 hc w (fun q => c3) c4 (h.frozen 4) (fun q => hk1)).mono fun e w' ⟨he, q, hw⟩ => ?_
            subst hw
            obtain ⟨h2, hb⟩ := h'.closed q
            exact ⟨hb.1, .inl ⟨rfl, he, ⟨a, n, c, _, _, c', h2⟩, hb.2⟩⟩
          · have e : vNest (23, y) i ⟨st, os ++ [o]⟩ = (⟨st, os ++ [o]⟩, 13) := by
              unfold vNest; rw [if_neg h1]; simp only [last_snoc, drop_snoc]; rw [if_neg (by simp), if_pos (by simpa using hl)]
            rw [e]
            exact (end_level p g m c' n c a i o.stk.length hm4 (hpe.1 hl) w (fun q => c2) (fun q => c3) c4 (fun q => k1)).mono fun e w' ⟨he, q, hw⟩ => ⟨hw ▸ bel_dn (Below.refl B w) q, .inr ⟨by simp, he⟩⟩
  · have e0 : NestOut (x, y) i ⟨st, opn⟩ = (⟨st, opn⟩, 0) := if_neg h0
    rw [e0]
    exact (nest_plain p x w (beq_eq_false_iff_ne.2 (by omega)) (beq_eq_false_iff_ne.2 (by omega)) (beq_eq_false_iff_ne.2 (by omega)) (beq_eq_false_iff_ne.2 (by omega))).mono fun e w' ⟨he, hw⟩ => ⟨hw ▸ Below.refl B _, .inl ⟨rfl, he, ⟨a, n, c, a', n', c', hw ▸ h⟩, hw ▸ Keeps.refl _⟩⟩
end Go.Proofs.YtbbhoaljldgjeaaDoor
