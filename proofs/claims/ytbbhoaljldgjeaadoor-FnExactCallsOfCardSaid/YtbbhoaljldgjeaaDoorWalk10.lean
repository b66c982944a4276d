/- A step of impl's verifier is a step of the plain verifier. -/
import Derived.Test.YtbbhoaljldgjeaaDoorWalk9
namespace Go.Proofs.YtbbhoaljldgjeaaDoor
open Go.ChangeShapes Go.WideShapes Go.ChangeAt Go.RowKit
set_option linter.unusedVariables false
theorem push_any {B p : Nat} {K : Value} {r i : Int} {v : VW} {w : World} (h : WStat B p K r i v w) (hp : v.pre) (t : ByteArray) (ht : t.size ≤ 3) :
    Calls Tryd.prog 94 #[.pointer (some ⟨p, 0, none⟩), .string t] w fun e w' => Below B w w' ∧
      ((v.stk.length + t.data.toList.length ≤ 8 ∧ e = .returned (.tuple #[]) ∧ WStat B p K r i ⟨v.stk ++ t.data.toList, v.opn⟩ w' ∧ Keeps w w') ∨ (8 < v.stk.length + t.data.toList.length ∧ e = Off i 7)) := by
  obtain ⟨a, n, c, a', n', c', h⟩ := h
  have hn := h.slen
  have h8 := hp.s8
  obtain ⟨c0, c1, c2, c3, c4⟩ := h.cells
  have hts : t.data.toList.length = t.size := rfl
  rw [hts]
  by_cases h1 : n + t.size ≤ 8
  · refine (push_ok B p n c a (u8s v.stk) t h1 w h.low h.plt c3 (h.frozen 3) h.stack (fun e => h.nes e.symm)).mono fun e w' ⟨he, hw⟩ => ?_
    obtain ⟨⟨a2, c2', h2⟩, hb⟩ := h.pushed hw
    exact ⟨hb.1, .inl ⟨by omega, he, ⟨a2, n + t.size, c2', a', n', c', h2⟩, hb.2⟩⟩
  · exact (push_no B p n c a (u8s v.stk) t i (by omega) (by omega) (by omega) w h.low h.plt c3 (h.frozen 3) h.stack (fun e => h.nes e.symm) h.base c2).mono fun e w' ⟨he, hw⟩ => ⟨hw, .inr ⟨by omega, he⟩⟩
def vFind (ks : List Int) (r : Int) (x : Ins) : Int := if (x.1 = 19 ∨ x.1 = 20) ∧ (ks.length : Int) ≤ x.2 then 5 else if x.1 = 26 ∧ r ≤ x.2 then 15 else 0
theorem find_any {B p : Nat} {k : Option Addr} {kc : Nat} {ks : List Int} {r i : Int} {v : VW} {w : World} (h : WStat B p (.slice k ks.length kc) r i v w) (x y : Int) :
    Calls Tryd.prog 91 #[.pointer (some ⟨p, 0, none⟩), .agg #[.int .i64 x, .int .i64 y]] w fun e w' => Below w.heap.size w w' ∧
      ((vFind ks r (x, y) = 0 ∧ e = .returned (.tuple #[])) ∨ (vFind ks r (x, y) ≠ 0 ∧ e = Off i (vFind ks r (x, y)))) := by
  obtain ⟨a, n, c, a', n', c', h⟩ := h
  obtain ⟨c0, c1, c2, c3, c4⟩ := h.cells
  by_cases h1 : x = 19 ∨ x = 20
  · by_cases h2 : (ks.length : Int) ≤ y
    · have e : vFind ks r (x, y) = 5 := if_pos ⟨h1, h2⟩
      rw [e]
      exact (find_block_no p ks.length kc k x y i h1 h2 w h.plt c0 c2).mono fun e w' ⟨he, hb⟩ => ⟨hb, .inr ⟨by decide, he⟩⟩
    · have e : vFind ks r (x, y) = 0 := by unfold vFind; rw [if_neg (fun q => h2 q.2), if_neg (fun q => by have := q.1; simp only at this; omega)]
      rw [e]
      exact (find_block_ok p ks.length kc k x y h1 (by omega) w h.plt c0).mono fun e w' ⟨he, hb⟩ => ⟨hb, .inl ⟨rfl, he⟩⟩
  · by_cases h3 : x = 26
    · subst h3
      by_cases h4 : r ≤ y
      · have e : vFind ks r (26, y) = 15 := by unfold vFind; rw [if_neg (fun q => h1 q.1), if_pos ⟨rfl, h4⟩]
        rw [e]
        exact (find_call_no p y r i h4 w h.plt c1 c2).mono fun e w' ⟨he, hb⟩ => ⟨hb, .inr ⟨by decide, he⟩⟩
      · have e : vFind ks r (26, y) = 0 := by unfold vFind; rw [if_neg (fun q => h1 q.1), if_neg (fun q => h4 q.2)]
        rw [e]
        exact (find_call_ok p y r (by omega) w h.plt c1).mono fun e w' ⟨he, hb⟩ => ⟨hb, .inl ⟨rfl, he⟩⟩
    · have e : vFind ks r (x, y) = 0 := by unfold vFind; rw [if_neg (fun q => h1 q.1), if_neg (fun q => h3 q.1)]
      rw [e]
      exact (find_plain p x y w (beq_eq_false_iff_ne.2 (by omega)) (beq_eq_false_iff_ne.2 (by omega)) (beq_eq_false_iff_ne.2 h3)).mono fun e w' ⟨he, hb⟩ => ⟨hb, .inl ⟨rfl, he⟩⟩
/-- The cells of a list of kinds. -/
def kC (ks : List Int) : List Value := ks.map fun z => .int .i64 z
theorem kC_len (ks : List Int) : (kC ks).length = ks.length := by simp [kC]
theorem takesF_list : ∀ z : Int, kindB z = true → (takesF z).data.toList = tkL z := by
  intro z hz
  rcases kindB_yes hz with rfl | rfl | rfl | rfl <;> rfl
theorem effT_sign : ∀ k : Nat, k < 27 → 1 ≤ k → k ≠ 19 → ∀ (ks : List Int) (y : Int), (effT k).data.toList = (vSign ks ((k : Int), y)).1 ∧ (effG k).data.toList = (vSign ks ((k : Int), y)).2 := by
  intro k hk h1 h19 ks y
  have : k = 1 ∨ k = 2 ∨ k = 3 ∨ k = 4 ∨ k = 5 ∨ k = 6 ∨ k = 7 ∨ k = 8 ∨ k = 9 ∨ k = 10 ∨ k = 11 ∨ k = 12 ∨ k = 13 ∨ k = 14 ∨ k = 15 ∨ k = 16 ∨ k = 17 ∨ k = 18 ∨ k = 20 ∨ k = 21 ∨ k = 22 ∨ k = 23 ∨ k = 24 ∨ k = 25 ∨ k = 26 := by omega
  rcases this with rfl | rfl | rfl | rfl | rfl | rfl | rfl | rfl | rfl | rfl | rfl | rfl | rfl | rfl | rfl | rfl | rfl | rfl | rfl | rfl | rfl | rfl | rfl | rfl | rfl <;> exact ⟨rfl, rfl⟩
theorem tkL_len3 (k : Int) : (tkL k).length ≤ 3 := by
  unfold tkL
  repeat' split
  all_goals decide
theorem sign_len (ks : List Int) (x : Ins) : (vSign ks x).1.length ≤ 3 ∧ (vSign ks x).2.length ≤ 1 := by
  unfold vSign
  repeat' split
  all_goals refine ⟨?_, ?_⟩
  all_goals first | exact tkL_len3 _ | decide | exact Nat.le_refl _
theorem effectOf_any {B p : Nat} {k : Option Addr} {kc : Nat} {ks : List Int} {r i : Int} {v : VW} {w : World} (h : WStat B p (.slice k ks.length kc) r i v w) (x y : Int) (hx : okB x y = true) (hf : vFind ks r (x, y) = 0)
    (ht : EffTab w) (hfb : FbTab w) (hk : Lies w k (kC ks)) (hkv : ∀ z ∈ ks, kindB z = true) :
    Calls Tryd.prog 92 #[.pointer (some ⟨p, 0, none⟩), .agg #[.int .i64 x, .int .i64 y]] w fun e w' => Below w.heap.size w w' ∧
      ∃ T G : ByteArray, e = .returned (.agg #[.string T, .string G]) ∧ T.data.toList = (vSign ks (x, y)).1 ∧ G.data.toList = (vSign ks (x, y)).2 := by
  obtain ⟨a, n, c, a', n', c', h⟩ := h
  obtain ⟨c0, c1, c2, c3, c4⟩ := h.cells
  obtain ⟨q, rfl, q1, q2, q3, q4⟩ := okB_nat hx
  by_cases h19 : q = 19
  · subst h19
    have hy0 : 0 ≤ y := by have : opLo 19 = 0 := rfl; omega
    obtain ⟨m, rfl⟩ : ∃ m : Nat, y = m := ⟨y.toNat, by omega⟩
    have hm : m < ks.length := by
      unfold vFind at hf
      by_cases hh : (ks.length : Int) ≤ (m : Int)
      · rw [if_pos ⟨.inl rfl, hh⟩] at hf
        exact absurd hf (by decide)
      · omega
    obtain ⟨b, o, rfl, hbl, hcs⟩ := hk.open (by rw [kC_len]; omega)
    have hc := hcs m (.int .i64 (ks.getD m 0)) (by simp [kC, List.getD, hm])
    refine (effectOf_block p b o ks.length kc ks m hm w ht hfb h.plt c0 hbl hc).mono fun e w' ⟨he, hb⟩ => ⟨hb, _, _, he, ?_, rfl⟩
    rw [takesF_list _ (hkv _ (by simp [List.getD, hm]))]
    show tkL (ks.getD m 0) = _
    simp [vSign]
  · obtain ⟨e1, e2⟩ := effT_sign q (by omega) q1 h19 ks y
    exact (effectOf_plain p q y (by omega) (beq_eq_false_iff_ne.2 (by omega)) w ht).mono fun e w' ⟨he, hb⟩ => ⟨hb, _, _, he, e1, e2⟩
end Go.Proofs.YtbbhoaljldgjeaaDoor
