/- Bounds on time, as plain numbers: sums, one behind the other, either of two, so many times. -/
import Derived.WalkKit
namespace Go.Proofs.Ytppgknjpbfopjaa
/-- A bound: in all, without a cut, up to the first, behind the last, between two. -/
structure SM where
  t : Int
  n : Int
  h : Int
  l : Int
  i : Int
theorem SM.eta {a b : SM} (h1 : a.t = b.t) (h2 : a.n = b.n) (h3 : a.h = b.h) (h4 : a.l = b.l) (h5 : a.i = b.i) : a = b := by
  cases a; cases b; simp_all
def pls (a b : Int) : Int := if a < 0 ∨ b < 0 then -1 else min (a + b) 2147483647
theorem pls_ge (a b : Int) : -1 ≤ pls a b := by unfold pls; split <;> omega
theorem pls_le (a b : Int) : pls a b ≤ 2147483647 := by unfold pls; split <;> omega
theorem pls_assoc (a b c : Int) : pls (pls a b) c = pls a (pls b c) := by
  unfold pls
  repeat' split
  all_goals omega
theorem pls_max (a b c : Int) (ha : -1 ≤ a) (hb : -1 ≤ b) : pls (max a b) c = max (pls a c) (pls b c) := by
  unfold pls
  repeat' split
  all_goals omega
theorem max_pls (a b c : Int) (hb : -1 ≤ b) (hc : -1 ≤ c) : pls a (max b c) = max (pls a b) (pls a c) := by
  unfold pls
  repeat' split
  all_goals omega
theorem pls_zero (a : Int) (h : -1 ≤ a ∧ a ≤ 2147483647) : pls a 0 = a := by unfold pls; split <;> omega
theorem zero_pls (a : Int) (h : -1 ≤ a ∧ a ≤ 2147483647) : pls 0 a = a := by unfold pls; split <;> omega
theorem pls_none (a : Int) : pls a (-1) = -1 := by unfold pls; rw [if_pos (by omega)]
theorem none_pls (a : Int) : pls (-1) a = -1 := by unfold pls; rw [if_pos (by omega)]
theorem pls_mono {a b c d : Int} (h : a ≤ c) (g : b ≤ d) : pls a b ≤ pls c d := by
  unfold pls
  repeat' split
  all_goals omega
def SM.ok (a : SM) : Prop := (0 ≤ a.t ∧ a.t ≤ 2147483647) ∧ (-1 ≤ a.n ∧ a.n ≤ a.t) ∧ (-1 ≤ a.h ∧ a.h ≤ a.t) ∧ (-1 ≤ a.l ∧ a.l ≤ a.t) ∧ (-1 ≤ a.i ∧ a.i ≤ a.t) ∧ (a.h < 0 ↔ a.l < 0) ∧ (a.h < 0 → 0 ≤ a.n ∧ a.i < 0)
instance (a : SM) : Decidable a.ok := by unfold SM.ok; infer_instance
def smOK (a : SM) : Bool := decide a.ok
def one (n : Int) (cut : Bool) : SM := if cut = true then ⟨n, -1, n, 0, -1⟩ else ⟨n, n, -1, -1, -1⟩
def beh (a b : SM) : SM := ⟨pls a.t b.t, pls a.n b.n, max a.h (pls a.n b.h), max b.l (pls a.l b.n), max (max a.i b.i) (pls a.l b.h)⟩
def eith (a b : SM) : SM := ⟨max a.t b.t, max a.n b.n, max a.h b.h, max a.l b.l, max a.i b.i⟩
def tims (a : SM) : Nat → SM
  | 0 => one 0 false
  | n + 1 => beh (tims a n) a
def longest (a : SM) : Int := max (max a.n a.h) (max a.l a.i)
theorem one_ok {n : Int} (h : 0 ≤ n ∧ n ≤ 2147483647) (c : Bool) : (one n c).ok := by
  unfold one SM.ok
  cases c <;> simp <;> omega
theorem beh_assoc {a b c : SM} (ha : a.ok) (hb : b.ok) (hc : c.ok) : beh (beh a b) c = beh a (beh b c) := by
  obtain ⟨a1, a2, a3, a4, a5, _⟩ := ha
  obtain ⟨b1, b2, b3, b4, b5, _⟩ := hb
  obtain ⟨c1, c2, c3, c4, c5, _⟩ := hc
  have p1 := pls_ge a.n b.h
  have p2 := pls_ge a.l b.n
  have p3 := pls_ge b.n c.h
  have p4 := pls_ge b.l c.n
  apply SM.eta
  · exact pls_assoc _ _ _
  · exact pls_assoc _ _ _
  · show max (max a.h (pls a.n b.h)) (pls (pls a.n b.n) c.h) = max a.h (pls a.n (max b.h (pls b.n c.h)))
    rw [max_pls _ _ _ (by omega) p3, pls_assoc]
    omega
  · show max c.l (pls (max b.l (pls a.l b.n)) c.n) = max (max c.l (pls b.l c.n)) (pls a.l (pls b.n c.n))
    rw [pls_max _ _ _ (by omega) p2, pls_assoc]
    omega
  · show max (max (max (max a.i b.i) (pls a.l b.h)) c.i) (pls (max b.l (pls a.l b.n)) c.h) = max (max a.i (max (max b.i c.i) (pls b.l c.h))) (pls a.l (max b.h (pls b.n c.h)))
    rw [pls_max _ _ _ (by omega) p2, max_pls _ _ _ (by omega) p3, pls_assoc]
    omega
theorem beh_ok {a b : SM} (ha : a.ok) (hb : b.ok) : (beh a b).ok := by
  obtain ⟨a1, a2, a3, a4, a5, a6, a7⟩ := ha
  obtain ⟨b1, b2, b3, b4, b5, b6, b7⟩ := hb
  have t : ∀ x y : Int, -1 ≤ x → x ≤ a.t → -1 ≤ y → y ≤ b.t → -1 ≤ pls x y ∧ pls x y ≤ pls a.t b.t := fun x y h1 h2 h3 h4 => ⟨pls_ge _ _, pls_mono h2 h4⟩
  have t1 := t a.n b.n (by omega) (by omega) (by omega) (by omega)
  have t2 := t a.n b.h (by omega) (by omega) (by omega) (by omega)
  have t3 := t a.l b.n (by omega) (by omega) (by omega) (by omega)
  have t4 := t a.l b.h (by omega) (by omega) (by omega) (by omega)
  have ta : a.t ≤ pls a.t b.t := by unfold pls; rw [if_neg (by omega)]; omega
  have tb : b.t ≤ pls a.t b.t := by unfold pls; rw [if_neg (by omega)]; omega
  have tt := pls_le a.t b.t
  have e1 : pls a.n b.n < 0 ↔ (a.n < 0 ∨ b.n < 0) := by unfold pls; split <;> omega
  have e2 : pls a.n b.h < 0 ↔ (a.n < 0 ∨ b.h < 0) := by unfold pls; split <;> omega
  have e3 : pls a.l b.n < 0 ↔ (a.l < 0 ∨ b.n < 0) := by unfold pls; split <;> omega
  have e4 : pls a.l b.h < 0 ↔ (a.l < 0 ∨ b.h < 0) := by unfold pls; split <;> omega
  clear t
  unfold SM.ok beh
  dsimp only
  generalize pls a.n b.n = x1 at *
  generalize pls a.n b.h = x2 at *
  generalize pls a.l b.n = x3 at *
  generalize pls a.l b.h = x4 at *
  generalize pls a.t b.t = x5 at *
  refine ⟨by omega, by omega, by omega, by omega, by omega, ?_, ?_⟩
  · constructor
    · intro h; omega
    · intro h; omega
  · intro h; omega
theorem eith_ok {a b : SM} (ha : a.ok) (hb : b.ok) : (eith a b).ok := by
  obtain ⟨a1, a2, a3, a4, a5, a6, a7⟩ := ha
  obtain ⟨b1, b2, b3, b4, b5, b6, b7⟩ := hb
  unfold SM.ok eith
  dsimp only
  refine ⟨by omega, by omega, by omega, by omega, by omega, ?_, ?_⟩
  · constructor
    · intro h; omega
    · intro h; omega
  · intro h; omega
theorem eith_comm (a b : SM) : eith a b = eith b a := by
  apply SM.eta <;> (show max _ _ = max _ _) <;> omega
theorem tims_ok {a : SM} (ha : a.ok) : ∀ n, (tims a n).ok
  | 0 => one_ok (by omega) false
  | n + 1 => beh_ok (tims_ok ha n) ha
theorem none_beh {a : SM} (ha : a.ok) : beh (one 0 false) a = a := by
  obtain ⟨a1, a2, a3, a4, a5, _⟩ := ha
  apply SM.eta
  · exact zero_pls _ (by omega)
  · exact zero_pls _ (by omega)
  · show max (-1) (pls 0 a.h) = a.h
    rw [zero_pls _ (by omega)]
    omega
  · show max a.l (pls (-1) a.n) = a.l
    rw [none_pls]
    omega
  · show max (max (-1) a.i) (pls (-1) a.h) = a.i
    rw [none_pls]
    omega
theorem beh_none {a : SM} (ha : a.ok) : beh a (one 0 false) = a := by
  obtain ⟨a1, a2, a3, a4, a5, _⟩ := ha
  apply SM.eta
  · exact pls_zero _ (by omega)
  · exact pls_zero _ (by omega)
  · show max a.h (pls a.n (-1)) = a.h
    rw [pls_none]
    omega
  · show max (-1) (pls a.l 0) = a.l
    rw [pls_zero _ (by omega)]
    omega
  · show max (max a.i (-1)) (pls a.l (-1)) = a.i
    rw [pls_none]
    omega
end Go.Proofs.Ytppgknjpbfopjaa
