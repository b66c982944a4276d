/- Rows of elements of a fixed number of cells: as they lie in memory; what came in, and what a call made itself. Over any program. -/
import Derived.WalkKit
import Derived.ProofKit
import Derived.OwnWalk
import Derived.Below
import Derived.Laws.AppendOwn
import Derived.Laws.OwnMore
import Derived.Laws.MakeOwn
import Derived.Lib.Hide
import Derived.Test.YtgbnoaclklbjbaaCame
namespace Go.Proofs.Ytgbnoaclklbjbaa
open Go.RowKit
/-- The cells of a list of elements. -/
def flat {α : Type} (enc : α → List Value) (zs : List α) : List Value := zs.flatMap enc
theorem flat_nil {α : Type} (enc : α → List Value) : flat enc [] = [] := rfl
theorem flat_snoc {α : Type} (enc : α → List Value) (zs : List α) (x : α) : flat enc (zs ++ [x]) = flat enc zs ++ enc x := by simp [flat]
theorem flat_cons {α : Type} (enc : α → List Value) (x : α) (zs : List α) : flat enc (x :: zs) = enc x ++ flat enc zs := by simp [flat]
theorem flat_app {α : Type} (enc : α → List Value) (xs ys : List α) : flat enc (xs ++ ys) = flat enc xs ++ flat enc ys := by simp [flat]
theorem flat_len {α : Type} {enc : α → List Value} {k : Nat} (h : ∀ x, (enc x).length = k) (zs : List α) : (flat enc zs).length = zs.length * k := by
  induction zs with
  | nil => simp [flat]
  | cons x t ih => rw [flat_cons, List.length_append, ih, h, List.length_cons, Nat.add_mul, Nat.one_mul, Nat.add_comm]
theorem flat_at {α : Type} {enc : α → List Value} {k : Nat} (h : ∀ x, (enc x).length = k) {zs : List α} {i : Nat} {x : α} (hi : zs[i]? = some x) {j : Nat} (hj : j < k) : (flat enc zs)[i * k + j]? = (enc x)[j]? := by
  induction zs generalizing i with
  | nil => simp at hi
  | cons y t ih =>
    cases i with
    | zero =>
      simp at hi
      subst hi
      rw [flat_cons, Nat.zero_mul, Nat.zero_add, List.getElem?_append_left (by rw [h]; exact hj)]
    | succ i =>
      rw [flat_cons, List.getElem?_append_right (by rw [h, Nat.add_mul]; omega), h, show (i + 1) * k + j - k = i * k + j by rw [Nat.add_mul]; omega]
      exact ih (by simpa using hi)
/-- The cells lie behind the address, one after another. -/
def Lies (w : World) (a : Option Addr) (cs : List Value) : Prop := cs = [] ∨ ∃ b o : Nat, a = some ⟨b, o, none⟩ ∧ ∀ (j : Nat) v, cs[j]? = some v → w.cell? ⟨b, o + j, none⟩ = some v
theorem Lies.nil (w : World) (a : Option Addr) : Lies w a [] := .inl rfl
theorem Lies.open {w : World} {a : Option Addr} {cs : List Value} (h : Lies w a cs) (hn : 0 < cs.length) : ∃ b o : Nat, a = some ⟨b, o, none⟩ ∧ b < w.heap.size ∧ ∀ (j : Nat) v, cs[j]? = some v → w.cell? ⟨b, o + j, none⟩ = some v := by
  rcases h with h | ⟨b, o, e, h⟩
  · rw [h] at hn; simp at hn
  · refine ⟨b, o, e, ?_, h⟩
    have := h 0 cs[0] (List.getElem?_eq_getElem hn)
    exact cells_lt this
theorem Lies.below {B : Nat} {w w' : World} {a : Option Addr} {cs : List Value} (h : Lies w a cs) (g : Below B w w') (hB : w.heap.size ≤ B) : Lies w' a cs := by
  rcases h with h | ⟨b, o, e, h⟩
  · exact .inl h
  · refine .inr ⟨b, o, e, fun j v hj => ?_⟩
    have hc := h j v hj
    have hb : b < w.heap.size := cells_lt hc
    exact (g.cell (p := ⟨b, o + j, none⟩) (show b < B by omega)).trans hc
/-- Another block than the row that grows. -/
theorem Lies.grown {w w' : World} {row : Option Nat} {a : Option Addr} {cs : List Value} (h : Lies w a cs) (g : w.grownBy w' row) (hr : ∀ b o, a = some (⟨b, o, none⟩ : Addr) → row ≠ some b) : Lies w' a cs := by
  rcases h with h | ⟨b, o, e, h⟩
  · exact .inl h
  · exact .inr ⟨b, o, e, fun j v hj => g.cell (h j v hj) (fun e' => hr b o e e'.symm)⟩
theorem lies_own {w : World} {B size n c : Nat} {e : TypeId} {a : Option Addr} {xs : List Value} (h : w.ownsRow B e size (.slice a n c) n xs) : Lies w a xs := by
  rcases h.2 with ⟨_, h0⟩ | ⟨g, cap, cur, e1, _⟩
  · have hl := h.1
    rw [h0] at hl
    exact .inl (List.eq_nil_of_length_eq_zero (by simpa using hl))
  · simp only [Value.slice.injEq] at e1
    obtain ⟨rfl, _, _⟩ := e1
    exact .inr ⟨g, 0, rfl, fun j v hj => by have := h.cells (g := g) rfl j v hj; simpa [Addr.add] using (by cases j <;> simpa [Addr.add] using this)⟩
/-- A row of elements that came in. -/
theorem lies_came {α : Type} {P : Program} {W : World} {t e : TypeId} {a : Option Addr} {n c k : Nat} (enc : α → List Value) (hlen : ∀ x, (enc x).length = k) (hk : 0 < k) (ht : P.underlying t = some (.slice e)) (hc : P.cellsOf e = k)
    (he : ∀ es : List Value, Came P W e es → ∃ x : α, es = enc x) (h : Came P W t [.slice a n c]) : n ≤ maxLen ∧ n ≤ c ∧ ∃ zs : List α, zs.length = n ∧ Lies W a (flat enc zs) := by
  rcases came_slice ht h with h0 | ⟨x, len, cap, hcs, hl, hm, hi⟩
  · simp only [List.cons.injEq, Value.slice.injEq, and_true] at h0
    obtain ⟨rfl, rfl, rfl⟩ := h0
    exact ⟨Nat.zero_le _, Nat.le_refl _, [], rfl, .inl rfl⟩
  · simp only [List.cons.injEq, Value.slice.injEq, and_true] at hcs
    obtain ⟨rfl, rfl, rfl⟩ := hcs
    refine ⟨by omega, hl, ?_⟩
    have each : ∀ i, i < n → ∃ z : α, ∀ j, j < k → W.cell? ((x.add (i * k)).add j) = (enc z)[j]? := fun i hin => by
      obtain ⟨es, g, ge⟩ := hi i (by omega)
      obtain ⟨z, rfl⟩ := he es ge
      rw [hc] at g
      exact ⟨z, fun j hj => (cells_at g).2 j hj⟩
    have build : ∀ m, m ≤ n → ∃ zs : List α, zs.length = m ∧ ∀ i z, zs[i]? = some z → ∀ j, j < k → W.cell? ((x.add (i * k)).add j) = (enc z)[j]? := by
      intro m
      induction m with
      | zero => intro _; exact ⟨[], rfl, by intro i z hz; simp at hz⟩
      | succ m ih =>
        intro hm'
        obtain ⟨zs, hzl, hz⟩ := ih (by omega)
        obtain ⟨z, hzz⟩ := each m (by omega)
        refine ⟨zs ++ [z], by simp [hzl], fun i y hy => ?_⟩
        by_cases e : i < m
        · exact hz i y (by rwa [List.getElem?_append_left (by omega)] at hy)
        · have hi' : i < (zs ++ [z]).length := (List.getElem?_eq_some_iff.1 hy).1
          simp only [List.length_append, List.length_singleton] at hi'
          obtain rfl : i = m := by omega
          rw [List.getElem?_append_right (by omega), hzl] at hy
          simp at hy
          subst hy
          exact hzz
    obtain ⟨zs, hzl, hz⟩ := build n (Nat.le_refl _)
    refine ⟨zs, hzl, ?_⟩
    rcases Nat.eq_zero_or_pos n with h0 | hn
    · have : zs = [] := List.eq_nil_of_length_eq_zero (by omega)
      subst this
      exact .inl rfl
    · have hx : x.spot = none := by
        have := hz 0 zs[0] (List.getElem?_eq_getElem (by omega)) 0 hk
        rw [Nat.zero_mul, show ((x.add 0).add 0) = x from by simp [Addr.add], List.getElem?_eq_getElem (by rw [hlen]; exact hk)] at this
        revert this
        unfold World.cell?
        cases hs : x.spot with
        | none => intro _; rfl
        | some s => split <;> simp
      obtain ⟨b, o, s⟩ := x
      simp only at hx
      subst hx
      refine .inr ⟨b, o, rfl, fun j v hj => ?_⟩
      have hjl : j < (flat enc zs).length := (List.getElem?_eq_some_iff.1 hj).1
      rw [flat_len hlen] at hjl
      have hdiv : j / k < zs.length := (Nat.div_lt_iff_lt_mul hk).2 hjl
      have hmod : j % k < k := Nat.mod_lt _ hk
      have hsum : j / k * k + j % k = j := Nat.div_add_mod' j k
      have h1 := hz (j / k) zs[j / k] (List.getElem?_eq_getElem hdiv) (j % k) hmod
      have h2 := flat_at hlen (List.getElem?_eq_getElem hdiv) hmod
      rw [hsum, hj] at h2
      rw [← h2] at h1
      have e : ((⟨b, o, none⟩ : Addr).add (j / k * k)).add (j % k) = ⟨b, o + j, none⟩ := by
        rw [Go.Deep.add_add, hsum]
        unfold Addr.add
        split
        · rename_i h0; rw [h0]; rfl
        · rfl
      rw [e] at h1
      exact h1
/-- Cells written one after another. -/
def storeAll (w : World) (b : Nat) : Nat → List Value → World
  | _, [] => w
  | p, u :: us => storeAll (w.setCell ⟨b, p, none⟩ u) b (p + 1) us
def over (xs : List Value) : Nat → List Value → List Value
  | _, [] => xs
  | p, u :: us => over (xs.set p u) (p + 1) us
theorem over_mid : ∀ (us A Z R : List Value), Z.length = us.length → over (A ++ Z ++ R) A.length us = A ++ us ++ R
  | [], A, Z, R, h => by
    have : Z = [] := List.eq_nil_of_length_eq_zero h
    subst this
    rfl
  | u :: us, A, [], R, h => by simp at h
  | u :: us, A, z :: Z, R, h => by
    have h1 : (A ++ (z :: Z) ++ R).set A.length u = (A ++ [u]) ++ Z ++ R := by simp
    have h2 := over_mid us (A ++ [u]) Z R (by simpa using h)
    rw [over, h1, show A.length + 1 = (A ++ [u]).length by simp, h2]
    simp
theorem over_len : ∀ (us xs : List Value) (p : Nat), (over xs p us).length = xs.length
  | [], _, _ => rfl
  | u :: us, xs, p => by rw [over, over_len us]; simp
theorem own_storeAll {base e size n cap g : Nat} : ∀ (us xs : List Value) (p : Nat) (w : World), w.ownsRow base e size (.slice (some ⟨g, 0, none⟩) n cap) n xs →
    (storeAll w g p us).ownsRow base e size (.slice (some ⟨g, 0, none⟩) n cap) n (over xs p us) ∧ w.grownBy (storeAll w g p us) (some g)
  | [], xs, p, w, h => ⟨h, World.grownBy.refl _ _⟩
  | u :: us, xs, p, w, h => by
    obtain ⟨h1, g1⟩ := h.stored p u
    obtain ⟨h2, g2⟩ := own_storeAll us (xs.set p u) (p + 1) _ h1
    exact ⟨h2, ⟨g2.os.trans g1.os, g2.tape.trans g1.tape, g2.output.trans g1.output, Nat.le_trans g1.size g2.size, fun k hk hr => (g2.block k (Nat.lt_of_lt_of_le hk g1.size) hr).trans (g1.block k hk hr)⟩⟩
/-- A row being filled: the first k elements; behind them whatever was there. -/
def Filled {α : Type} (enc : α → List Value) (s : Nat) (w : World) (base e g n cap : Nat) (zs : List α) (k : Nat) : Prop :=
  ∃ tl : List Value, tl.length = (n - k) * s ∧ w.ownsRow base e s (.slice (some ⟨g, 0, none⟩) n cap) n (flat enc (zs.take k) ++ tl)
theorem Filled.zero {α : Type} {enc : α → List Value} {s : Nat} {w : World} {base e g n cap : Nat} {zs : List α} {xs : List Value} (h : w.ownsRow base e s (.slice (some ⟨g, 0, none⟩) n cap) n xs) : Filled enc s w base e g n cap zs 0 :=
  ⟨xs, by have := h.1; simpa using this, by simpa [flat] using h⟩
theorem Filled.full {α : Type} {enc : α → List Value} {s : Nat} {w : World} {base e g n cap : Nat} {zs : List α} (h : Filled enc s w base e g n cap zs n) (hn : zs.length = n) : w.ownsRow base e s (.slice (some ⟨g, 0, none⟩) n cap) n (flat enc zs) := by
  obtain ⟨tl, hl, ho⟩ := h
  have : tl = [] := List.eq_nil_of_length_eq_zero (by simpa using hl)
  subst this
  rw [List.take_of_length_le (by omega), List.append_nil] at ho
  exact ho
theorem Filled.store {α : Type} {enc : α → List Value} {s : Nat} (hlen : ∀ x, (enc x).length = s) {w : World} {base e g n cap : Nat} {zs : List α} {k : Nat} {x : α} (h : Filled enc s w base e g n cap zs k) (hn : zs.length = n) (hx : zs[k]? = some x) :
    Filled enc s (storeAll w g (k * s) (enc x)) base e g n cap zs (k + 1) ∧ w.grownBy (storeAll w g (k * s) (enc x)) (some g) := by
  obtain ⟨tl, hl, ho⟩ := h
  have hk : k < zs.length := (List.getElem?_eq_some_iff.1 hx).1
  have hm : (n - k) * s = s + (n - (k + 1)) * s := by
    rw [show n - k = (n - (k + 1)) + 1 by omega, Nat.add_mul, Nat.one_mul, Nat.add_comm]
  obtain ⟨h1, g1⟩ := own_storeAll (enc x) _ (k * s) w ho
  have hA : (flat enc (zs.take k)).length = k * s := by rw [flat_len hlen, List.length_take, Nat.min_eq_left (by omega)]
  have ho' := over_mid (enc x) (flat enc (zs.take k)) (tl.take s) (tl.drop s) (by rw [List.length_take, hlen, hl, hm]; omega)
  rw [hA, List.append_assoc, List.take_append_drop] at ho'
  rw [ho'] at h1
  refine ⟨⟨tl.drop s, by rw [List.length_drop, hl, hm]; omega, ?_⟩, g1⟩
  have ht : flat enc (zs.take (k + 1)) = flat enc (zs.take k) ++ enc x := by rw [List.take_add_one, hx]; simp [flat]
  rw [ht]
  exact h1
/-- The cells that are written are there. -/
theorem Filled.there {α : Type} {enc : α → List Value} {s : Nat} {w : World} {base e g n cap : Nat} {zs : List α} {k : Nat} (h : Filled enc s w base e g n cap zs k) (hk : k < n) (j : Nat) (hj : j < s) :
    ∃ v, w.cell? ⟨g, k * s + j, none⟩ = some v := by
  obtain ⟨tl, hl, ho⟩ := h
  have hm : k * s + j < n * s := by
    have := Nat.mul_le_mul_right s (show k + 1 ≤ n by omega)
    rw [Nat.add_mul, Nat.one_mul] at this
    omega
  have hc := ho.cellAt (k * s + j) hm
  have hL : (flat enc (zs.take k) ++ tl).length = n * s := ho.1
  exact ⟨_, hc.trans (List.getElem?_eq_getElem (by omega))⟩
theorem Filled.free {α : Type} {enc : α → List Value} {s : Nat} {w : World} {base e g n cap : Nat} {zs : List α} {k : Nat} (h : Filled enc s w base e g n cap zs k) (j : Nat) : w.frozen? ⟨g, j, none⟩ = false := by
  obtain ⟨tl, _, ho⟩ := h
  exact ho.frozenAt j
theorem Filled.below {α : Type} {enc : α → List Value} {s : Nat} {w w' : World} {base e g n cap : Nat} {zs : List α} {k : Nat} (h : Filled enc s w base e g n cap zs k) (hb : Below w.heap.size w w') : Filled enc s w' base e g n cap zs k := by
  obtain ⟨tl, hl, ho⟩ := h
  exact ⟨tl, hl, ho.kept (row := none) ⟨hb.os, hb.tape, hb.output, hb.size, fun k hk _ => hb.block k hk⟩ (Or.inr (by intro e; cases e))⟩
end Go.Proofs.Ytgbnoaclklbjbaa
