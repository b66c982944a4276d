/- Lists of integers: the copies, comparisons, marks of the laws; small facts on rows. -/
import Derived.Test.YthhmhglgjeaefaaDoorRows
import Derived.Test.YthhmhglgjeaefaaDoorRow
import Derived.OwnWalk
import Derived.Lib.OwnKind
import Derived.Handy
import Derived.IntWalk
import Derived.WalkSmall
import Derived.Deep.QuietTactic
import Derived.BigQuiet
import Derived.Deep.RegionWith
import Derived.Deep.DeepMust
import Derived.Outline
namespace Go.Proofs.YthhmhglgjeaefaaDoor
open Go.ChangeShapes Go.WideShapes Go.ChangeAt Go.RowKit
set_option linter.unusedVariables false
theorem bel_dn {B : Nat} {a w : World} (h : Below B a w) (q : Nat) : Below B a (w.drewN q) := ⟨h.os, h.tape, h.output, h.size, h.block⟩
theorem own_bl {w w' : World} {B size n : Nat} {e : TypeId} {v : Value} {xs : List Value} (h : w.ownsRow B e size v n xs) (hb : Below w.heap.size w w') : w'.ownsRow B e size v n xs :=
  h.kept (row := none) ⟨hb.os, hb.tape, hb.output, hb.size, fun k hk _ => hb.block k hk⟩ (by cases v.ownBlock <;> simp)
theorem own_form {w : World} {B size n : Nat} {e : TypeId} {v : Value} {xs : List Value} (h : w.ownsRow B e size v n xs) : v = .slice none 0 0 ∧ n = 0 ∨ ∃ g c, v = .slice (some ⟨g, 0, none⟩) n c := by
  rcases h.2 with ⟨rfl, h0⟩ | ⟨g, cap, cur, rfl, _⟩
  · exact .inl ⟨rfl, h0⟩
  · exact .inr ⟨g, cap, rfl⟩
theorem row_tr {a b c : World} {row : Option Nat} (h : a.grownBy b row) (g : b.grownBy c row) : a.grownBy c row :=
  ⟨g.os.trans h.os, g.tape.trans h.tape, g.output.trans h.output, Nat.le_trans h.size g.size, fun k hk hr => (g.block k (Nat.lt_of_lt_of_le hk h.size) hr).trans (h.block k hk hr)⟩
theorem wk_slice {w : World} {B n size : Nat} {v : Value} {e : TypeId} {xs : List Value} (h : w.ownsRow B e size v n xs) : ∃ a c, v = .slice a n c := by
  rcases h.2 with ⟨rfl, rfl⟩ | ⟨g, cap, cur, rfl, _⟩
  · exact ⟨_, _, rfl⟩
  · exact ⟨_, _, rfl⟩
theorem own_base {w : World} {B B' n size : Nat} {e : TypeId} {v : Value} {xs : List Value} (h : w.ownsRow B e size v n xs) (hB : B' ≤ B) : w.ownsRow B' e size v n xs := by
  refine ⟨h.1, ?_⟩
  rcases h.2 with h0 | ⟨g, cap, cur, h1, h2, h3⟩
  · exact .inl h0
  · exact .inr ⟨g, cap, cur, h1, Nat.le_trans hB h2, h3⟩
theorem wk_set {w : World} {p : Nat} {cs : Array Value} {t : TypeId} (h : w.heap[p]? = some (.cells cs t (0, 0))) (i : Nat) (u : Value) : (w.setCell ⟨p, i, none⟩ u).heap[p]? = some (.cells (cs.setIfInBounds i u) t (0, 0)) := by
  simp [World.setCell, Array.getElem?_modify, h]
theorem own_ne {w : World} {B size n p : Nat} {e t : TypeId} {v : Value} {xs : List Value} {cs : Array Value} {fz : Nat × Nat} (h : w.ownsRow B e size v n xs) (hp : w.heap[p]? = some (.cells cs t fz)) (ht : t ≠ e) : v.ownBlock ≠ some p := by
  intro hv
  obtain ⟨c, f, hc⟩ := Lib.ownsRow_kind h p hv
  rw [hp] at hc
  simp only [Option.some.injEq, Obj.cells.injEq] at hc
  exact ht hc.2.1
theorem own_ne2 {w : World} {B size n B' size' n' : Nat} {e t : TypeId} {v v' : Value} {xs xs' : List Value} (h : w.ownsRow B e size v n xs) (h' : w.ownsRow B' t size' v' n' xs') (ht : t ≠ e) : v.ownBlock = none ∨ v.ownBlock ≠ v'.ownBlock := by
  cases hv : v.ownBlock with
  | none => exact .inl rfl
  | some g =>
    refine .inr fun e' => ?_
    obtain ⟨c, f, hc⟩ := Lib.ownsRow_kind h' g e'.symm
    exact own_ne h hc ht hv
def kC (ks : List Int) : List Value := ks.map fun z => .int .i64 z
theorem kC_len (ks : List Int) : (kC ks).length = ks.length := by simp [kC]
theorem kind_at {w : World} {b o : Nat} {ks : List Int} (h : ∀ (j : Nat) v, (kC ks)[j]? = some v → w.cell? ⟨b, o + j, none⟩ = some v) {i : Nat} (hi : i < ks.length) : w.cell? ⟨b, o + i, none⟩ = some (.int .i64 (ks.getD i 0)) :=
  h i _ (by simp [kC, List.getD, hi])
def kI (z : Int) : List Value := [.int .i64 z]
theorem kI_len (z : Int) : (kI z).length = 1 := rfl
theorem kC_flat (ks : List Int) : flat kI ks = kC ks := by
  induction ks with
  | nil => rfl
  | cons a t ih => rw [flat_cons, ih]; rfl
theorem cInt1 : Tryd.prog.cellsOf 3 = 1 := by kernel_rfl
theorem came_ks {W : World} {a : Option Addr} {n c : Nat} (h : Came Tryd.prog W 23 [.slice a n c]) : n ≤ maxLen ∧ n ≤ c ∧ ∃ ks : List Int, ks.length = n ∧ Lies W a (kC ks) := by
  obtain ⟨h1, h2, zs, h3, h4⟩ := lies_came kI kI_len (by decide) Tryd.underlying23 cInt1 (fun es g => by
    obtain ⟨z, e, _⟩ := came_int Tryd.underlying3 g
    exact ⟨z, e⟩) h
  exact ⟨h1, h2, zs, h3, kC_flat zs ▸ h4⟩
def marksI (m : Int) : Nat → List Int
  | 0 => []
  | k + 1 => marksI m k ++ [m + k]
theorem marksI_len (m : Int) (k : Nat) : (marksI m k).length = k := by
  induction k with
  | zero => rfl
  | succ k ih => simp [marksI, ih]
theorem marksI_at (m : Int) : ∀ (n k : Nat), k < n → (marksI m n)[k]? = some (m + k)
  | n + 1, k, h => by
    by_cases e : k < n
    · rw [marksI, List.getElem?_append_left (by rw [marksI_len]; exact e)]
      exact marksI_at m n k e
    · obtain rfl : k = n := by omega
      rw [marksI, List.getElem?_append_right (by rw [marksI_len]; exact Nat.le_refl _), marksI_len]
      simp
def MarkIPost (B n : Nat) (v : Value) (m : Int) (w : World) (e : Ending) (w' : World) : Prop :=
  e = .returned (.int .i64 (m + n)) ∧ w'.ownsRow B 3 1 v n (kC (marksI m n)) ∧ w.grownBy w' v.ownBlock
def ToIntPost (B : Nat) (n : Nat) (xs : List Value) (w : World) (e : Ending) (w' : World) : Prop := ∃ g, e = .returned (.slice (some ⟨g, 0, none⟩) n n) ∧ w'.ownsRow B 3 1 (.slice (some ⟨g, 0, none⟩) n n) n xs ∧ Below w.heap.size w w'
end Go.Proofs.YthhmhglgjeaefaaDoor
