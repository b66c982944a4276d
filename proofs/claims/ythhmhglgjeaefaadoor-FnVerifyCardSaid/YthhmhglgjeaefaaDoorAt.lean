/- laws.at lies in its range; some makes a text of the length that is asked. -/
import Derived.Test.YthhmhglgjeaefaaDoorDraw
import Derived.IntWalk
import Derived.WalkSpells
import Derived.WalkSmall
namespace Go.Proofs.YthhmhglgjeaefaaDoor
open Go.ChangeShapes Go.WideShapes Go.ChangeAt Go.RowKit
def AtPost (w : World) (k : Int) (e : Ending) (w' : World) : Prop := ∃ v : Int, e = .returned (.int .i64 v) ∧ 0 ≤ v ∧ v ≤ k - 1 ∧ ∃ q, w' = w.drewN q
theorem Src.grown {w w' : World} {B p N : Nat} {row : Option Nat} (h : Src w B p N) (g : w.grownBy w' row) (hp : some p ≠ row) (hB : ∀ k, row = some k → B ≤ k) : Src w' B p N := by
  obtain ⟨h1, h2, a, n, c, j, sd, hb, hj, s0, s1, hblk⟩ := h
  refine ⟨h1, Nat.lt_of_lt_of_le h2 g.size, a, n, c, j, sd, ⟨hb.1, fun hn => ?_⟩, hj, s0, s1, (g.block p h2 hp).trans hblk⟩
  obtain ⟨x, e, hx, hc⟩ := hb.2 hn
  refine ⟨x, e, hx, fun i hi => ?_⟩
  obtain ⟨z, z0, z1, hz⟩ := hc i hi
  exact ⟨z, z0, z1, g.cell hz (by rw [add_block]; intro he; have := hB _ he.symm; omega)⟩
theorem Src.alloc {w : World} {B p N : Nat} (h : Src w B p N) (o : Obj) : Src (w.alloc o) B p N :=
  h.grown (World.grownBy_alloc w o none) (by intro e; cases e) (by intro k e; cases e)
theorem src_own_ne {w0 w : World} {B p N : Nat} {e : TypeId} {v : Value} {n : Nat} {xs : List Value} (h : Src w0 B p N) (ho : w.ownsRow w0.heap.size e 1 v n xs) : v.ownBlock ≠ some p := by
  intro hv
  have := (ho.lt p hv).1
  have := h.2.1
  omega
theorem grown_new {a b c : World} {p : Nat} {row : Option Nat} (h : a.grownBy b (some p)) (g : b.grownBy c row) (hr : ∀ k, row = some k → a.heap.size ≤ k) : a.grownBy c (some p) :=
  ⟨g.os.trans h.os, g.tape.trans h.tape, g.output.trans h.output, Nat.le_trans h.size g.size, fun k hk hp => (g.block k (Nat.lt_of_lt_of_le hk h.size) (fun e => by have := hr k e.symm; omega)).trans (h.block k hk hp)⟩
def SomePost (B p N m : Nat) (w : World) (e : Ending) (w' : World) : Prop := ∃ t : ByteArray, e = .returned (.string t) ∧ t.size = m ∧ Src w' B p (N + m) ∧ w.grownBy w' (some p)
end Go.Proofs.YthhmhglgjeaefaaDoor
