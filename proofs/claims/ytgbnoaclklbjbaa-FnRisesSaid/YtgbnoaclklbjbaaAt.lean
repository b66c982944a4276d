/- laws.at lies in its range; some makes a text of the length that is asked. -/
import Derived.Test.YtgbnoaclklbjbaaDraw
import Derived.IntWalk
import Derived.WalkSpells
import Derived.WalkSmall
namespace Go.Proofs.Ytgbnoaclklbjbaa
open Go.ChangeShapes Go.WideShapes Go.ChangeAt Go.RowKit
def AtPost (w : World) (k : Int) (e : Ending) (w' : World) : Prop := ∃ v : Int, e = .returned (.int .i64 v) ∧ 0 ≤ v ∧ v ≤ k - 1 ∧ ∃ q, w' = w.drewN q
theorem at_any (a : Option Addr) (n c : Nat) (w : World) (h : Bytes0 w w.heap.size a n) (hn : n ≤ 1048576) (i k : Int) (hi : 0 ≤ i ∧ i ≤ 1000000) (hk : 1 ≤ k ∧ k ≤ 1000000) :
    Calls Try.prog 39 #[.slice a n c, .int .i64 i, .int .i64 k] w (AtPost w k) := by
  by_cases k1 : k ≤ 1
  · go_enter Try.func39, Try.ntmps39
    go_wp2
    go_ret
    exact ⟨0, rfl, by omega, by omega, 0, rfl⟩
  by_cases n0 : n = 0
  · have hn0 : ((n : Int) == 0) = true := by rw [n0]; rfl
    have H := Lib.hid n0
    clear n0 h
    go_enter Try.func39, Try.ntmps39
    go_wp2
    go_ret
    exact ⟨_, rfl, Int.emod_nonneg _ (by omega), by have := Int.emod_lt_of_pos (i * 7) (b := k) (by omega); omega, 0, rfl⟩
  have hn0 : ((n : Int) == 0) = false := beq_eq_false_iff_ne.2 (by omega)
  obtain ⟨j, rfl⟩ := Int.eq_ofNat_of_zero_le hi.1
  obtain ⟨x, rfl, hx, hc⟩ := h.2 (by omega)
  obtain ⟨z1, a0, a1, e1⟩ := hc (j % n) (Nat.mod_lt _ (by omega))
  obtain ⟨z2, b0, b1, e2⟩ := hc ((j + 1) % n) (Nat.mod_lt _ (by omega))
  have hp1 : j % n < n := Nat.mod_lt _ (by omega)
  have hp2 : (j + 1) % n < n := Nat.mod_lt _ (by omega)
  have t1 : ((j : Nat) : Int).tmod (n : Int) = ((j % n : Nat) : Int) := by rw [IntWalk.rem_in _ _ (by omega)]; rfl
  have t2 : (((j : Nat) : Int) + 1).tmod (n : Int) = (((j + 1) % n : Nat) : Int) := by rw [IntWalk.rem_in _ _ (by omega)]; rfl
  have HX : Hid (0 ≤ (wrap64 (z1 * 31 + z2 + wrap64 ((j : Int) / (n : Int)))).tmod k ∧ (wrap64 (z1 * 31 + z2 + wrap64 ((j : Int) / (n : Int)))).tmod k ≤ k - 1) := by
    have hd0 : (0 : Int) ≤ (j : Int) / (n : Int) := Int.ediv_nonneg (by omega) (by omega)
    have hd1 : (j : Int) / (n : Int) ≤ (j : Int) := Int.ediv_le_self _ (by omega)
    rw [IntWalk.wrap64_in ((j : Int) / (n : Int)) (by omega), IntWalk.wrap64_in _ (by omega), IntWalk.rem_in _ _ (by omega)]
    refine Lib.hid ⟨Int.emod_nonneg _ (by omega), ?_⟩
    have := Int.emod_lt_of_pos (z1 * 31 + z2 + (j : Int) / (n : Int)) (b := k) (by omega)
    omega
  generalize j % n = p at *
  generalize (j + 1) % n = q at *
  have u1 := IntWalk.i64_in ((j : Int) + 1) (by omega)
  have u2 := IntWalk.i64_in z1 (by omega)
  have u3 := IntWalk.i64_in z2 (by omega)
  have u4 := IntWalk.i64_in (z1 * 31) (by omega)
  have u5 := IntWalk.i64_in (z1 * 31 + z2) (by omega)
  have g1 : (p : Int) < (n : Int) := by omega
  have g2 : (q : Int) < (n : Int) := by omega
  clear h hc hx
  go_enter Try.func39, Try.ntmps39
  go_wp2
  go_quiet (fail)
  go_wp2
  go_ret
  exact ⟨_, rfl, HX.out.1, HX.out.2, _, rfl⟩
theorem Src.grown {w w' : World} {B p N : Nat} {row : Option Nat} (h : Src w B p N) (g : w.grownBy w' row) (hp : some p ≠ row) (hB : ∀ k, row = some k → B ≤ k) : Src w' B p N := by
  obtain ⟨h1, h2, a, n, c, j, sd, hb, hj, s0, s1, hblk⟩ := h
  refine ⟨h1, Nat.lt_of_lt_of_le h2 g.size, a, n, c, j, sd, ⟨hb.1, fun hn => ?_⟩, hj, s0, s1, (g.block p h2 hp).trans hblk⟩
  obtain ⟨x, e, hx, hc⟩ := hb.2 hn
  refine ⟨x, e, hx, fun i hi => ?_⟩
  obtain ⟨z, z0, z1, hz⟩ := hc i hi
  exact ⟨z, z0, z1, g.cell hz (by rw [add_block]; intro he; have := hB _ he.symm; omega)⟩
theorem Src.alloc {w : World} {B p N : Nat} (h : Src w B p N) (o : Obj) : Src (w.alloc o) B p N :=
  h.grown (World.grownBy_alloc w o none) (by intro e; cases e) (by intro k e; cases e)
theorem src_own_ne {w0 w : World} {B p N : Nat} {e : TypeId} {v : Value} {n : Nat} {xs : List Value} (h : Src w0 B p N) (ho : w.ownsRow w0.heap.size e 1 v n xs) : v.ownBlock ≠ some p := by
  intro hv
  have := (ho.lt p hv).1
  have := h.2.1
  omega
theorem grown_new {a b c : World} {p : Nat} {row : Option Nat} (h : a.grownBy b (some p)) (g : b.grownBy c row) (hr : ∀ k, row = some k → a.heap.size ≤ k) : a.grownBy c (some p) :=
  ⟨g.os.trans h.os, g.tape.trans h.tape, g.output.trans h.output, Nat.le_trans h.size g.size, fun k hk hp => (g.block k (Nat.lt_of_lt_of_le hk h.size) (fun e => by have := hr k e.symm; omega)).trans (h.block k hk hp)⟩
def SomePost (B p N m : Nat) (w : World) (e : Ending) (w' : World) : Prop := ∃ t : ByteArray, e = .returned (.string t) ∧ t.size = m ∧ Src w' B p (N + m) ∧ w.grownBy w' (some p)
end Go.Proofs.Ytgbnoaclklbjbaa
