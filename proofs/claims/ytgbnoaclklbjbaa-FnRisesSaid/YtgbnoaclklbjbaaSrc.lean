/- The source of draws: each draw lies in its range, and writes into the source's own block alone. -/
import Derived.Test.YtgbnoaclklbjbaaRows
import Derived.WalkKit
import Derived.ProofKit
import Derived.OpenShut
import Derived.Handy
import Derived.Below
import Derived.Laws.OwnMore
import Derived.Lib.Hide
import Derived.Deep.QuietTactic
import Derived.BigQuiet
import Derived.StillTailTactics
namespace Go.Proofs.Ytgbnoaclklbjbaa
open Go.ChangeShapes Go.WideShapes Go.ChangeAt Go.RowKit
/-- A slice of bytes that came in: nil, or a row of cells in blocks below B. -/
def Bytes0 (w : World) (B : Nat) (a : Option Addr) (n : Nat) : Prop :=
  n ≤ maxLen ∧ (0 < n → ∃ x, a = some x ∧ x.block < B ∧ ∀ i, i < n → ∃ z : Int, 0 ≤ z ∧ z ≤ 255 ∧ w.cell? (x.add i) = some (.int .u8 z))
/-- Block p is a source over a slice that lies below B; at most N bytes have been taken. -/
def Src (w : World) (B p N : Nat) : Prop :=
  B ≤ p ∧ p < w.heap.size ∧ ∃ (a : Option Addr) (n c k : Nat) (sd : Int), Bytes0 w B a n ∧ k ≤ N ∧ 0 ≤ sd ∧ sd < 2147483648 ∧
    w.heap[p]? = some (.cells #[.slice a n c, .int .i64 (k : Int), .int .i64 sd] 90 (0, 0))
def SrcPost (B p N : Nat) (w : World) (lo hi : Int) (e : Ending) (w' : World) : Prop :=
  ∃ v : Int, e = .returned (.int .i64 v) ∧ lo ≤ v ∧ v ≤ hi ∧ Src w' B p N ∧ w.grownBy w' (some p)
theorem heap_set0 {w : World} {p : Nat} {cs : Array Value} {t : TypeId} (h : w.heap[p]? = some (.cells cs t (0, 0))) (i : Nat) (u : Value) : (w.setCell ⟨p, i, none⟩ u).heap[p]? = some (.cells (cs.setIfInBounds i u) t (0, 0)) := by
  simp [World.setCell, Array.getElem?_modify, h]
theorem grown_set (w : World) (p i : Nat) (u : Value) : w.grownBy (w.setCell ⟨p, i, none⟩ u) (some p) :=
  ⟨rfl, rfl, rfl, by simp, fun k _ hk => heap_setCell_other w ⟨p, i, none⟩ k u (fun e => hk (by simp [e]))⟩
theorem Bytes0.kept {w w' : World} {B n p : Nat} {a : Option Addr} (h : Bytes0 w B a n) (g : w.grownBy w' (some p)) (hp : B ≤ p) : Bytes0 w' B a n :=
  ⟨h.1, fun hn => by
    obtain ⟨x, e, hx, hc⟩ := h.2 hn
    refine ⟨x, e, hx, fun i hi => ?_⟩
    obtain ⟨z, z0, z1, hz⟩ := hc i hi
    have hb : (x.add i).block = x.block := by unfold Addr.add; split <;> rfl
    exact ⟨z, z0, z1, g.cell hz (by rw [hb]; intro e; injection e with e; omega)⟩⟩
theorem add_block (x : Addr) (k : Nat) : (x.add k).block = x.block := by unfold Addr.add; split <;> rfl
theorem far_byte {w w' : World} {B p k : Nat} {x : Addr} {v : Value} (g : w.grownBy w' (some p)) (hx : x.block < B) (hp : B ≤ p) (h : w.cell? (x.add k) = some v) : w'.cell? (x.add k) = some v :=
  g.cell h (by rw [add_block]; intro e; injection e with e; omega)
theorem grown_tr {a b c : World} {row : Option Nat} (h : a.grownBy b row) (g : b.grownBy c row) : a.grownBy c row :=
  ⟨g.os.trans h.os, g.tape.trans h.tape, g.output.trans h.output, Nat.le_trans h.size g.size, fun k hk hr => (g.block k (Nat.lt_of_lt_of_le hk h.size) hr).trans (h.block k hk hr)⟩
theorem grown_drewN (w : World) (n : Nat) (row : Option Nat) : w.grownBy (w.drewN n) row := ⟨rfl, rfl, rfl, Nat.le_refl _, fun _ _ _ => rfl⟩
theorem grown_drew (w : World) (row : Option Nat) : w.grownBy w.drew row := ⟨rfl, rfl, rfl, Nat.le_refl _, fun _ _ _ => rfl⟩
set_option maxRecDepth 100000 in
theorem byte_any (B p N : Nat) (w : World) (hS : Src w B p N) (hN : N ≤ 4611686018427387904) :
    Calls Try.prog 73 #[.pointer (some ⟨p, 0, none⟩)] w (SrcPost B p (N + 1) w 0 255) := by
  obtain ⟨hB, hp, a, n, c, k, sd, hby, hk, hs0, hs1, hblk⟩ := hS
  have c0 : w.cell? ⟨p, 0, none⟩ = some (.slice a n c) := cell_of_row w p 0 _ _ (0, 0) hblk
  have c1 : w.cell? ⟨p, 1, none⟩ = some (.int .i64 k) := cell_of_row w p 1 _ _ (0, 0) hblk
  have c2 : w.cell? ⟨p, 2, none⟩ = some (.int .i64 sd) := cell_of_row w p 2 _ _ (0, 0) hblk
  have f1 : w.frozen? ⟨p, 1, none⟩ = false := frozen_of_row w p 1 _ _ hblk
  have f2 : w.frozen? ⟨p, 2, none⟩ = false := frozen_of_row w p 2 _ _ hblk
  have Hblk := Lib.hid hblk
  have hn : (n : Int) ≤ 9223372036854775807 := by have := hby.1; unfold maxLen at this; omega
  have Hby := Lib.hid hby
  clear hblk hby
  by_cases hlt : k < n
  · obtain ⟨x, hx, hxb, hcx⟩ := Hby.out.2 (by omega)
    obtain ⟨z, z0, z1, hcz⟩ := hcx k hlt
    subst hx
    clear hcx
    go_enter Try.func73, Try.ntmps73
    go_wp2
    have g1 := grown_set w p 1 (.int .i64 ((k : Int) + 1))
    have Hblk1 := Lib.hid (heap_set0 Hblk.out 1 (.int .i64 ((k : Int) + 1)))
    generalize w.setCell ⟨p, 1, none⟩ (.int .i64 ((k : Int) + 1)) = W1 at *
    have dz : W1.cell? (x.add k) = some (.int .u8 z) := far_byte g1 hxb hB hcz
    have Hg1 := Lib.hid g1
    have d0 : W1.cell? ⟨p, 0, none⟩ = some (.slice (some x) n c) := cell_of_row W1 p 0 _ _ (0, 0) Hblk1.out
    have d1 : W1.cell? ⟨p, 1, none⟩ = some (.int .i64 ((k : Int) + 1)) := cell_of_row W1 p 1 _ _ (0, 0) Hblk1.out
    have d2 : W1.cell? ⟨p, 2, none⟩ = some (.int .i64 sd) := cell_of_row W1 p 2 _ _ (0, 0) Hblk1.out
    have e2 : W1.frozen? ⟨p, 2, none⟩ = false := frozen_of_row W1 p 2 _ _ Hblk1.out
    clear g1 c0 c1 c2 f1 f2 hcz
    go_quiet (fail)
    go_wp2
    obtain ⟨r, hr, r0, r1⟩ : ∃ r : Int, (sd * 31 + z + 7).tmod 2147483648 = r ∧ 0 ≤ r ∧ r < 2147483648 := ⟨_, rfl, by rw [IntWalk.rem_in _ _ (by omega)]; omega, by rw [IntWalk.rem_in _ _ (by omega)]; omega⟩
    have ni : (k : Int) < (n : Int) := by omega
    have v1 := IntWalk.i64_in (sd * 31) (by omega)
    have v2 := IntWalk.i64_in (k : Int) (by omega)
    have v3 := IntWalk.i64_in (sd * 31 + z) (by omega)
    have v4 := IntWalk.i64_in (sd * 31 + z + 7) (by omega)
    have v5 := IntWalk.i64_in z (by omega)
    refine wp_region_still_tail 23 (by kernel_rfl) (by kernel_rfl) ?_
    change wpStill _ _ (World.drew _) (fun a' => wpList _ _ _ _ a' (World.drew _)) _ _
    simp only [List.take_succ_cons, List.take_zero, List.drop_succ_cons, List.drop_zero]
    repeat still_step
    try refine wpStill_nil ?_
    clear v1 v2 v3 v4 v5 hr
    have Hblk2 : Hid (((W1.drewN nq).drew).heap[p]? = _) := Hblk1
    have Hg2 : Hid (w.grownBy ((W1.drewN nq).drew) (some p)) := Lib.hid (grown_tr Hg1.out (grown_tr (grown_drewN W1 nq _) (grown_drew _ _)))
    have dz2 : ((W1.drewN nq).drew).cell? (x.add k) = some (.int .u8 z) := dz
    have d22 : ((W1.drewN nq).drew).cell? ⟨p, 2, none⟩ = some (.int .i64 sd) := d2
    have e22 : ((W1.drewN nq).drew).frozen? ⟨p, 2, none⟩ = false := e2
    generalize (W1.drewN nq).drew = W2 at *
    clear dz d0 d1 d2 e2 Hblk1 Hg1
    go_wp2
    have Hblk3 := Lib.hid (heap_set0 Hblk2.out 2 (.int .i64 r))
    have Hg3 := Lib.hid (grown_tr Hg2.out (grown_set W2 p 2 (.int .i64 r)))
    have dz3 := far_byte (grown_set W2 p 2 (.int .i64 r)) hxb hB dz2
    clear dz2 d22 e22
    generalize W2.setCell ⟨p, 2, none⟩ (.int .i64 r) = W3 at *
    have d0 : W3.cell? ⟨p, 0, none⟩ = some (.slice (some x) n c) := cell_of_row W3 p 0 _ _ (0, 0) Hblk3.out
    have d1 : W3.cell? ⟨p, 1, none⟩ = some (.int .i64 ((k : Int) + 1)) := cell_of_row W3 p 1 _ _ (0, 0) Hblk3.out
    have v2 := IntWalk.i64_in (k : Int) (by omega)
    have v5 := IntWalk.i64_in z (by omega)
    go_quiet (fail)
    clear v2 v5
    go_wp2
    go_ret
    have hg4 := grown_tr Hg3.out (grown_drewN W3 nq _)
    exact ⟨z, rfl, z0, z1, ⟨hB, Nat.lt_of_lt_of_le hp hg4.size, some x, n, c, k + 1, r, Hby.out.kept hg4 hB, by omega, r0, r1, Hblk3.out⟩, hg4⟩
  · obtain ⟨r, hr, r0, r1⟩ : ∃ r : Int, (sd * 1103515245 + 12345).tmod 2147483648 = r ∧ 0 ≤ r ∧ r < 2147483648 := ⟨_, rfl, by rw [IntWalk.rem_in _ _ (by omega)]; omega, by rw [IntWalk.rem_in _ _ (by omega)]; omega⟩
    go_enter Try.func73, Try.ntmps73
    go_wp2
    have g1 := grown_set w p 1 (.int .i64 ((k : Int) + 1))
    have Hblk1 := Lib.hid (heap_set0 Hblk.out 1 (.int .i64 ((k : Int) + 1)))
    generalize w.setCell ⟨p, 1, none⟩ (.int .i64 ((k : Int) + 1)) = W1 at *
    have Hg1 := Lib.hid g1
    have d0 : W1.cell? ⟨p, 0, none⟩ = some (.slice a n c) := cell_of_row W1 p 0 _ _ (0, 0) Hblk1.out
    have d1 : W1.cell? ⟨p, 1, none⟩ = some (.int .i64 ((k : Int) + 1)) := cell_of_row W1 p 1 _ _ (0, 0) Hblk1.out
    have d2 : W1.cell? ⟨p, 2, none⟩ = some (.int .i64 sd) := cell_of_row W1 p 2 _ _ (0, 0) Hblk1.out
    have e2 : W1.frozen? ⟨p, 2, none⟩ = false := frozen_of_row W1 p 2 _ _ Hblk1.out
    clear g1 c0 c1 c2 f1 f2 hr
    go_quiet (fail)
    have Hblk2 : Hid ((W1.drewN nq).heap[p]? = _) := Hblk1
    have Hg2 : Hid (w.grownBy (W1.drewN nq) (some p)) := Lib.hid (grown_tr Hg1.out (grown_drewN W1 nq _))
    have d12 : (W1.drewN nq).cell? ⟨p, 1, none⟩ = some (.int .i64 ((k : Int) + 1)) := d1
    have d22 : (W1.drewN nq).cell? ⟨p, 2, none⟩ = some (.int .i64 sd) := d2
    have e22 : (W1.drewN nq).frozen? ⟨p, 2, none⟩ = false := e2
    generalize W1.drewN nq = W2 at *
    clear d0 d1 d2 e2 Hblk1 Hg1
    go_wp2
    · go_ret
      exact ⟨0, rfl, by omega, by omega, ⟨hB, Nat.lt_of_lt_of_le hp Hg2.out.size, a, n, c, k + 1, sd, Hby.out.kept Hg2.out hB, by omega, hs0, hs1, Hblk2.out⟩, Hg2.out⟩
    · have Hg3 := grown_tr Hg2.out (grown_set W2 p 2 (.int .i64 ((sd * 1103515245 + 12345) % 2147483648)))
      have Hblk3 := heap_set0 Hblk2.out 2 (.int .i64 ((sd * 1103515245 + 12345) % 2147483648))
      go_ret
      exact ⟨_, rfl, by omega, by omega, ⟨hB, Nat.lt_of_lt_of_le hp Hg3.size, a, n, c, k + 1, _, Hby.out.kept Hg3 hB, by omega, by omega, by omega, Hblk3⟩, Hg3⟩
/-- A new source. -/
theorem source_any (a : Option Addr) (n c : Nat) (w : World) (h : Bytes0 w w.heap.size a n) :
    Calls Try.prog 61 #[.slice a n c] w fun e w' => e = .returned (.pointer (some ⟨w.heap.size, 0, none⟩)) ∧ Src w' w.heap.size w.heap.size 0 ∧ Below w.heap.size w w' := by
  have hn : (n : Int) ≤ 9223372036854775807 := by have := h.1; unfold maxLen at this; omega
  have H := Lib.hid h
  go_enter Try.func61, Try.ntmps61
  go_wp2
  go_ret
  have hb := (Below.refl w.heap.size w).alloc (Nat.le_refl _) (.cells #[.slice a n c, .int .i64 0, .int .i64 ((n : Int) % 1000)] 90)
  refine ⟨rfl, ⟨Nat.le_refl _, by simp, a, n, c, 0, (n : Int) % 1000, ⟨h.1, fun hn => ?_⟩, Nat.le_refl _, by omega, by omega, heap_alloc_new w _⟩, hb⟩
  obtain ⟨x, e, hx, hc⟩ := H.out.2 hn
  refine ⟨x, e, hx, fun i hi => ?_⟩
  obtain ⟨z, z0, z1, hz⟩ := hc i hi
  exact ⟨z, z0, z1, (hb.cell (by rw [add_block]; exact hx)).trans hz⟩
end Go.Proofs.Ytgbnoaclklbjbaa
