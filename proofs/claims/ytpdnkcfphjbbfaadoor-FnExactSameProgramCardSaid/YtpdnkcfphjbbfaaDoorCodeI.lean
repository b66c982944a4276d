/- CodeText of impl; the law on CodeText. -/
import Derived.Test.YtpdnkcfphjbbfaaDoorCode
import Derived.Deep.DeepMust
import Derived.Outline
namespace Go.Proofs.YtpdnkcfphjbbfaaDoor
open Go.ChangeShapes Go.WideShapes Go.ChangeAt Go.RowKit
theorem own_bel {w w' : World} {B size n : Nat} {e : TypeId} {v : Value} {xs : List Value} (h : w.ownsRow B e size v n xs) (hb : Below w.heap.size w w') : w'.ownsRow B e size v n xs :=
  h.kept (row := none) ⟨hb.os, hb.tape, hb.output, hb.size, fun k hk _ => hb.block k hk⟩ (by cases v.ownBlock <;> simp)
theorem str_u8s (l : List UInt8) : Lib.strCells ⟨l.toArray⟩ = u8s l := by simp [Lib.strCells, u8s]
theorem putTo_one (k : Nat) (h : k ≤ 26) : u8s (putTo (k : Int) 1) = [.int .u8 (k : Int)] := by
  show [Value.int .u8 ((bytN (k : Int) 0).toNat : Int)] = _
  rw [bytN_nat]
  simp
  omega
theorem own_cast {w : World} {B size n m : Nat} {e : TypeId} {v : Value} {xs ys : List Value} (h : w.ownsRow B e size v n xs) (hn : n = m) (hx : xs = ys) : w.ownsRow B e size v m ys := hn ▸ hx ▸ h
def AppPost (W0 : World) (l : List UInt8) (e : Ending) (w' : World) : Prop :=
  ∃ v', e = .returned v' ∧ w'.ownsRow W0.heap.size 5 1 v' l.length (u8s l) ∧ Below W0.heap.size W0 w'
set_option maxHeartbeats 1000000 in
theorem box_keep {w w1 : World} {x y : Value} {t : TypeId} {o : Obj} {row : Option Nat} (g : ((w.alloc (.cells #[x, y] t)).alloc o).grownBy w1 row) (hne : row ≠ some w.heap.size) : w1.cell? ⟨w.heap.size, 0, none⟩ = some x ∧ w1.cell? ⟨w.heap.size, 1, none⟩ = some y := by
  have hk0 : ((w.alloc (.cells #[x, y] t)).alloc o).heap[w.heap.size]? = some (.cells #[x, y] t (0, 0)) := heap_keep (heap_alloc_new w _)
  have hk : w1.heap[w.heap.size]? = some (.cells #[x, y] t (0, 0)) := (g.block w.heap.size (by simp; omega) (fun e => hne e.symm)).trans hk0
  exact ⟨cell_of_row _ _ 0 _ _ _ hk, cell_of_row _ _ 1 _ _ _ hk⟩
theorem came_ins {W : World} {a : Option Addr} {n c : Nat} (h : Came Tryd.prog W 66 [.slice a n c]) : n ≤ maxLen ∧ n ≤ c ∧ ∃ zs : List (Int × Int), zs.length = n ∧ Lies W a (flat insC zs) :=
  lies_came insC insC_len (by decide) Tryd.underlying66 cLaw (fun es g => by
    obtain ⟨n, a, e, _, _⟩ := came_lawInstr (cs := es.toArray) (by simpa using g)
    exact ⟨(n, a), by have := congrArg Array.toList e; simpa [insC] using this⟩) h
end Go.Proofs.YtpdnkcfphjbbfaaDoor
