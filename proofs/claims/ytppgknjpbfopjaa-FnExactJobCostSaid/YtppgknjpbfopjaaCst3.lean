/- Behind, Either, Times, LongestOf, OneCost of impl and of spec. -/
import Derived.Test.YtppgknjpbfopjaaCst2
namespace Go.Proofs.Ytppgknjpbfopjaa
open Go.ChangeShapes Go.WideShapes Go.ChangeAt Go.RowKit
abbrev sm0 : SM := ⟨0, 0, 0, 0, 0⟩
def behF (a b : SM) : SM × Int := if (smOK a && smOK b) = true then (beh a b, 0) else (sm0, 1)
def eithF (a b : SM) : SM × Int := if (smOK a && smOK b) = true then (eith a b, 0) else (sm0, 1)
def timsF (a : SM) (n : Int) : SM × Int := if smOK a = true then (if 0 ≤ n ∧ n ≤ 20 then (tims a n.toNat, 0) else (sm0, 4)) else (sm0, 1)
def longF (a : SM) : Int × Int := if smOK a = true then (longest a, 0) else (0, 1)
def oneF (n : Int) (c : Bool) : SM × Int := if inZ n 0 2147483647 = true then (one n c, 0) else (sm0, 4)
/-- A summary and a code, as two results. -/
abbrev smR (r : SM × Int) : Value := .tuple #[smV r.1, .int .i64 r.2]
/-- Three blocks of a call's own; what is older is as it was. -/
def Trio (w : World) (O O' O'' : Obj) (w' : World) : Prop := w'.heap[w.heap.size]? = some O ∧ w'.heap[w.heap.size + 1]? = some O' ∧ w'.heap[w.heap.size + 1 + 1]? = some O'' ∧ Below w.heap.size w w'
theorem bl_new (w : World) (cs : Array Value) (t : TypeId) : (w.alloc (.cells cs t)).heap[w.heap.size]? = some (.cells cs t (0, 0)) := heap_alloc_new w _
theorem trio_new (w : World) (a b c : Array Value) (t u v : TypeId) : Trio w (.cells a t) (.cells b u) (.cells c v) (((w.alloc (.cells a t)).alloc (.cells b u)).alloc (.cells c v)) :=
  ⟨bl_al (bl_al (heap_alloc_new w _) _) _, bl_al (by have := heap_alloc_new (w.alloc (.cells a t)) (.cells b u); simpa using this) _, by have := heap_alloc_new ((w.alloc (.cells a t)).alloc (.cells b u)) (.cells c v); simpa using this, sm_al3 w _ _ _⟩
theorem Trio.bel {w w1 w2 : World} {O O' O'' : Obj} (h : Trio w O O' O'' w1) (g : Below w1.heap.size w1 w2) : Trio w O O' O'' w2 :=
  have lt : ∀ {k : Nat} {Q : Obj}, w1.heap[k]? = some Q → w2.heap[k]? = some Q := fun hk => (g.block _ (Array.getElem?_eq_some_iff.1 hk).1).trans hk
  ⟨lt h.1, lt h.2.1, lt h.2.2.1, h.2.2.2.trans (g.mono h.2.2.2.size)⟩
/-- Two blocks. -/
def Duo (w : World) (O O' : Obj) (w' : World) : Prop := w'.heap[w.heap.size]? = some O ∧ w'.heap[w.heap.size + 1]? = some O' ∧ Below w.heap.size w w'
theorem duo_new (w : World) (a b : Array Value) (t u : TypeId) : Duo w (.cells a t) (.cells b u) ((w.alloc (.cells a t)).alloc (.cells b u)) :=
  ⟨bl_al (heap_alloc_new w _) _, by have := heap_alloc_new (w.alloc (.cells a t)) (.cells b u); simpa using this, sm_al2 w _ _⟩
theorem Duo.bel {w w1 w2 : World} {O O' : Obj} (h : Duo w O O' w1) (g : Below w1.heap.size w1 w2) : Duo w O O' w2 :=
  have lt : ∀ {k : Nat} {Q : Obj}, w1.heap[k]? = some Q → w2.heap[k]? = some Q := fun hk => (g.block _ (Array.getElem?_eq_some_iff.1 hk).1).trans hk
  ⟨lt h.1, lt h.2.1, h.2.2.trans (g.mono h.2.2.size)⟩
theorem ok_of {a : SM} (h : smOK a = true) : a.ok := of_decide_eq_true h
theorem ret_ij {a b c d : Int} (h : a = b) (g : c = d) : Ending.returned (.tuple #[.int .i64 a, .int .i64 c]) = .returned (.tuple #[.int .i64 b, .int .i64 d]) := by rw [h, g]
theorem longest_eq (a : SM) : longest a = max (max (max a.n a.h) a.l) a.i := by unfold longest; omega
end Go.Proofs.Ytppgknjpbfopjaa
