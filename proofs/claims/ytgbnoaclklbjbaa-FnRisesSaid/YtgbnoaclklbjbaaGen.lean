/- What many texts share: boxes, two boxes, what came in as a struct, lists compared. Over any program. -/
import Derived.Test.YtgbnoaclklbjbaaInts
namespace Go.Proofs.Ytgbnoaclklbjbaa
open Go.ChangeShapes Go.WideShapes Go.ChangeAt Go.RowKit
set_option linter.unusedVariables false
theorem rb_eq {a b : Bool} (h : a = b) : Ending.returned (.bool a) = .returned (.bool b) := by rw [h]
theorem dbox (w : World) (O : Obj) : Below w.heap.size w (w.alloc O) := (Below.refl w.heap.size w).alloc (Nat.le_refl _) O
theorem blk_bel {w w' : World} {k : Nat} {O : Obj} (h : w.heap[k]? = some O) (hb : Below w.heap.size w w') : w'.heap[k]? = some O := (hb.block k (Array.getElem?_eq_some_iff.1 h).1).trans h
theorem own_far {w : World} {p i : Nat} {base : Nat} {e : TypeId} {size n c : Nat} {a : Option Addr} {xs : List Value} (h : w.ownsRow base e size (.slice a n c) n xs) (hp : p < base) (u : Value) : (w.setCell ⟨p, i, none⟩ u).ownsRow base e size (.slice a n c) n xs :=
  ownsRow_setCell_below h (a := ⟨p, i, none⟩) hp u
theorem blk_far {w : World} {p i k : Nat} {O : Obj} (h : w.heap[k]? = some O) (hp : k ≠ p) (u : Value) : (w.setCell ⟨p, i, none⟩ u).heap[k]? = some O :=
  (Below.heap_setCell w ⟨p, i, none⟩ u k hp).trans h
theorem bel_set {B : Nat} {w w' : World} (h : Below B w w') {p i : Nat} (hp : B ≤ p) (u : Value) : Below B w (w'.setCell ⟨p, i, none⟩ u) := h.setCell (p := ⟨p, i, none⟩) hp u
/-- What was there, and the argument's box. -/
structure Bx (w : World) (O : Obj) (X : World) : Prop where
  bel : Below w.heap.size w X
  box : X.heap[w.heap.size]? = some O
theorem Bx.start (w : World) (O : Obj) : Bx w O (w.alloc O) := ⟨dbox w O, heap_alloc_new w O⟩
theorem Bx.to {w X Y : World} {O : Obj} (h : Bx w O X) (hb : Below X.heap.size X Y) : Bx w O Y := ⟨h.bel.trans (hb.mono h.bel.size), blk_bel h.box hb⟩
/-- Two boxes, and what was there. -/
structure Bx2 (w : World) (O O' : Obj) (X : World) : Prop where
  bel : Below w.heap.size w X
  box : X.heap[w.heap.size]? = some O
  box2 : X.heap[w.heap.size + 1]? = some O'
theorem Bx2.start (w : World) (O O' : Obj) : Bx2 w O O' ((w.alloc O).alloc O') := ⟨((Below.refl w.heap.size w).alloc (Nat.le_refl _) O).alloc (by simp) O', heap_alloc2_old w O O', heap_alloc2_new w O O'⟩
theorem Bx2.to {w X Y : World} {O O' : Obj} (h : Bx2 w O O' X) (hb : Below X.heap.size X Y) : Bx2 w O O' Y := ⟨h.bel.trans (hb.mono h.bel.size), blk_bel h.box hb, blk_bel h.box2 hb⟩
theorem four_of' {α : Type} {l : List α} (h : l.length = 4) : ∃ x0 x1 x2 x3, l = [x0, x1, x2, x3] := by
  match l, h with
  | [x0, x1, x2, x3], _ => exact ⟨x0, x1, x2, x3, rfl⟩
theorem came_slv {P : Program} {W : World} {t e : TypeId} {v : Value} (ht : P.underlying t = some (.slice e)) (h : Came P W t [v]) : ∃ a n c, v = .slice a n c := by
  rcases came_slice ht h with h0 | ⟨x, len, cap, h0, _⟩
  · exact ⟨none, 0, 0, by simpa using h0⟩
  · exact ⟨some x, len, cap, by simpa using h0⟩
theorem eql_len {α : Type} [DecidableEq α] {l m : List α} (h : l.length ≠ m.length) : decide (l = m) = false := decide_eq_false (fun e => h (by rw [e]))
theorem eql_no {α : Type} [DecidableEq α] {l m : List α} {j : Nat} {d : α} (h : l.getD j d ≠ m.getD j d) : decide (l = m) = false := decide_eq_false (fun e => h (by rw [e]))
theorem eql_yes {α : Type} [DecidableEq α] {l m : List α} (d : α) (h : l.length = m.length) (g : ∀ j, j < l.length → l.getD j d = m.getD j d) : decide (l = m) = true := decide_eq_true (by
  apply List.ext_getElem h
  intro i h1 h2
  have := g i h1
  simpa [List.getD, h1, h2] using this)
theorem two_of {α : Type} {l : List α} (h : l.length = 2) : ∃ x0 x1, l = [x0, x1] := by
  match l, h with
  | [x0, x1], _ => exact ⟨x0, x1, rfl⟩
theorem came_struct2 {P : Program} {W : World} {t : TypeId} {cs : List Value} {f0 f1 : Field} (ht : P.underlying t = some (.struct #[f0, f1])) (hc : P.cellsOf t = 2)
    (o : f0.offset = 0 ∧ f1.offset = 1) (g : P.cellsOf f0.type = 1 ∧ P.cellsOf f1.type = 1) (h : Came P W t cs) :
    ∃ x0 x1, cs = [x0, x1] ∧ Came P W f0.type [x0] ∧ Came P W f1.type [x1] := by
  obtain ⟨hl, hf⟩ := came_struct ht h
  obtain ⟨x0, x1, rfl⟩ := two_of (hl.trans hc)
  obtain ⟨o0, o1⟩ := o
  obtain ⟨g0, g1⟩ := g
  have h0 := hf 0 f0 rfl
  rw [o0, g0] at h0
  have h1 := hf 1 f1 rfl
  rw [o1, g1] at h1
  exact ⟨x0, x1, rfl, h0, h1⟩
theorem three_of {α : Type} {l : List α} (h : l.length = 3) : ∃ x0 x1 x2, l = [x0, x1, x2] := by
  match l, h with
  | [x0, x1, x2], _ => exact ⟨x0, x1, x2, rfl⟩
theorem came_struct3 {P : Program} {W : World} {t : TypeId} {cs : List Value} {f0 f1 f2 : Field} (ht : P.underlying t = some (.struct #[f0, f1, f2])) (hc : P.cellsOf t = 3)
    (o : f0.offset = 0 ∧ f1.offset = 1 ∧ f2.offset = 2) (g : P.cellsOf f0.type = 1 ∧ P.cellsOf f1.type = 1 ∧ P.cellsOf f2.type = 1) (h : Came P W t cs) :
    ∃ x0 x1 x2, cs = [x0, x1, x2] ∧ Came P W f0.type [x0] ∧ Came P W f1.type [x1] ∧ Came P W f2.type [x2] := by
  obtain ⟨hl, hf⟩ := came_struct ht h
  obtain ⟨x0, x1, x2, rfl⟩ := three_of (hl.trans hc)
  obtain ⟨o0, o1, o2⟩ := o
  obtain ⟨g0, g1, g2⟩ := g
  have h0 := hf 0 f0 rfl
  rw [o0, g0] at h0
  have h1 := hf 1 f1 rfl
  rw [o1, g1] at h1
  have h2 := hf 2 f2 rfl
  rw [o2, g2] at h2
  exact ⟨x0, x1, x2, rfl, h0, h1, h2⟩
/-- Between two block numbers much may have changed; below, and from the second on, nothing. -/
structure Mid (lo hi : Nat) (w w' : World) : Prop where
  os : w'.os = w.os
  tape : w'.tape = w.tape
  output : w'.output = w.output
  size : w.heap.size ≤ w'.heap.size
  block : ∀ k, k < w.heap.size → (k < lo ∨ hi ≤ k) → w'.heap[k]? = w.heap[k]?
theorem Mid.refl (lo hi : Nat) (w : World) : Mid lo hi w w := ⟨rfl, rfl, rfl, Nat.le_refl _, fun _ _ _ => rfl⟩
theorem Mid.trans {lo hi : Nat} {a b c : World} (h : Mid lo hi a b) (g : Mid lo hi b c) : Mid lo hi a c :=
  ⟨g.os.trans h.os, g.tape.trans h.tape, g.output.trans h.output, Nat.le_trans h.size g.size, fun k hk hr => (g.block k (Nat.lt_of_lt_of_le hk h.size) hr).trans (h.block k hk hr)⟩
theorem Mid.of_grown {lo hi : Nat} {w w' : World} {row : Option Nat} (h : w.grownBy w' row) (hr : ∀ g, row = some g → lo ≤ g ∧ g < hi) : Mid lo hi w w' :=
  ⟨h.os, h.tape, h.output, h.size, fun k hk hk2 => h.block k hk (fun e => by have := hr k e.symm; omega)⟩
theorem Mid.of_bel {lo hi : Nat} {w w' : World} (h : Below w.heap.size w w') : Mid lo hi w w' := ⟨h.os, h.tape, h.output, h.size, fun k hk _ => h.block k hk⟩
theorem Mid.below {lo hi : Nat} {w w' : World} (h : Mid lo hi w w') (hl : lo ≤ w.heap.size) : Below lo w w' := ⟨h.os, h.tape, h.output, h.size, fun k hk => h.block k (Nat.lt_of_lt_of_le hk hl) (.inl hk)⟩
theorem Mid.at {lo hi k : Nat} {w w' : World} {O : Obj} (h : Mid lo hi w w') (g : w.heap[k]? = some O) (hk : k < lo ∨ hi ≤ k) : w'.heap[k]? = some O := (h.block k (Array.getElem?_eq_some_iff.1 g).1 hk).trans g
/-- A row elsewhere. -/
theorem Mid.own {lo hi B size n c : Nat} {e : TypeId} {a : Option Addr} {xs : List Value} {w w' : World} (h : Mid lo hi w w') (o : w.ownsRow B e size (.slice a n c) n xs) (hk : ∀ x, a = some x → x.block < lo ∨ hi ≤ x.block) : w'.ownsRow B e size (.slice a n c) n xs := by
  refine ⟨o.1, ?_⟩
  rcases o.2 with h0 | ⟨g, cap, cur, h1, h2, h3, h4⟩
  · exact .inl h0
  · simp only [Value.slice.injEq] at h1
    refine .inr ⟨g, cap, cur, by rw [h1.1, h1.2.2], h2, h.at h3 (hk _ h1.1), h4⟩
theorem Mid.lies {lo hi : Nat} {a : Option Addr} {cs : List Value} {w w' : World} (h : Mid lo hi w w') (o : Lies w a cs) (hk : ∀ x, a = some x → x.block < lo ∨ hi ≤ x.block) : Lies w' a cs := by
  rcases o with o | ⟨b, q, e, o⟩
  · exact .inl o
  · exact .inr ⟨b, q, e, fun j v hj => (World.cell?_of_block (h.block b (cells_lt (o j v hj)) (hk _ e))).trans (o j v hj)⟩
end Go.Proofs.Ytgbnoaclklbjbaa
