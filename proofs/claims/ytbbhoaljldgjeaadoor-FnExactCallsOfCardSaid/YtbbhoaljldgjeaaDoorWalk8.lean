/- A walk of impl's verifier: what its memory holds behind each change; the plain verifier's state. -/
import Derived.Test.YtbbhoaljldgjeaaDoorWalk5
import Derived.Test.YtbbhoaljldgjeaaDoorWalk6
import Derived.Test.YtbbhoaljldgjeaaDoorWalk7
import Derived.Test.YtbbhoaljldgjeaaDoorVer
import Derived.OneCell
namespace Go.Proofs.YtbbhoaljldgjeaaDoor
open Go.ChangeShapes Go.WideShapes Go.ChangeAt Go.RowKit
set_option linter.unusedVariables false
theorem own_ne {w : World} {B size n p : Nat} {e t : TypeId} {v : Value} {xs : List Value} {cs : Array Value} {fz : Nat × Nat} (h : w.ownsRow B e size v n xs) (hp : w.heap[p]? = some (.cells cs t fz)) (ht : t ≠ e) : v.ownBlock ≠ some p := by
  intro hv
  obtain ⟨c, f, hc⟩ := Lib.ownsRow_kind h p hv
  rw [hp] at hc
  simp only [Option.some.injEq, Obj.cells.injEq] at hc
  exact ht hc.2.1
theorem own_ne2 {w : World} {B size n B' size' n' : Nat} {e t : TypeId} {v v' : Value} {xs xs' : List Value} (h : w.ownsRow B e size v n xs) (h' : w.ownsRow B' t size' v' n' xs') (ht : t ≠ e) : v.ownBlock = none ∨ v.ownBlock ≠ v'.ownBlock := by
  cases hv : v.ownBlock with
  | none => exact .inl rfl
  | some g =>
    refine .inr fun e' => ?_
    obtain ⟨c, f, hc⟩ := Lib.ownsRow_kind h' g e'.symm
    exact own_ne h hc ht hv
theorem wk_set {w : World} {p : Nat} {cs : Array Value} {t : TypeId} (h : w.heap[p]? = some (.cells cs t (0, 0))) (i : Nat) (u : Value) : (w.setCell ⟨p, i, none⟩ u).heap[p]? = some (.cells (cs.setIfInBounds i u) t (0, 0)) := by
  simp [World.setCell, Array.getElem?_modify, h]
theorem own_less {w : World} {B size g r k c : Nat} {e : TypeId} {xs ys : List Value} (h : w.ownsRow B e size (.slice (some ⟨g, 0, none⟩) (r + k) c) (r + k) (xs ++ ys)) (hx : xs.length = r * size) : w.ownsRow B e size (.slice (some ⟨g, 0, none⟩) r c) r xs := by
  obtain ⟨h1, h2⟩ := h
  refine ⟨hx, ?_⟩
  rcases h2 with ⟨h0, _⟩ | ⟨g', cap, cur, h0, hb, hg, hn, hm, hs, ht⟩
  · simp at h0
  · simp only [Value.slice.injEq, Option.some.injEq, Addr.mk.injEq, and_true, true_and] at h0
    obtain ⟨rfl, rfl⟩ := h0
    refine .inr ⟨g, c, cur, rfl, hb, hg, by omega, hm, hs, ?_⟩
    have h3 := congrArg (List.take (r * size)) ht
    rw [List.take_take, Nat.min_eq_left (Nat.mul_le_mul_right _ (by omega)), ← hx, List.take_left'] at h3
    · rw [← hx]; exact h3
    · rfl
theorem own_dn {w : World} {B size n : Nat} {e : TypeId} {v : Value} {xs : List Value} (h : w.ownsRow B e size v n xs) (q : Nat) : (w.drewN q).ownsRow B e size v n xs := h
theorem own_bl {w w' : World} {B size n : Nat} {e : TypeId} {v : Value} {xs : List Value} (h : w.ownsRow B e size v n xs) (hb : Below w.heap.size w w') : w'.ownsRow B e size v n xs :=
  h.kept (row := none) ⟨hb.os, hb.tape, hb.output, hb.size, fun k hk _ => hb.block k hk⟩ (by cases v.ownBlock <;> simp)
/-- Whatever is no part of a walk stays as it is. -/
def Keeps (w w' : World) : Prop := ∀ (k : Nat) (cs : Array Value) (t : TypeId) (fz : Nat × Nat), w.heap[k]? = some (.cells cs t fz) → t ≠ 67 → t ≠ 5 → t ≠ 117 → w'.heap[k]? = some (.cells cs t fz)
theorem Keeps.refl (w : World) : Keeps w w := fun _ _ _ _ h _ _ _ => h
theorem Keeps.trans {a b c : World} (h : Keeps a b) (g : Keeps b c) : Keeps a c := fun k cs t fz e h1 h2 h3 => g k cs t fz (h k cs t fz e h1 h2 h3) h1 h2 h3
theorem Keeps.dn {a b : World} (h : Keeps a b) (q : Nat) : Keeps a (b.drewN q) := h
theorem Keeps.alloc {a b : World} (h : Keeps a b) (O : Obj) : Keeps a (b.alloc O) := fun k cs t fz e h1 h2 h3 => by
  have g := h k cs t fz e h1 h2 h3
  rw [Below.heap_alloc b O k (Array.getElem?_eq_some_iff.1 g).1]
  exact g
/-- A part of a walk. -/
def Part (t : TypeId) : Prop := t = 67 ∨ t = 5 ∨ t = 117
theorem Keeps.set {a b : World} (h : Keeps a b) {p i : Nat} {u : Value} {cs : Array Value} {t : TypeId} {fz : Nat × Nat} (hp : b.heap[p]? = some (.cells cs t fz)) (ht : Part t) : Keeps a (b.setCell ⟨p, i, none⟩ u) := fun k cs' t' fz' e h1 h2 h3 => by
  have g := h k cs' t' fz' e h1 h2 h3
  rw [heap_setCell_other _ _ _ _ (fun e' => ?_)]
  · exact g
  · simp only at e'
    subst e'
    rw [hp] at g
    simp only [Option.some.injEq, Obj.cells.injEq] at g
    obtain ⟨_, rfl, _⟩ := g
    rcases ht with r | r | r
    · exact h1 r
    · exact h2 r
    · exact h3 r
theorem Keeps.grown {a b c : World} {row : Option Nat} (h : Keeps a b) (hg : b.grownBy c row) (hr : ∀ g : Nat, row = some g → ∃ (cs : Array Value) (t : TypeId) (fz : Nat × Nat), b.heap[g]? = some (.cells cs t fz) ∧ Part t) : Keeps a c := fun k cs' t' fz' e h1 h2 h3 => by
  have g := h k cs' t' fz' e h1 h2 h3
  rw [hg.block k (Array.getElem?_eq_some_iff.1 g).1 (fun e' => ?_)]
  · exact g
  · obtain ⟨cs, t, fz, hb, ht⟩ := hr k e'.symm
    rw [hb] at g
    simp only [Option.some.injEq, Obj.cells.injEq] at g
    obtain ⟨_, rfl, _⟩ := g
    rcases ht with r | r | r
    · exact h1 r
    · exact h2 r
    · exact h3 r
theorem own_part {w : World} {B size n : Nat} {e : TypeId} {v : Value} {xs : List Value} (h : w.ownsRow B e size v n xs) (he : Part e) : ∀ g : Nat, v.ownBlock = some g → ∃ (cs : Array Value) (t : TypeId) (fz : Nat × Nat), w.heap[g]? = some (.cells cs t fz) ∧ Part t := fun g hg => by
  obtain ⟨c, f, hc⟩ := Lib.ownsRow_kind h g hg
  exact ⟨c, e, f, hc, he⟩
/-- What is below B, and what is no part of a walk. -/
def Fr (B : Nat) (w w' : World) : Prop := Below B w w' ∧ Keeps w w'
section
variable {B p : Nat} {K : Value} {r i : Int} {a a' : Option Addr} {n c n' c' : Nat} {stk : List UInt8} {opn : List SO} {w w' : World}
theorem WAt.bel (h : WAt B p K r i a n c a' n' c' stk opn w) (hb : Below w.heap.size w w') : WAt B p K r i a n c a' n' c' stk opn w' :=
  ⟨h.base, (hb.block p h.plt).trans h.blk, own_bl h.stack hb, own_bl h.opens hb⟩
theorem WAt.dn (h : WAt B p K r i a n c a' n' c' stk opn w) (q : Nat) : WAt B p K r i a n c a' n' c' stk opn (w.drewN q) := ⟨h.base, h.blk, h.stack, h.opens⟩
theorem WAt.nes (h : WAt B p K r i a n c a' n' c' stk opn w) : Value.ownBlock (.slice a n c) ≠ some p := own_ne h.stack h.blk (by decide)
theorem WAt.neo (h : WAt B p K r i a n c a' n' c' stk opn w) : Value.ownBlock (.slice a' n' c') ≠ some p := own_ne h.opens h.blk (by decide)
theorem WAt.low (h : WAt B p K r i a n c a' n' c' stk opn w) : B ≤ w.heap.size := Nat.le_of_lt (Nat.lt_of_le_of_lt h.base h.plt)
/-- The index moves on. -/
theorem WAt.next (h : WAt B p K r i a n c a' n' c' stk opn w) (j : Int) : WAt B p K r j a n c a' n' c' stk opn (w.setCell ⟨p, 2, none⟩ (.int .i64 j)) ∧ Fr B w (w.setCell ⟨p, 2, none⟩ (.int .i64 j)) :=
  ⟨⟨h.base, by simpa using wk_set h.blk 2 (.int .i64 j), ownsRow_setCell_other h.stack h.nes _, ownsRow_setCell_other h.opens h.neo _⟩, (Below.refl B w).setCell (p := ⟨p, 2, none⟩) h.base _, (Keeps.refl w).set h.blk (.inl rfl)⟩
/-- The stack gets shorter. -/
theorem WAt.popped {g k : Nat} {st tk : List UInt8} (h : WAt B p K r i (some ⟨g, 0, none⟩) (n + k) c a' n' c' (st ++ tk) opn w) (hst : st.length = n) (q : Nat) :
    WAt B p K r i (some ⟨g, 0, none⟩) n c a' n' c' st opn ((w.drewN q).setCell ⟨p, 3, none⟩ (.slice (some ⟨g, 0, none⟩) n c)) ∧ Fr B w ((w.drewN q).setCell ⟨p, 3, none⟩ (.slice (some ⟨g, 0, none⟩) n c)) := by
  have h' := h.dn q
  have hs : w.ownsRow B 5 1 (.slice (some ⟨g, 0, none⟩) (n + k) c) (n + k) (u8s st ++ u8s tk) := by
    have := h.stack
    rwa [show u8s (st ++ tk) = u8s st ++ u8s tk by simp [u8s]] at this
  refine ⟨⟨h.base, by simpa using wk_set h'.blk 3 (.slice (some ⟨g, 0, none⟩) n c), ownsRow_setCell_other (a := ⟨p, 3, none⟩) (own_dn (own_less hs (by rw [u8s_len]; omega)) q) (show Value.ownBlock (.slice (some ⟨g, 0, none⟩) n c) ≠ some p from h.nes) _, ownsRow_setCell_other h'.opens h.neo _⟩, ?_⟩
  exact ⟨(bel_dn (Below.refl B w) q).setCell (p := ⟨p, 3, none⟩) h.base _, ((Keeps.refl w).dn q).set h.blk (.inl rfl)⟩
/-- The stack, nil, stays as it is. -/
theorem WAt.popnil (h : WAt B p K r i none 0 0 a' n' c' stk opn w) (q : Nat) :
    WAt B p K r i none 0 0 a' n' c' stk opn ((w.drewN q).setCell ⟨p, 3, none⟩ (.slice none 0 0)) ∧ Fr B w ((w.drewN q).setCell ⟨p, 3, none⟩ (.slice none 0 0)) :=
  ⟨⟨h.base, by simpa using wk_set (h.dn q).blk 3 (.slice none 0 0), ownsRow_setCell_other (h.dn q).stack h.nes _, ownsRow_setCell_other (h.dn q).opens h.neo _⟩, (bel_dn (Below.refl B w) q).setCell (p := ⟨p, 3, none⟩) h.base _, ((Keeps.refl w).dn q).set h.blk (.inl rfl)⟩
theorem cells_bytes (t : ByteArray) : Lib.strCells t = u8s t.data.toList := rfl
theorem WAt.pushed {t : ByteArray} (h : WAt B p K r i a n c a' n' c' stk opn w) (g : Pushed B p n c a (u8s stk) t w w') :
    (∃ a2 c2, WAt B p K r i a2 (n + t.size) c2 a' n' c' (stk ++ t.data.toList) opn w') ∧ Fr B w w' := by
  obtain ⟨a2, c2, w1, ho, hg, rfl⟩ := g
  have hp : w1.heap[p]? = some (wkO K r i a n c a' n' c') := (hg.block p h.plt (fun e => h.nes e.symm)).trans h.blk
  have hop : w1.ownsRow B 117 3 (.slice a' n' c') n' (flat soC opn) := h.opens.kept hg (own_ne2 h.opens h.stack (by decide))
  refine ⟨⟨a2, c2, h.base, by simpa using wk_set hp 3 (.slice a2 (n + t.size) c2), ?_, ownsRow_setCell_other hop h.neo _⟩, ?_⟩
  · rw [cells_bytes, show u8s stk ++ u8s t.data.toList = u8s (stk ++ t.data.toList) by simp [u8s]] at ho
    exact ownsRow_setCell_other ho (own_ne ho hp (by decide)) _
  · exact ⟨((Below.refl B w).grown hg h.low (fun k hk => (h.stack.lt k hk).1)).setCell (p := ⟨p, 3, none⟩) h.base _, ((Keeps.refl w).grown hg (own_part h.stack (.inr (.inl rfl)))).set hp (.inl rfl)⟩
theorem WAt.opened {z : SO} (h : WAt B p K r i a n c a' n' c' stk opn w) (g : Opened B p n' c' a' (flat soC opn) (soC z) w w') :
    (∃ a2 c2, WAt B p K r i a n c a2 (n' + 1) c2 stk (opn ++ [z]) w') ∧ Fr B w w' := by
  obtain ⟨a2, c2, w1, O, ho, hg, rfl⟩ := g
  have hp : w1.heap[p]? = some (wkO K r i a n c a' n' c') := (hg.block p (by have := h.plt; simp; omega) (fun e => h.neo e.symm)).trans ((Below.heap_alloc w O p h.plt).trans h.blk)
  have hst : w1.ownsRow B 5 1 (.slice a n c) n (u8s stk) := (h.stack.alloc O).kept hg (own_ne2 h.stack h.opens (by decide))
  refine ⟨⟨a2, c2, h.base, by simpa using wk_set hp 4 (.slice a2 (n' + 1) c2), ownsRow_setCell_other hst h.nes _, ?_⟩, ?_⟩
  · rw [← flat_snoc] at ho
    exact ownsRow_setCell_other ho (own_ne ho hp (by decide)) _
  · exact ⟨(((Below.refl B w).alloc h.low O).grown hg (by have := h.low; simp; omega) (fun k hk => (h.opens.lt k hk).1)).setCell (p := ⟨p, 4, none⟩) h.base _, (((Keeps.refl w).alloc O).grown hg (own_part (h.opens.alloc O) (.inr (.inr rfl)))).set hp (.inl rfl)⟩
theorem WAt.closed {g m : Nat} {os : List SO} {z : SO} (h : WAt B p K r i a n c (some ⟨g, 0, none⟩) (m + 1) c' stk (os ++ [z]) w) (q : Nat) :
    WAt B p K r i a n c (some ⟨g, 0, none⟩) m c' stk os ((w.drewN q).setCell ⟨p, 4, none⟩ (.slice (some ⟨g, 0, none⟩) m c')) ∧ Fr B w ((w.drewN q).setCell ⟨p, 4, none⟩ (.slice (some ⟨g, 0, none⟩) m c')) := by
  have h' := h.dn q
  have hl := h.olen
  have ho : w.ownsRow B 117 3 (.slice (some ⟨g, 0, none⟩) (m + 1) c') (m + 1) (flat soC os ++ soC z) := by
    have := h.opens
    rwa [flat_snoc] at this
  refine ⟨⟨h.base, by simpa using wk_set h'.blk 4 (.slice (some ⟨g, 0, none⟩) m c'), ownsRow_setCell_other h'.stack h.nes _, ownsRow_setCell_other (a := ⟨p, 4, none⟩) (own_dn (own_less ho (by rw [flat_len soC_len]; simp at hl; omega)) q) (show Value.ownBlock (.slice (some ⟨g, 0, none⟩) m c') ≠ some p from h.neo) _⟩, ?_⟩
  exact ⟨(bel_dn (Below.refl B w) q).setCell (p := ⟨p, 4, none⟩) h.base _, ((Keeps.refl w).dn q).set h.blk (.inl rfl)⟩
theorem flat_last {os : List SO} {x : Int} {y : Int} {m : Nat} (hm : os.length = m) : (flat soC (os ++ [(x, y, true)])).set (m * 3 + 2) (.bool false) = flat soC (os ++ [(x, y, false)]) := by
  rw [flat_snoc, flat_snoc, List.set_append_right _ _ (by rw [flat_len soC_len]; omega), flat_len soC_len, hm, show m * 3 + 2 - m * 3 = 2 by omega]
  rfl
theorem WAt.elsed {g m : Nat} {os : List SO} {x y : Int} (h : WAt B p K r i a n c (some ⟨g, 0, none⟩) (m + 1) c' stk (os ++ [(x, y, true)]) w) (q : Nat) :
    WAt B p K r i a n c (some ⟨g, 0, none⟩) (m + 1) c' stk (os ++ [(x, y, false)]) ((w.drewN q).setCell ⟨g, m * 3 + 2, none⟩ (.bool false)) ∧ Fr B w ((w.drewN q).setCell ⟨g, m * 3 + 2, none⟩ (.bool false)) := by
  have h' := h.dn q
  have hl : os.length = m := by have := h.olen; simp at this; omega
  have hst := (h'.opens.stored (m * 3 + 2) (.bool false)).1
  rw [flat_last hl] at hst
  have hgp : g ≠ p := fun e => h.neo (by simp [Value.ownBlock, e])
  refine ⟨⟨h.base, ?_, ownsRow_setCell_other h'.stack ?_ _, hst⟩, ?_⟩
  · rw [heap_setCell_other _ _ _ _ (fun e => hgp e.symm)]
    exact h'.blk
  · have := own_ne2 h.stack h.opens (by decide)
    rcases this with e | e
    · rw [e]; simp
    · exact e
  · obtain ⟨cs, f, hc⟩ := Lib.ownsRow_kind h.opens g rfl
    exact ⟨(bel_dn (Below.refl B w) q).setCell (p := ⟨g, m * 3 + 2, none⟩) (h.opens.lt g rfl).1 _, ((Keeps.refl w).dn q).set hc (.inr (.inr rfl))⟩
end
end Go.Proofs.YtbbhoaljldgjeaaDoor
