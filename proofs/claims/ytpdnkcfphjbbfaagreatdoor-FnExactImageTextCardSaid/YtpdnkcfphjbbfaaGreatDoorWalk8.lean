/- A walk of impl's verifier: what its memory holds behind each change; the plain verifier's state. -/
import Derived.Test.YtpdnkcfphjbbfaaGreatDoorWalk4
import Derived.Test.YtpdnkcfphjbbfaaGreatDoorWalk6
import Derived.Test.YtpdnkcfphjbbfaaGreatDoorVer
import Derived.OneCell
namespace Go.Proofs.YtpdnkcfphjbbfaaGreatDoor
open Go.ChangeShapes Go.WideShapes Go.ChangeAt Go.RowKit
set_option linter.unusedVariables false
theorem own_less {w : World} {B size g r k c : Nat} {e : TypeId} {xs ys : List Value} (h : w.ownsRow B e size (.slice (some ⟨g, 0, none⟩) (r + k) c) (r + k) (xs ++ ys)) (hx : xs.length = r * size) : w.ownsRow B e size (.slice (some ⟨g, 0, none⟩) r c) r xs := by
  obtain ⟨h1, h2⟩ := h
  refine ⟨hx, ?_⟩
  rcases h2 with ⟨h0, _⟩ | ⟨g', cap, cur, h0, hb, hg, hn, hm, hs, ht⟩
  · simp at h0
  · simp only [Value.slice.injEq, Option.some.injEq, Addr.mk.injEq, and_true, true_and] at h0
    obtain ⟨rfl, rfl⟩ := h0
    refine .inr ⟨g, c, cur, rfl, hb, hg, by omega, hm, hs, ?_⟩
    have h3 := congrArg (List.take (r * size)) ht
    rw [List.take_take, Nat.min_eq_left (Nat.mul_le_mul_right _ (by omega)), ← hx, List.take_left'] at h3
    · rw [← hx]; exact h3
    · rfl
theorem own_dn {w : World} {B size n : Nat} {e : TypeId} {v : Value} {xs : List Value} (h : w.ownsRow B e size v n xs) (q : Nat) : (w.drewN q).ownsRow B e size v n xs := h
/-- Whatever is no part of a walk stays as it is. -/
def Keeps (w w' : World) : Prop := ∀ (k : Nat) (cs : Array Value) (t : TypeId) (fz : Nat × Nat), w.heap[k]? = some (.cells cs t fz) → t ≠ 203 → t ≠ 5 → t ≠ 223 → w'.heap[k]? = some (.cells cs t fz)
theorem Keeps.refl (w : World) : Keeps w w := fun _ _ _ _ h _ _ _ => h
theorem Keeps.trans {a b c : World} (h : Keeps a b) (g : Keeps b c) : Keeps a c := fun k cs t fz e h1 h2 h3 => g k cs t fz (h k cs t fz e h1 h2 h3) h1 h2 h3
theorem Keeps.dn {a b : World} (h : Keeps a b) (q : Nat) : Keeps a (b.drewN q) := h
theorem Keeps.alloc {a b : World} (h : Keeps a b) (O : Obj) : Keeps a (b.alloc O) := fun k cs t fz e h1 h2 h3 => by
  have g := h k cs t fz e h1 h2 h3
  rw [Below.heap_alloc b O k (Array.getElem?_eq_some_iff.1 g).1]
  exact g
/-- A part of a walk. -/
def Part (t : TypeId) : Prop := t = 203 ∨ t = 5 ∨ t = 223
theorem Keeps.set {a b : World} (h : Keeps a b) {p i : Nat} {u : Value} {cs : Array Value} {t : TypeId} {fz : Nat × Nat} (hp : b.heap[p]? = some (.cells cs t fz)) (ht : Part t) : Keeps a (b.setCell ⟨p, i, none⟩ u) := fun k cs' t' fz' e h1 h2 h3 => by
  have g := h k cs' t' fz' e h1 h2 h3
  rw [heap_setCell_other _ _ _ _ (fun e' => ?_)]
  · exact g
  · simp only at e'
    subst e'
    rw [hp] at g
    simp only [Option.some.injEq, Obj.cells.injEq] at g
    obtain ⟨_, rfl, _⟩ := g
    rcases ht with r | r | r
    · exact h1 r
    · exact h2 r
    · exact h3 r
theorem Keeps.grown {a b c : World} {row : Option Nat} (h : Keeps a b) (hg : b.grownBy c row) (hr : ∀ g : Nat, row = some g → ∃ (cs : Array Value) (t : TypeId) (fz : Nat × Nat), b.heap[g]? = some (.cells cs t fz) ∧ Part t) : Keeps a c := fun k cs' t' fz' e h1 h2 h3 => by
  have g := h k cs' t' fz' e h1 h2 h3
  rw [hg.block k (Array.getElem?_eq_some_iff.1 g).1 (fun e' => ?_)]
  · exact g
  · obtain ⟨cs, t, fz, hb, ht⟩ := hr k e'.symm
    rw [hb] at g
    simp only [Option.some.injEq, Obj.cells.injEq] at g
    obtain ⟨_, rfl, _⟩ := g
    rcases ht with r | r | r
    · exact h1 r
    · exact h2 r
    · exact h3 r
theorem own_part {w : World} {B size n : Nat} {e : TypeId} {v : Value} {xs : List Value} (h : w.ownsRow B e size v n xs) (he : Part e) : ∀ g : Nat, v.ownBlock = some g → ∃ (cs : Array Value) (t : TypeId) (fz : Nat × Nat), w.heap[g]? = some (.cells cs t fz) ∧ Part t := fun g hg => by
  obtain ⟨c, f, hc⟩ := Lib.ownsRow_kind h g hg
  exact ⟨c, e, f, hc, he⟩
/-- What is below B, and what is no part of a walk. -/
def Fr (B : Nat) (w w' : World) : Prop := Below B w w' ∧ Keeps w w'
section
variable {B p : Nat} {K : Value} {r i : Int} {a a' : Option Addr} {n c n' c' : Nat} {stk : List UInt8} {opn : List SO} {w w' : World}
theorem WAt.bel (h : WAt B p K r i a n c a' n' c' stk opn w) (hb : Below w.heap.size w w') : WAt B p K r i a n c a' n' c' stk opn w' :=
  ⟨h.base, (hb.block p h.plt).trans h.blk, own_bl h.stack hb, own_bl h.opens hb⟩
theorem WAt.dn (h : WAt B p K r i a n c a' n' c' stk opn w) (q : Nat) : WAt B p K r i a n c a' n' c' stk opn (w.drewN q) := ⟨h.base, h.blk, h.stack, h.opens⟩
theorem WAt.nes (h : WAt B p K r i a n c a' n' c' stk opn w) : Value.ownBlock (.slice a n c) ≠ some p := own_ne h.stack h.blk (by decide)
theorem WAt.neo (h : WAt B p K r i a n c a' n' c' stk opn w) : Value.ownBlock (.slice a' n' c') ≠ some p := own_ne h.opens h.blk (by decide)
theorem WAt.low (h : WAt B p K r i a n c a' n' c' stk opn w) : B ≤ w.heap.size := Nat.le_of_lt (Nat.lt_of_le_of_lt h.base h.plt)
/-- The index moves on. -/
theorem WAt.next (h : WAt B p K r i a n c a' n' c' stk opn w) (j : Int) : WAt B p K r j a n c a' n' c' stk opn (w.setCell ⟨p, 2, none⟩ (.int .i64 j)) ∧ Fr B w (w.setCell ⟨p, 2, none⟩ (.int .i64 j)) :=
  ⟨⟨h.base, by simpa using wk_set h.blk 2 (.int .i64 j), ownsRow_setCell_other h.stack h.nes _, ownsRow_setCell_other h.opens h.neo _⟩, (Below.refl B w).setCell (p := ⟨p, 2, none⟩) h.base _, (Keeps.refl w).set h.blk (.inl rfl)⟩
/-- The stack gets shorter. -/
theorem WAt.popped {g k : Nat} {st tk : List UInt8} (h : WAt B p K r i (some ⟨g, 0, none⟩) (n + k) c a' n' c' (st ++ tk) opn w) (hst : st.length = n) (q : Nat) :
    WAt B p K r i (some ⟨g, 0, none⟩) n c a' n' c' st opn ((w.drewN q).setCell ⟨p, 3, none⟩ (.slice (some ⟨g, 0, none⟩) n c)) ∧ Fr B w ((w.drewN q).setCell ⟨p, 3, none⟩ (.slice (some ⟨g, 0, none⟩) n c)) := by
  have h' := h.dn q
  have hs : w.ownsRow B 5 1 (.slice (some ⟨g, 0, none⟩) (n + k) c) (n + k) (u8s st ++ u8s tk) := by
    have := h.stack
    rwa [show u8s (st ++ tk) = u8s st ++ u8s tk by simp [u8s]] at this
  refine ⟨⟨h.base, by simpa using wk_set h'.blk 3 (.slice (some ⟨g, 0, none⟩) n c), ownsRow_setCell_other (a := ⟨p, 3, none⟩) (own_dn (own_less hs (by rw [u8s_len]; omega)) q) (show Value.ownBlock (.slice (some ⟨g, 0, none⟩) n c) ≠ some p from h.nes) _, ownsRow_setCell_other h'.opens h.neo _⟩, ?_⟩
  exact ⟨(bel_dn (Below.refl B w) q).setCell (p := ⟨p, 3, none⟩) h.base _, ((Keeps.refl w).dn q).set h.blk (.inl rfl)⟩
/-- The stack, nil, stays as it is. -/
theorem WAt.popnil (h : WAt B p K r i none 0 0 a' n' c' stk opn w) (q : Nat) :
    WAt B p K r i none 0 0 a' n' c' stk opn ((w.drewN q).setCell ⟨p, 3, none⟩ (.slice none 0 0)) ∧ Fr B w ((w.drewN q).setCell ⟨p, 3, none⟩ (.slice none 0 0)) :=
  ⟨⟨h.base, by simpa using wk_set (h.dn q).blk 3 (.slice none 0 0), ownsRow_setCell_other (h.dn q).stack h.nes _, ownsRow_setCell_other (h.dn q).opens h.neo _⟩, (bel_dn (Below.refl B w) q).setCell (p := ⟨p, 3, none⟩) h.base _, ((Keeps.refl w).dn q).set h.blk (.inl rfl)⟩
theorem cells_bytes (t : ByteArray) : Lib.strCells t = u8s t.data.toList := rfl
theorem WAt.pushed {t : ByteArray} (h : WAt B p K r i a n c a' n' c' stk opn w) (g : Pushed B p n c a (u8s stk) t w w') :
    (∃ a2 c2, WAt B p K r i a2 (n + t.size) c2 a' n' c' (stk ++ t.data.toList) opn w') ∧ Fr B w w' := by
  obtain ⟨a2, c2, w1, ho, hg, rfl⟩ := g
  have hp : w1.heap[p]? = some (wkO K r i a n c a' n' c') := (hg.block p h.plt (fun e => h.nes e.symm)).trans h.blk
  have hop : w1.ownsRow B 223 3 (.slice a' n' c') n' (flat soC opn) := h.opens.kept hg (own_ne2 h.opens h.stack (by decide))
  refine ⟨⟨a2, c2, h.base, by simpa using wk_set hp 3 (.slice a2 (n + t.size) c2), ?_, ownsRow_setCell_other hop h.neo _⟩, ?_⟩
  · rw [cells_bytes, show u8s stk ++ u8s t.data.toList = u8s (stk ++ t.data.toList) by simp [u8s]] at ho
    exact ownsRow_setCell_other ho (own_ne ho hp (by decide)) _
  · exact ⟨((Below.refl B w).grown hg h.low (fun k hk => (h.stack.lt k hk).1)).setCell (p := ⟨p, 3, none⟩) h.base _, ((Keeps.refl w).grown hg (own_part h.stack (.inr (.inl rfl)))).set hp (.inl rfl)⟩
theorem WAt.opened {z : SO} (h : WAt B p K r i a n c a' n' c' stk opn w) (g : Opened B p n' c' a' (flat soC opn) (soC z) w w') :
    (∃ a2 c2, WAt B p K r i a n c a2 (n' + 1) c2 stk (opn ++ [z]) w') ∧ Fr B w w' := by
  obtain ⟨a2, c2, w1, O, ho, hg, rfl⟩ := g
  have hp : w1.heap[p]? = some (wkO K r i a n c a' n' c') := (hg.block p (by have := h.plt; simp; omega) (fun e => h.neo e.symm)).trans ((Below.heap_alloc w O p h.plt).trans h.blk)
  have hst : w1.ownsRow B 5 1 (.slice a n c) n (u8s stk) := (h.stack.alloc O).kept hg (own_ne2 h.stack h.opens (by decide))
  refine ⟨⟨a2, c2, h.base, by simpa using wk_set hp 4 (.slice a2 (n' + 1) c2), ownsRow_setCell_other hst h.nes _, ?_⟩, ?_⟩
  · rw [← flat_snoc] at ho
    exact ownsRow_setCell_other ho (own_ne ho hp (by decide)) _
  · exact ⟨(((Below.refl B w).alloc h.low O).grown hg (by have := h.low; simp; omega) (fun k hk => (h.opens.lt k hk).1)).setCell (p := ⟨p, 4, none⟩) h.base _, (((Keeps.refl w).alloc O).grown hg (own_part (h.opens.alloc O) (.inr (.inr rfl)))).set hp (.inl rfl)⟩
theorem WAt.closed {g m : Nat} {os : List SO} {z : SO} (h : WAt B p K r i a n c (some ⟨g, 0, none⟩) (m + 1) c' stk (os ++ [z]) w) (q : Nat) :
    WAt B p K r i a n c (some ⟨g, 0, none⟩) m c' stk os ((w.drewN q).setCell ⟨p, 4, none⟩ (.slice (some ⟨g, 0, none⟩) m c')) ∧ Fr B w ((w.drewN q).setCell ⟨p, 4, none⟩ (.slice (some ⟨g, 0, none⟩) m c')) := by
  have h' := h.dn q
  have hl := h.olen
  have ho : w.ownsRow B 223 3 (.slice (some ⟨g, 0, none⟩) (m + 1) c') (m + 1) (flat soC os ++ soC z) := by
    have := h.opens
    rwa [flat_snoc] at this
  refine ⟨⟨h.base, by simpa using wk_set h'.blk 4 (.slice (some ⟨g, 0, none⟩) m c'), ownsRow_setCell_other h'.stack h.nes _, ownsRow_setCell_other (a := ⟨p, 4, none⟩) (own_dn (own_less ho (by rw [flat_len soC_len]; simp at hl; omega)) q) (show Value.ownBlock (.slice (some ⟨g, 0, none⟩) m c') ≠ some p from h.neo) _⟩, ?_⟩
  exact ⟨(bel_dn (Below.refl B w) q).setCell (p := ⟨p, 4, none⟩) h.base _, ((Keeps.refl w).dn q).set h.blk (.inl rfl)⟩
theorem flat_last {os : List SO} {x : Int} {y : Int} {m : Nat} (hm : os.length = m) : (flat soC (os ++ [(x, y, true)])).set (m * 3 + 2) (.bool false) = flat soC (os ++ [(x, y, false)]) := by
  rw [flat_snoc, flat_snoc, List.set_append_right _ _ (by rw [flat_len soC_len]; omega), flat_len soC_len, hm, show m * 3 + 2 - m * 3 = 2 by omega]
  rfl
theorem WAt.elsed {g m : Nat} {os : List SO} {x y : Int} (h : WAt B p K r i a n c (some ⟨g, 0, none⟩) (m + 1) c' stk (os ++ [(x, y, true)]) w) (q : Nat) :
    WAt B p K r i a n c (some ⟨g, 0, none⟩) (m + 1) c' stk (os ++ [(x, y, false)]) ((w.drewN q).setCell ⟨g, m * 3 + 2, none⟩ (.bool false)) ∧ Fr B w ((w.drewN q).setCell ⟨g, m * 3 + 2, none⟩ (.bool false)) := by
  have h' := h.dn q
  have hl : os.length = m := by have := h.olen; simp at this; omega
  have hst := (h'.opens.stored (m * 3 + 2) (.bool false)).1
  rw [flat_last hl] at hst
  have hgp : g ≠ p := fun e => h.neo (by simp [Value.ownBlock, e])
  refine ⟨⟨h.base, ?_, ownsRow_setCell_other h'.stack ?_ _, hst⟩, ?_⟩
  · rw [heap_setCell_other _ _ _ _ (fun e => hgp e.symm)]
    exact h'.blk
  · have := own_ne2 h.stack h.opens (by decide)
    rcases this with e | e
    · rw [e]; simp
    · exact e
  · obtain ⟨cs, f, hc⟩ := Lib.ownsRow_kind h.opens g rfl
    exact ⟨(bel_dn (Below.refl B w) q).setCell (p := ⟨g, m * 3 + 2, none⟩) (h.opens.lt g rfl).1 _, ((Keeps.refl w).dn q).set hc (.inr (.inr rfl))⟩
end
end Go.Proofs.YtpdnkcfphjbbfaaGreatDoor
namespace Go.Proofs.YtpdnkcfphjbbfaaGreatDoor
open Go.ChangeShapes Go.WideShapes Go.ChangeAt Go.RowKit
set_option linter.unusedVariables false
/-- An open structure of the plain verifier as impl keeps it. -/
def so (o : VO) : SO := (o.pos, (o.stk.length : Int), o.op == 21)
/-- What lies below an open structure is still there. -/
structure VW.pre (w : VW) : Prop where
  pfx : ∀ o ∈ w.opn, o.stk <+: w.stk
  asc : w.opn.Pairwise (fun a b => a.stk.length ≤ b.stk.length)
  s8 : w.stk.length ≤ 8
  o4 : w.opn.length ≤ 4
theorem pre_start : VW.pre ⟨[], []⟩ := ⟨by simp, .nil, Nat.zero_le _, Nat.zero_le _⟩
def WStat (B p : Nat) (K : Value) (r i : Int) (v : VW) (w : World) : Prop := ∃ a n c a' n' c', WAt B p K r i a n c a' n' c' v.stk (v.opn.map so) w
theorem opn_cases (l : List VO) : l = [] ∨ ∃ os o, l = os ++ [o] := by
  rcases List.eq_nil_or_concat l with h | ⟨os, o, h⟩
  · exact .inl h
  · exact .inr ⟨os, o, by simpa using h⟩
theorem floor_nil (st : List UInt8) : VW.floor ⟨st, []⟩ = 0 := rfl
section
variable {B p : Nat} {K : Value} {r i : Int} {a a' : Option Addr} {n c n' c' : Nat} {stk : List UInt8} {opn : List SO} {w w' : World}
theorem WAt.opened_row {os : List SO} {z : SO} (h : WAt B p K r i a n c a' n' c' stk (os ++ [z]) w) : ∃ g m, a' = some ⟨g, 0, none⟩ ∧ n' = m + 1 ∧ os.length = m ∧ m + 1 ≤ c' := by
  have hl := h.olen
  simp only [List.length_append, List.length_singleton] at hl
  rcases h.opens.2 with ⟨_, h0⟩ | ⟨g, cap, cur, e, _, _, hc, _⟩
  · omega
  · simp only [Value.slice.injEq] at e
    obtain ⟨rfl, _, rfl⟩ := e
    exact ⟨g, os.length, rfl, hl.symm, rfl, by omega⟩
theorem WAt.last {os : List SO} {z : SO} {g m : Nat} (h : WAt B p K r i a n c (some ⟨g, 0, none⟩) (m + 1) c' stk (os ++ [z]) w) :
    w.cell? ⟨g, m * 3, none⟩ = some (.int .i64 z.1) ∧ w.cell? ⟨g, m * 3 + 1, none⟩ = some (.int .i64 z.2.1) ∧ w.cell? ⟨g, m * 3 + 2, none⟩ = some (.bool z.2.2) ∧ ∀ k, w.frozen? ⟨g, k, none⟩ = false := by
  have hl : os.length = m := by have := h.olen; simp at this; omega
  have hat : ∀ j, j < 3 → w.cell? ⟨g, m * 3 + j, none⟩ = (soC z)[j]? := fun j hj => by
    rw [h.opens.cellAt _ (by omega)]
    exact flat_at soC_len (show (os ++ [z])[m]? = some z by rw [← hl]; simp) hj
  exact ⟨hat 0 (by omega), hat 1 (by omega), hat 2 (by omega), fun k => h.opens.frozenAt k⟩
theorem WAt.floor {v : VW} (h : WAt B p K r i a n c a' n' c' v.stk (v.opn.map so) w) (hp : v.pre) : Floor p v.floor w := by
  obtain ⟨st, opn⟩ := v
  rcases opn_cases opn with rfl | ⟨os, o, rfl⟩
  · have hl := h.olen
    simp at hl
    subst hl
    exact floor_none p c' a' w h.cells.2.2.2.2
  · have h' := h
    rw [List.map_append, List.map_singleton] at h'
    obtain ⟨g, m, rfl, rfl, hm, hc⟩ := h'.opened_row
    have h4 := hp.o4
    simp at h4 hm
    have hk := h'.last.2.1
    have e : VW.floor ⟨st, os ++ [o]⟩ = o.stk.length := floor_snoc st os o
    rw [e]
    exact floor_some p g m c' o.stk.length (by omega) w h'.cells.2.2.2.2 hk
end
theorem u8s_bytes {w : World} {B g n c : Nat} {st : List UInt8} (h : w.ownsRow B 5 1 (.slice (some ⟨g, 0, none⟩) n c) n (u8s st)) (r k : Nat) (hk : r + k = n) (cc : Nat) (q : Nat) :
    (convert 42 9 (.slice (some ⟨g, r, none⟩) k cc)).run Tryz.prog (w.drewN q) = .ok (.string ⟨(st.drop r).toArray⟩) (w.drewN q) := by
  have hl : st.length = n := by have := h.1; rw [u8s_len] at this; omega
  have hk' : k = (st.drop r).length := by rw [List.length_drop]; omega
  rw [hk']
  exact run_convert_bytes_back (P := Tryz.prog) (w.drewN q) 42 9 5 ⟨g, r, none⟩ cc (st.drop r) Tryz.underlying42 Tryz.underlying5 Tryz.underlying9 (fun j hj => by
    have hc := h.cellAt (r + j) (by rw [List.length_drop] at hj; omega)
    rw [List.length_drop] at hj
    have h2 : (u8s st)[r + j]? = some (.int .u8 ((st.drop r)[j]'(by rw [List.length_drop]; omega)).toNat) := by simp [u8s, List.getElem?_eq_getElem (show r + j < st.length by omega)]
    rw [h2] at hc
    rw [show (⟨g, r, none⟩ : Addr).add j = ⟨g, r + j, none⟩ by simp [Addr.add]]
    exact hc)
theorem beq_yes {x y : List UInt8} {u t : ByteArray} (hu : u.data.toList = x) (ht : t.data.toList = y) (h : x = y) : (u.toList == t.toList) = true := by
  rw [ByteArray.toList_eq, ByteArray.toList_eq, hu, ht, h]
  simp
theorem beq_no {x y : List UInt8} {u t : ByteArray} (hu : u.data.toList = x) (ht : t.data.toList = y) (h : x ≠ y) : (u.toList == t.toList) = false := by
  rw [ByteArray.toList_eq, ByteArray.toList_eq, hu, ht]
  simpa using h
/-- pop, in the plain verifier's words. -/
theorem pop_any {B p : Nat} {K : Value} {r i : Int} {v : VW} {w : World} (h : WStat B p K r i v w) (hp : v.pre) (t : ByteArray) (ht : t.size ≤ 3) :
    Calls Tryz.prog 201 #[.pointer (some ⟨p, 0, none⟩), .string t] w fun e w' => Below B w w' ∧
      (((vTake v.stk t.data.toList v.floor).2 = 0 ∧ e = .returned (.tuple #[]) ∧ WStat B p K r i ⟨(vTake v.stk t.data.toList v.floor).1, v.opn⟩ w' ∧ Keeps w w') ∨ ((vTake v.stk t.data.toList v.floor).2 ≠ 0 ∧ e = Off i (vTake v.stk t.data.toList v.floor).2)) := by
  obtain ⟨a, n, c, a', n', c', h⟩ := h
  have hn := h.slen
  have h8 := hp.s8
  obtain ⟨c0, c1, c2, c3, c4⟩ := h.cells
  have hfl := h.floor hp
  have hfle : v.floor ≤ v.stk.length := by
    obtain ⟨st, opn⟩ := v
    rcases opn_cases opn with rfl | ⟨os, o, rfl⟩
    · exact Nat.zero_le _
    · rw [floor_snoc]
      exact (hp.pfx o (by simp)).length_le
  have hts : t.data.toList.length = t.size := rfl
  generalize hF : v.floor = f at *
  by_cases h1 : v.stk.length < f + t.data.toList.length
  · have e : vTake v.stk t.data.toList f = ([], 13) := if_pos h1
    rw [e]
    exact (pop_short p n c f a i t (by omega) (by omega) (by omega) w c3 (fun q => c2) hfl).mono fun e w' ⟨he, q, hw⟩ => ⟨hw ▸ bel_dn (Below.refl B w) q, .inr ⟨by decide, he⟩⟩
  · have hk : n = (n - t.size) + t.size := by omega
    have hst : v.stk = v.stk.take (n - t.size) ++ v.stk.drop (n - t.size) := (List.take_append_drop _ _).symm
    have hdl : v.stk.length - t.data.toList.length = n - t.size := by omega
    by_cases h2 : v.stk.drop (n - t.size) = t.data.toList
    · have e : vTake v.stk t.data.toList f = (v.stk.take (n - t.size), 0) := by unfold vTake; rw [if_neg h1, hdl, if_pos h2]
      rw [e]
      rcases h.stack.2 with ⟨e0, h0⟩ | ⟨g, cap, cur, e0, _, _, hcap, _⟩
      · simp only [Value.slice.injEq] at e0
        obtain ⟨rfl, rfl, rfl⟩ := e0
        have ht0 : t.size = 0 := by omega
        have hs0 : v.stk = [] := List.eq_nil_of_length_eq_zero hn
        have hf0 : f = 0 := by omega
        subst hf0
        refine (pop_nil p t ht0 w c3 (h.frozen 3) hfl (fun q => by have := Lib.run_convert_nil_bytes (P := Tryz.prog) (w.drewN q) 42 9 5 0 Tryz.underlying42 Tryz.underlying5 Tryz.underlying9; simpa using this) (by rw [ByteArray.toList_eq]; have : t.data.toList = [] := List.eq_nil_of_length_eq_zero (by omega); rw [this]; rfl)).mono fun e w' ⟨he, q, hw⟩ => ?_
        subst hw
        obtain ⟨h3, h4⟩ := h.popnil q
        exact ⟨h4.1, .inl ⟨rfl, he, ⟨none, 0, 0, a', n', c', by rw [hs0] at h3; simpa [hs0] using h3⟩, h4.2⟩⟩
      · simp only [Value.slice.injEq] at e0
        obtain ⟨rfl, _, rfl⟩ := e0
        have hR : w.ownsRow B 5 1 (.slice (some ⟨g, 0, none⟩) n c) n (u8s v.stk) := h.stack
        have hu : (⟨(v.stk.drop (n - t.size)).toArray⟩ : ByteArray).data.toList = v.stk.drop (n - t.size) := by simp
        have h' := h
        rw [hst] at h'
        rw [hk] at h' c3 hcap
        rw [show n - t.size + t.size - t.size = n - t.size by omega] at h'
        refine (pop_some p g (n - t.size) c f t ⟨(v.stk.drop (n - t.size)).toArray⟩ hcap (by omega) (by omega) w c3 (h.frozen 3) hfl (fun q cc => u8s_bytes hR (n - t.size) t.size (by omega) cc q) (fun hr q cc => ?_) (beq_yes hu rfl h2)).mono fun e w' ⟨he, q, hw⟩ => ?_
        · have ht0 : t.size = 0 := by omega
          have e1 : v.stk.drop (n - t.size) = [] := List.drop_eq_nil_of_le (by omega)
          rw [e1, ht0]
          exact run_convert_bytes_back (P := Tryz.prog) (w.drewN q) 42 9 5 ⟨g, 0, none⟩ cc [] Tryz.underlying42 Tryz.underlying5 Tryz.underlying9 (fun j hj => by simp at hj)
        · subst hw
          obtain ⟨h3, h4⟩ := h'.popped (by simp; omega) q
          exact ⟨h4.1, .inl ⟨rfl, he, ⟨_, _, _, a', n', c', h3⟩, h4.2⟩⟩
    · have e : vTake v.stk t.data.toList f = ([], 12) := by unfold vTake; rw [if_neg h1, hdl, if_neg h2]
      rw [e]
      have hz : 0 < t.size := by
        rcases Nat.eq_zero_or_pos t.size with h0 | h0
        · refine absurd ?_ h2
          rw [List.drop_eq_nil_of_le (by omega)]
          exact (List.eq_nil_of_length_eq_zero (by omega)).symm
        · exact h0
      rcases h.stack.2 with ⟨e0, h0⟩ | ⟨g, cap, cur, e0, _, _, hcap, _⟩
      · omega
      · simp only [Value.slice.injEq] at e0
        obtain ⟨rfl, _, rfl⟩ := e0
        have hR : w.ownsRow B 5 1 (.slice (some ⟨g, 0, none⟩) n c) n (u8s v.stk) := h.stack
        have hu : (⟨(v.stk.drop (n - t.size)).toArray⟩ : ByteArray).data.toList = v.stk.drop (n - t.size) := by simp
        rw [hk] at c3 hcap
        exact (pop_type p g (n - t.size) c f i t ⟨(v.stk.drop (n - t.size)).toArray⟩ hcap (by omega) hz (by omega) w c3 (fun q => c2) hfl (fun q cc => u8s_bytes hR (n - t.size) t.size (by omega) cc q) (beq_no hu rfl h2)).mono fun e w' ⟨he, q, hw⟩ => ⟨hw ▸ bel_dn (Below.refl B w) q, .inr ⟨by decide, he⟩⟩
end Go.Proofs.YtpdnkcfphjbbfaaGreatDoor
namespace Go.Proofs.YtpdnkcfphjbbfaaGreatDoor
open Go.ChangeShapes Go.WideShapes Go.ChangeAt Go.RowKit
set_option linter.unusedVariables false
theorem push_any {B p : Nat} {K : Value} {r i : Int} {v : VW} {w : World} (h : WStat B p K r i v w) (hp : v.pre) (t : ByteArray) (ht : t.size ≤ 3) :
    Calls Tryz.prog 202 #[.pointer (some ⟨p, 0, none⟩), .string t] w fun e w' => Below B w w' ∧
      ((v.stk.length + t.data.toList.length ≤ 8 ∧ e = .returned (.tuple #[]) ∧ WStat B p K r i ⟨v.stk ++ t.data.toList, v.opn⟩ w' ∧ Keeps w w') ∨ (8 < v.stk.length + t.data.toList.length ∧ e = Off i 7)) := by
  obtain ⟨a, n, c, a', n', c', h⟩ := h
  have hn := h.slen
  have h8 := hp.s8
  obtain ⟨c0, c1, c2, c3, c4⟩ := h.cells
  have hts : t.data.toList.length = t.size := rfl
  rw [hts]
  by_cases h1 : n + t.size ≤ 8
  · refine (push_ok B p n c a (u8s v.stk) t h1 w h.low h.plt c3 (h.frozen 3) h.stack (fun e => h.nes e.symm)).mono fun e w' ⟨he, hw⟩ => ?_
    obtain ⟨⟨a2, c2', h2⟩, hb⟩ := h.pushed hw
    exact ⟨hb.1, .inl ⟨by omega, he, ⟨a2, n + t.size, c2', a', n', c', h2⟩, hb.2⟩⟩
  · exact (push_no B p n c a (u8s v.stk) t i (by omega) (by omega) (by omega) w h.low h.plt c3 (h.frozen 3) h.stack (fun e => h.nes e.symm) h.base c2).mono fun e w' ⟨he, hw⟩ => ⟨hw, .inr ⟨by omega, he⟩⟩
def vFind (ks : List Int) (r : Int) (x : Ins) : Int := if (x.1 = 19 ∨ x.1 = 20) ∧ (ks.length : Int) ≤ x.2 then 5 else if x.1 = 26 ∧ r ≤ x.2 then 15 else 0
theorem find_any {B p : Nat} {k : Option Addr} {kc : Nat} {ks : List Int} {r i : Int} {v : VW} {w : World} (h : WStat B p (.slice k ks.length kc) r i v w) (x y : Int) :
    Calls Tryz.prog 199 #[.pointer (some ⟨p, 0, none⟩), .agg #[.int .i64 x, .int .i64 y]] w fun e w' => Below w.heap.size w w' ∧
      ((vFind ks r (x, y) = 0 ∧ e = .returned (.tuple #[])) ∨ (vFind ks r (x, y) ≠ 0 ∧ e = Off i (vFind ks r (x, y)))) := by
  obtain ⟨a, n, c, a', n', c', h⟩ := h
  obtain ⟨c0, c1, c2, c3, c4⟩ := h.cells
  by_cases h1 : x = 19 ∨ x = 20
  · by_cases h2 : (ks.length : Int) ≤ y
    · have e : vFind ks r (x, y) = 5 := if_pos ⟨h1, h2⟩
      rw [e]
      exact (find_block_no p ks.length kc k x y i h1 h2 w h.plt c0 c2).mono fun e w' ⟨he, hb⟩ => ⟨hb, .inr ⟨by decide, he⟩⟩
    · have e : vFind ks r (x, y) = 0 := by unfold vFind; rw [if_neg (fun q => h2 q.2), if_neg (fun q => by have := q.1; simp only at this; omega)]
      rw [e]
      exact (find_block_ok p ks.length kc k x y h1 (by omega) w h.plt c0).mono fun e w' ⟨he, hb⟩ => ⟨hb, .inl ⟨rfl, he⟩⟩
  · by_cases h3 : x = 26
    · subst h3
      by_cases h4 : r ≤ y
      · have e : vFind ks r (26, y) = 15 := by unfold vFind; rw [if_neg (fun q => h1 q.1), if_pos ⟨rfl, h4⟩]
        rw [e]
        exact (find_call_no p y r i h4 w h.plt c1 c2).mono fun e w' ⟨he, hb⟩ => ⟨hb, .inr ⟨by decide, he⟩⟩
      · have e : vFind ks r (26, y) = 0 := by unfold vFind; rw [if_neg (fun q => h1 q.1), if_neg (fun q => h4 q.2)]
        rw [e]
        exact (find_call_ok p y r (by omega) w h.plt c1).mono fun e w' ⟨he, hb⟩ => ⟨hb, .inl ⟨rfl, he⟩⟩
    · have e : vFind ks r (x, y) = 0 := by unfold vFind; rw [if_neg (fun q => h1 q.1), if_neg (fun q => h3 q.1)]
      rw [e]
      exact (find_plain p x y w (beq_eq_false_iff_ne.2 (by omega)) (beq_eq_false_iff_ne.2 (by omega)) (beq_eq_false_iff_ne.2 h3)).mono fun e w' ⟨he, hb⟩ => ⟨hb, .inl ⟨rfl, he⟩⟩
theorem effT_sign : ∀ k : Nat, k < 27 → 1 ≤ k → k ≠ 19 → ∀ (ks : List Int) (y : Int), (effT k).data.toList = (vSign ks ((k : Int), y)).1 ∧ (effG k).data.toList = (vSign ks ((k : Int), y)).2 := by
  intro k hk h1 h19 ks y
  have : k = 1 ∨ k = 2 ∨ k = 3 ∨ k = 4 ∨ k = 5 ∨ k = 6 ∨ k = 7 ∨ k = 8 ∨ k = 9 ∨ k = 10 ∨ k = 11 ∨ k = 12 ∨ k = 13 ∨ k = 14 ∨ k = 15 ∨ k = 16 ∨ k = 17 ∨ k = 18 ∨ k = 20 ∨ k = 21 ∨ k = 22 ∨ k = 23 ∨ k = 24 ∨ k = 25 ∨ k = 26 := by omega
  rcases this with rfl | rfl | rfl | rfl | rfl | rfl | rfl | rfl | rfl | rfl | rfl | rfl | rfl | rfl | rfl | rfl | rfl | rfl | rfl | rfl | rfl | rfl | rfl | rfl | rfl <;> exact ⟨rfl, rfl⟩
theorem tkL_len3 (k : Int) : (tkL k).length ≤ 3 := by
  unfold tkL
  repeat' split
  all_goals decide
theorem sign_len (ks : List Int) (x : Ins) : (vSign ks x).1.length ≤ 3 ∧ (vSign ks x).2.length ≤ 1 := by
  unfold vSign
  repeat' split
  all_goals refine ⟨?_, ?_⟩
  all_goals first | exact tkL_len3 _ | decide | exact Nat.le_refl _
theorem effectOf_any {k : Option Addr} {kc : Nat} {ks : List Int} {r : Int} {w : World} (x y : Int) (hx : okB x y = true) (hf : vFind ks r (x, y) = 0)
    (ht : EffTab w) (hfb : FbTab w) (hk : Lies w k (kC ks)) (hkv : ∀ z ∈ ks, kindB z = true) :
    Calls Tryz.prog 200 #[.agg #[.int .i64 x, .int .i64 y], .slice k ks.length kc] w fun e w' => Below w.heap.size w w' ∧
      ∃ T G : ByteArray, e = .returned (.agg #[.string T, .string G]) ∧ T.data.toList = (vSign ks (x, y)).1 ∧ G.data.toList = (vSign ks (x, y)).2 := by
  obtain ⟨q, rfl, q1, q2, q3, q4⟩ := okB_nat hx
  by_cases h19 : q = 19
  · subst h19
    have hy0 : 0 ≤ y := by have : opLo 19 = 0 := rfl; omega
    obtain ⟨m, rfl⟩ : ∃ m : Nat, y = m := ⟨y.toNat, by omega⟩
    have hm : m < ks.length := by
      unfold vFind at hf
      by_cases hh : (ks.length : Int) ≤ (m : Int)
      · rw [if_pos ⟨.inl rfl, hh⟩] at hf
        exact absurd hf (by decide)
      · omega
    obtain ⟨b, o, rfl, hbl, hcs⟩ := hk.open (by rw [kC_len]; omega)
    have hc := hcs m (.int .i64 (ks.getD m 0)) (by simp [kC, List.getD, hm])
    refine (effectOf_block b o ks.length kc ks m hm w ht hfb hbl hc).mono fun e w' ⟨he, hb⟩ => ⟨hb, _, _, he, ?_, rfl⟩
    rw [takesF_list _ (hkv _ (by simp [List.getD, hm]))]
    show tkL (ks.getD m 0) = _
    simp [vSign]
  · obtain ⟨e1, e2⟩ := effT_sign q (by omega) q1 h19 ks y
    exact (effectOf_plain q y k ks.length kc (by omega) (beq_eq_false_iff_ne.2 (by omega)) w ht).mono fun e w' ⟨he, hb⟩ => ⟨hb, _, _, he, e1, e2⟩
end Go.Proofs.YtpdnkcfphjbbfaaGreatDoor
namespace Go.Proofs.YtpdnkcfphjbbfaaGreatDoor
open Go.ChangeShapes Go.WideShapes Go.ChangeAt Go.RowKit
set_option linter.unusedVariables false
theorem pfx_eq {s t : List UInt8} (h : s <+: t) : (t ≠ s) ↔ (t.length : Int) ≠ (s.length : Int) := by
  constructor
  · intro hne e
    exact hne (h.eq_of_length (by omega)).symm
  · intro hne e
    subst e
    exact hne rfl
theorem last_snoc (os : List VO) (o : VO) : (os ++ [o]).getLast? = some o := by simp
theorem drop_snoc (os : List VO) (o : VO) : (os ++ [o]).dropLast = os := by simp
def NestOut (x : Ins) (i : Int) (v : VW) : VW × Int := if 21 ≤ x.1 ∧ x.1 ≤ 24 then vNest x i v else (v, 0)
theorem nest_any {B p : Nat} {K : Value} {r i : Int} {v : VW} {w : World} (h : WStat B p K r i v w) (hp : v.pre) (x y : Int) :
    Calls Tryz.prog 203 #[.pointer (some ⟨p, 0, none⟩), .int .i64 x] w fun e w' => Below B w w' ∧
      (((NestOut (x, y) i v).2 = 0 ∧ e = .returned (.tuple #[]) ∧ WStat B p K r i (NestOut (x, y) i v).1 w' ∧ Keeps w w') ∨ ((NestOut (x, y) i v).2 ≠ 0 ∧ e = Off i (NestOut (x, y) i v).2)) := by
  obtain ⟨a, n, c, a', n', c', h⟩ := h
  have hn := h.slen
  have ho := h.olen
  have h8 := hp.s8
  have h4 := hp.o4
  obtain ⟨c0, c1, c2, c3, c4⟩ := h.cells
  obtain ⟨st, opn⟩ := v
  simp only [List.length_map] at ho h4 hn h8
  by_cases h0 : 21 ≤ x ∧ x ≤ 24
  · have e0 : NestOut (x, y) i ⟨st, opn⟩ = vNest (x, y) i ⟨st, opn⟩ := if_pos h0
    rw [e0]
    by_cases h1 : x = 21 ∨ x = 24
    · by_cases h5 : opn.length = 4
      · have e : vNest (x, y) i ⟨st, opn⟩ = (⟨st, opn⟩, 17) := by unfold vNest; rw [if_pos h1, if_pos h5]
        rw [e]
        have hn4 : n' = 4 := by omega
        subst hn4
        exact (nest_deep p c' a' x i h1 w c2 c4).mono fun e w' ⟨he, hw⟩ => ⟨hw ▸ Below.refl B _, .inr ⟨by simp, he⟩⟩
      · have e : vNest (x, y) i ⟨st, opn⟩ = (⟨st, opn ++ [⟨i, x, st⟩]⟩, 0) := by unfold vNest; rw [if_pos h1, if_neg h5]
        rw [e]
        refine (nest_open B p n c n' c' a a' (flat soC (opn.map so)) i x h1 (by omega) (by omega) w h.low h.plt c2 c3 c4 (h.frozen 4) h.opens (fun e => h.neo e.symm)).mono fun e w' ⟨he, hw⟩ => ?_
        have hz : [Value.int .i64 i, .int .i64 n, .bool (x == 21)] = soC (so ⟨i, x, st⟩) := by simp [so, soC, hn]
        rw [hz] at hw
        obtain ⟨⟨a2, c2', h2⟩, hb⟩ := h.opened hw
        exact ⟨hb.1, .inl ⟨rfl, he, ⟨a, n, c, a2, n' + 1, c2', by simpa using h2⟩, hb.2⟩⟩
    · have h1' : x = 22 ∨ x = 23 := by omega
      rcases opn_cases opn with rfl | ⟨os, o, rfl⟩
      · have e : vNest (x, y) i ⟨st, []⟩ = (⟨st, []⟩, 14) := by unfold vNest; rw [if_neg h1]; rfl
        rw [e]
        simp at ho
        subst ho
        exact (nest_none p c' a' x i h1' w c2 c4).mono fun e w' ⟨he, hw⟩ => ⟨hw ▸ Below.refl B _, .inr ⟨by simp, he⟩⟩
      · have h' := h
        rw [List.map_append, List.map_singleton] at h'
        obtain ⟨g, m, rfl, rfl, hm, hc⟩ := h'.opened_row
        obtain ⟨k0, k1, k2, kf⟩ := h'.last
        have hm4 : m + 1 ≤ 100 := by omega
        have hpf : o.stk <+: st := hp.pfx o (by simp)
        have hpe := pfx_eq hpf
        rw [hn] at hpe
        by_cases h22 : x = 22
        · subst h22
          by_cases ht : o.op = 21
          · have kt : w.cell? ⟨g, m * 3 + 2, none⟩ = some (.bool true) := by rw [k2]; simp [so, ht]
            by_cases hl : st = o.stk
            · have e : vNest (22, y) i ⟨st, os ++ [o]⟩ = (⟨st, os ++ [⟨o.pos, 22, o.stk⟩]⟩, 0) := by
                unfold vNest; rw [if_neg h1]; simp only [last_snoc, drop_snoc]; rw [if_neg (by simp [ht]), if_neg (by simpa using hl)]; rfl
              rw [e]
              have hk1 : w.cell? ⟨g, m * 3 + 1, none⟩ = some (.int .i64 n) := by rw [k1]; simp [so, ← hn, hl]
              refine (else_ok p g m c' n c a hm4 w (fun q => c3) c4 kt (kf _) (fun q => hk1)).mono fun e w' ⟨he, q, hw⟩ => ?_
              subst hw
              have hz : so o = (o.pos, (o.stk.length : Int), true) := by simp [so, ht]
              rw [hz] at h'
              obtain ⟨h2, hb⟩ := h'.elsed q
              exact ⟨hb.1, .inl ⟨rfl, he, ⟨a, n, c, _, _, c', by simpa [so] using h2⟩, hb.2⟩⟩
            · have e : vNest (22, y) i ⟨st, os ++ [o]⟩ = (⟨st, os ++ [o]⟩, 13) := by
                unfold vNest; rw [if_neg h1]; simp only [last_snoc, drop_snoc]; rw [if_neg (by simp [ht]), if_pos (by simpa using hl)]
              rw [e]
              exact (else_level p g m c' n c a i o.stk.length hm4 (hpe.1 hl) w (fun q => c2) (fun q => c3) c4 kt (fun q => k1)).mono fun e w' ⟨he, q, hw⟩ => ⟨hw ▸ bel_dn (Below.refl B w) q, .inr ⟨by simp, he⟩⟩
          · have e : vNest (22, y) i ⟨st, os ++ [o]⟩ = (⟨st, os ++ [o]⟩, 14) := by
              unfold vNest; rw [if_neg h1]; simp only [last_snoc, drop_snoc]; rw [if_pos ⟨trivial, ht⟩]
            rw [e]
            have kt : w.cell? ⟨g, m * 3 + 2, none⟩ = some (.bool false) := by rw [k2]; simp [so, ht]
            exact (else_not p g m c' i hm4 w (fun q => c2) c4 kt).mono fun e w' ⟨he, q, hw⟩ => ⟨hw ▸ bel_dn (Below.refl B w) q, .inr ⟨by simp, he⟩⟩
        · have h23 : x = 23 := by omega
          subst h23
          by_cases hl : st = o.stk
          · have e : vNest (23, y) i ⟨st, os ++ [o]⟩ = (⟨st, os⟩, 0) := by
              unfold vNest; rw [if_neg h1]; simp only [last_snoc, drop_snoc]; rw [if_neg (by simp), if_neg (by simpa using hl)]; rfl
            rw [e]
            have hk1 : w.cell? ⟨g, m * 3 + 1, none⟩ = some (.int .i64 n) := by rw [k1]; simp [so, ← hn, hl]
            refine (end_ok p g m c' n c a hm4 hc w (fun q => c3) c4 (h.frozen 4) (fun q => hk1)).mono fun e w' ⟨he, q, hw⟩ => ?_
            subst hw
            obtain ⟨h2, hb⟩ := h'.closed q
            exact ⟨hb.1, .inl ⟨rfl, he, ⟨a, n, c, _, _, c', h2⟩, hb.2⟩⟩
          · have e : vNest (23, y) i ⟨st, os ++ [o]⟩ = (⟨st, os ++ [o]⟩, 13) := by
              unfold vNest; rw [if_neg h1]; simp only [last_snoc, drop_snoc]; rw [if_neg (by simp), if_pos (by simpa using hl)]
            rw [e]
            exact (end_level p g m c' n c a i o.stk.length hm4 (hpe.1 hl) w (fun q => c2) (fun q => c3) c4 (fun q => k1)).mono fun e w' ⟨he, q, hw⟩ => ⟨hw ▸ bel_dn (Below.refl B w) q, .inr ⟨by simp, he⟩⟩
  · have e0 : NestOut (x, y) i ⟨st, opn⟩ = (⟨st, opn⟩, 0) := if_neg h0
    rw [e0]
    exact (nest_plain p x w (beq_eq_false_iff_ne.2 (by omega)) (beq_eq_false_iff_ne.2 (by omega)) (beq_eq_false_iff_ne.2 (by omega)) (beq_eq_false_iff_ne.2 (by omega))).mono fun e w' ⟨he, hw⟩ => ⟨hw ▸ Below.refl B _, .inl ⟨rfl, he, ⟨a, n, c, a', n', c', hw ▸ h⟩, hw ▸ Keeps.refl _⟩⟩
end Go.Proofs.YtpdnkcfphjbbfaaGreatDoor
