/- NewData of impl and of spec. -/
import Derived.Test.YtgiegppakoiaiaaDat
import Derived.Test.YtgiegppakoiaiaaEveryP
import Derived.Test.YtgiegppakoiaiaaInv
import Derived.Lib.OwnKind
namespace Go.Proofs.Ytgiegppakoiaiaa
open Go.ChangeShapes Go.WideShapes Go.ChangeAt Go.RowKit
set_option linter.unusedVariables false
/-- The new state. -/
def ndD (ks : List Int) : Dat := ⟨List.replicate 16 0, ks.map fun k => (k, false, 0, 0), List.replicate 8 false, List.replicate 8 false, List.replicate 8 false, List.replicate 8 false, 0⟩
def nd0 : Dat := ⟨[], [], [], [], [], [], 0⟩
abbrev zO : Obj := .cells #[.slice none 0 0, .slice none 0 0, .slice none 0 0, .slice none 0 0, .slice none 0 0, .slice none 0 0, .int .i64 0] 26
def ndSp (k : Nat) : Option RowSpec := if k = 0 then some ⟨3, 1, 16, kC (List.replicate 16 0)⟩ else if k < 5 then some ⟨4, 1, 8, flat bI (List.replicate 8 false)⟩ else none
def ndF (a : Act) (v : Nat → Value) : Act := ((((((a.put (some 15) (v 0)).put (some 16) (v 1)).put (some 17) (v 2)).put (some 18) (v 3)).put (some 19) (v 4)).put (some 20) (v 5)).put (some 4) (v 6)
def ndCells (f : Nat → Bool) (v : Nat → Value) : Array Value := if f 7 = true then #[v 0, .slice none 0 0, v 1, v 2, v 3, v 4, .int .i64 0] else #[.slice none 0 0, .slice none 0 0, .slice none 0 0, .slice none 0 0, .slice none 0 0, .slice none 0 0, .int .i64 0]
structure NdK (W : World) (v : Nat → Value) (f : Nat → Bool) (w : World) : Prop where
  gi : GI (W.heap.size + 1) ndSp v f w
  bel : Below W.heap.size W w
  res : w.heap[W.heap.size]? = some zO
  h5 : f 5 = true → v 5 = .agg #[v 0, .slice none 0 0, v 1, v 2, v 3, v 4, .int .i64 0] ∧ ∀ k, k < 5 → f k = true
  h6 : f 6 = true → ∃ g, v 6 = .pointer (some ⟨g, 0, none⟩) ∧ W.heap.size < g ∧ w.heap[g]? = some (.cells (ndCells f v) 26)
  h7 : f 7 = true → f 5 = true ∧ f 6 = true
def ndJ (W : World) (a0 : Act) (f : Nat → Bool) (a : Act) (w : World) : Prop := ∃ v : Nat → Value, a = ndF a0 v ∧ NdK W v f w
theorem blk_b {w w' : World} {k : Nat} {O : Obj} (h : w.heap[k]? = some O) (hb : Below w.heap.size w w') : w'.heap[k]? = some O := (hb.block k (Array.getElem?_eq_some_iff.1 h).1).trans h
theorem sp_ge {k : Nat} (h : 5 ≤ k) : ndSp k = none := by
  unfold ndSp
  rw [if_neg (by omega), if_neg (by omega)]
theorem fo {f : Nat → Bool} {j k : Nat} (h : j ≠ k) : (j == k || f j) = f j := by
  have : (j == k) = false := by simpa using h
  rw [this, Bool.false_or]
theorem NdK.make {W w w' : World} {v : Nat → Value} {f : Nat → Bool} {k : Nat} {s : RowSpec} {x : Value} (h : NdK W v f w) (hk : k < 5) (hf : f k = false) (hb : Below w.heap.size w w') (hs : ndSp k = some s) (ho : w'.ownsRow w.heap.size s.e s.size x s.n s.xs) :
    NdK W (upd v k x) (fun j => j == k || f j) w' := by
  have hsz := (Array.getElem?_eq_some_iff.1 h.res).1
  have n5 : f 5 = true → False := fun q => by have := (h.h5 q).2 k hk; rw [hf] at this; cases this
  refine ⟨h.gi.make hb hs hsz ho, h.bel.trans (hb.mono (Nat.le_of_lt hsz)), blk_b h.res hb, fun q => ?_, fun q => ?_, fun q => ?_⟩
  · rw [fo (by omega)] at q
    exact (n5 q).elim
  · rw [fo (by omega)] at q
    obtain ⟨g, e, hg, hh⟩ := h.h6 q
    refine ⟨g, by rw [upd_ne (by omega)]; exact e, hg, ?_⟩
    have n7 : f 7 ≠ true := fun q => n5 (h.h7 q).1
    have e1 : ndCells (fun j => j == k || f j) (upd v k x) = ndCells f v := by
      unfold ndCells
      rw [if_neg n7, if_neg (by simp only; rw [fo (by omega)]; exact n7)]
    rw [e1]
    exact blk_b hh hb
  · rw [fo (by omega)] at q
    exact (n5 (h.h7 q).1).elim
theorem NdK.build {W w : World} {v : Nat → Value} {f : Nat → Bool} (h : NdK W v f w) (h04 : ∀ k, k < 5 → f k = true) (hf : f 5 = false) : NdK W (upd v 5 (.agg #[v 0, .slice none 0 0, v 1, v 2, v 3, v 4, .int .i64 0])) (fun j => j == 5 || f j) w := by
  refine ⟨h.gi.other (Below.refl _ _) rfl, h.bel, h.res, fun q => ⟨rfl, fun k hk => by rw [fo (by omega)]; exact h04 k hk⟩, fun q => ?_, fun q => ?_⟩
  · rw [fo (by omega)] at q
    obtain ⟨g, e, hg, hh⟩ := h.h6 q
    have n7 : f 7 ≠ true := fun q => by have := (h.h7 q).1; rw [hf] at this; cases this
    refine ⟨g, e, hg, ?_⟩
    have e1 : ndCells (fun j => j == 5 || f j) (upd v 5 (.agg #[v 0, .slice none 0 0, v 1, v 2, v 3, v 4, .int .i64 0])) = ndCells f v := by
      unfold ndCells
      rw [if_neg n7, if_neg (by simp only; rw [fo (by omega)]; exact n7)]
    rw [e1]
    exact hh
  · rw [fo (by omega)] at q
    exact absurd (h.h7 q).1 (by rw [hf]; simp)
theorem NdK.boxed {W w : World} {v : Nat → Value} {f : Nat → Bool} (h : NdK W v f w) (hf : f 6 = false) : NdK W (upd v 6 (.pointer (some ⟨w.heap.size, 0, none⟩))) (fun j => j == 6 || f j) (w.alloc zO) := by
  have hsz := (Array.getElem?_eq_some_iff.1 h.res).1
  have hb : Below w.heap.size w (w.alloc zO) := (Below.refl w.heap.size w).alloc (Nat.le_refl _) zO
  have n7 : f 7 ≠ true := fun q => by have := (h.h7 q).2; rw [hf] at this; cases this
  refine ⟨h.gi.other hb rfl, h.bel.trans (hb.mono (Nat.le_of_lt hsz)), blk_b h.res hb, fun q => ?_, fun q => ⟨w.heap.size, rfl, hsz, ?_⟩, fun q => ?_⟩
  · rw [fo (by omega)] at q
    exact ⟨(h.h5 q).1, fun k hk => by rw [fo (by omega)]; exact (h.h5 q).2 k hk⟩
  · unfold ndCells
    rw [if_neg (by simp only; rw [fo (by omega)]; exact n7)]
    exact heap_alloc_new w zO
  · rw [fo (by omega)] at q
    exact absurd q n7
theorem sp_type {k : Nat} {s : RowSpec} (h : ndSp k = some s) : s.e = 3 ∨ s.e = 4 := by
  unfold ndSp at h
  split at h
  · simp only [Option.some.injEq] at h; subst h; exact .inl rfl
  · split at h
    · simp only [Option.some.injEq] at h; subst h; exact .inr rfl
    · cases h
theorem NdK.stored1 {W w : World} {v : Nat → Value} {f : Nat → Bool} {g i : Nat} {cs : Array Value} {x : Value} (gi : GI (W.heap.size + 1) ndSp v f w) (hg : w.heap[g]? = some (.cells cs 26)) : GI (W.heap.size + 1) ndSp v f (w.setCell ⟨g, i, none⟩ x) ∧ (w.setCell ⟨g, i, none⟩ x).heap[g]? = some (.cells (cs.setIfInBounds i x) 26) :=
  ⟨⟨fun k s hs hf => ownsRow_setCell_other (gi.row k s hs hf) (own_ne (gi.row k s hs hf) hg (by rcases sp_type hs with e | e <;> rw [e] <;> decide)) _, gi.dis⟩, wk_set hg i x⟩
abbrev set7 (w : World) (g : Nat) (x0 x1 x2 x3 x4 x5 x6 : Value) : World := ((((((w.setCell ⟨g, 0, none⟩ x0).setCell ⟨g, 1, none⟩ x1).setCell ⟨g, 2, none⟩ x2).setCell ⟨g, 3, none⟩ x3).setCell ⟨g, 4, none⟩ x4).setCell ⟨g, 5, none⟩ x5).setCell ⟨g, 6, none⟩ x6
theorem NdK.stored {W w : World} {v : Nat → Value} {f : Nat → Bool} {g : Nat} (h : NdK W v f w) (f5 : f 5 = true) (f6 : f 6 = true) (hf : f 7 = false) (hv : v 6 = .pointer (some ⟨g, 0, none⟩)) :
    NdK W (upd v 7 undef) (fun j => j == 7 || f j) (set7 w g (v 0) (.slice none 0 0) (v 1) (v 2) (v 3) (v 4) (.int .i64 0)) := by
  obtain ⟨g', e, hg, hh⟩ := h.h6 f6
  rw [hv] at e
  simp only [Value.pointer.injEq, Option.some.injEq, Addr.mk.injEq, and_true] at e
  subst e
  unfold ndCells at hh
  rw [if_neg (by rw [hf]; simp)] at hh
  obtain ⟨g0, k0⟩ := NdK.stored1 (i := 0) (x := v 0) h.gi hh
  obtain ⟨g1, k1⟩ := NdK.stored1 (i := 1) (x := .slice none 0 0) g0 k0
  obtain ⟨g2, k2⟩ := NdK.stored1 (i := 2) (x := v 1) g1 k1
  obtain ⟨g3, k3⟩ := NdK.stored1 (i := 3) (x := v 2) g2 k2
  obtain ⟨g4, k4⟩ := NdK.stored1 (i := 4) (x := v 3) g3 k3
  obtain ⟨g5, k5⟩ := NdK.stored1 (i := 5) (x := v 4) g4 k4
  obtain ⟨g6, k6⟩ := NdK.stored1 (i := 6) (x := .int .i64 0) g5 k5
  have hr : ∀ {X : World} {i : Nat} {x : Value}, X.heap[W.heap.size]? = some zO → (X.setCell ⟨g, i, none⟩ x).heap[W.heap.size]? = some zO := fun hX => (Below.heap_setCell _ _ _ _ (by simp only; omega)).trans hX
  have hgB : W.heap.size ≤ g := by omega
  refine ⟨⟨fun k s hs hq => ?_, fun j k s t h1 h2 h3 q1 q2 => ?_⟩, ?_, hr (hr (hr (hr (hr (hr (hr h.res)))))), fun q => ?_, fun q => ⟨g, hv, hg, ?_⟩, fun q => ⟨by simpa using f5, by simpa using f6⟩⟩
  · have hk7 : k ≠ 7 := fun e => by subst e; cases hs
    rw [upd_ne hk7]
    exact g6.row k s hs (by rw [fo hk7] at hq; exact hq)
  · have hk7 : k ≠ 7 := fun e => by subst e; cases h2
    have hj7 : j ≠ 7 := fun e => by subst e; cases h1
    rw [upd_ne hk7, upd_ne hj7]
    exact g6.dis j k s t h1 h2 h3 (by rw [fo hj7] at q1; exact q1) (by rw [fo hk7] at q2; exact q2)
  · exact ((((((h.bel.setCell (p := ⟨g, 0, none⟩) hgB _).setCell (p := ⟨g, 1, none⟩) hgB _).setCell (p := ⟨g, 2, none⟩) hgB _).setCell (p := ⟨g, 3, none⟩) hgB _).setCell (p := ⟨g, 4, none⟩) hgB _).setCell (p := ⟨g, 5, none⟩) hgB _).setCell (p := ⟨g, 6, none⟩) hgB _
  · exact ⟨(h.h5 f5).1, fun k hk => by rw [fo (by omega)]; exact (h.h5 f5).2 k hk⟩
  · simp only [ndCells, show ((7 : Nat) == 7 || f 7) = true from rfl, if_true]
    simpa [upd] using k6
structure NdS (W w : World) (v : Nat → Value) (f : Nat → Bool) (b0 b1 b2 b3 b4 : Option Addr) (d0 d1 d2 d3 d4 g : Nat) : Prop where
  e0 : v 0 = .slice b0 16 d0
  e1 : v 1 = .slice b1 8 d1
  e2 : v 2 = .slice b2 8 d2
  e3 : v 3 = .slice b3 8 d3
  e4 : v 4 = .slice b4 8 d4
  v5 : v 5 = .agg #[.slice b0 16 d0, .slice none 0 0, .slice b1 8 d1, .slice b2 8 d2, .slice b3 8 d3, .slice b4 8 d4, .int .i64 0]
  v6 : v 6 = .pointer (some ⟨g, 0, none⟩)
  hc : w.heap[g]? = some zO
  next : NdK W (upd v 7 undef) (fun j => j == 7 || f j) (set7 w g (.slice b0 16 d0) (.slice none 0 0) (.slice b1 8 d1) (.slice b2 8 d2) (.slice b3 8 d3) (.slice b4 8 d4) (.int .i64 0))
theorem NdK.pre {W w : World} {v : Nat → Value} {f : Nat → Bool} (h : NdK W v f w) (f5 : f 5 = true) (f6 : f 6 = true) (hf : f 7 = false) : ∃ b0 b1 b2 b3 b4 d0 d1 d2 d3 d4 g, NdS W w v f b0 b1 b2 b3 b4 d0 d1 d2 d3 d4 g := by
  have h5 := h.h5 f5
  have h04 := h5.2
  obtain ⟨g, v6, hg, hc⟩ := h.h6 f6
  obtain ⟨b0, d0, e0⟩ := wk_slice (h.gi.row 0 _ rfl (h04 0 (by omega)))
  obtain ⟨b1, d1, e1⟩ := wk_slice (h.gi.row 1 _ rfl (h04 1 (by omega)))
  obtain ⟨b2, d2, e2⟩ := wk_slice (h.gi.row 2 _ rfl (h04 2 (by omega)))
  obtain ⟨b3, d3, e3⟩ := wk_slice (h.gi.row 3 _ rfl (h04 3 (by omega)))
  obtain ⟨b4, d4, e4⟩ := wk_slice (h.gi.row 4 _ rfl (h04 4 (by omega)))
  have hn := h.stored f5 f6 hf v6
  have v5 := h5.1
  unfold ndCells at hc
  rw [if_neg (by rw [hf]; simp)] at hc
  rw [e0, e1, e2, e3, e4] at v5 hn
  exact ⟨b0, b1, b2, b3, b4, d0, d1, d2, d3, d4, g, e0, e1, e2, e3, e4, v5, v6, hc, hn⟩
theorem NdK.use {W w : World} {v : Nat → Value} {f : Nat → Bool} {G : Prop} (h : NdK W v f w) (f5 : f 5 = true) (f6 : f 6 = true) (hf : f 7 = false) (k : ∀ b0 b1 b2 b3 b4 d0 d1 d2 d3 d4 g, NdS W w v f b0 b1 b2 b3 b4 d0 d1 d2 d3 d4 g → G) : G := by
  obtain ⟨b0, b1, b2, b3, b4, d0, d1, d2, d3, d4, g, hS⟩ := h.pre f5 f6 hf
  exact k _ _ _ _ _ _ _ _ _ _ _ hS
structure NdL (W : World) (g : Nat) (x0 x1 x2 x3 x4 b : Value) (k : Nat) (bl : List FT) (w : World) : Prop where
  bel : Below W.heap.size W w
  res : w.heap[W.heap.size]? = some zO
  hg : W.heap.size < g
  blk : w.heap[g]? = some (.cells #[x0, b, x1, x2, x3, x4, .int .i64 0] 26)
  r0 : w.ownsRow (W.heap.size + 1) 3 1 x0 16 (kC (List.replicate 16 0))
  r1 : w.ownsRow (W.heap.size + 1) 4 1 x1 8 (flat bI (List.replicate 8 false))
  r2 : w.ownsRow (W.heap.size + 1) 4 1 x2 8 (flat bI (List.replicate 8 false))
  r3 : w.ownsRow (W.heap.size + 1) 4 1 x3 8 (flat bI (List.replicate 8 false))
  r4 : w.ownsRow (W.heap.size + 1) 4 1 x4 8 (flat bI (List.replicate 8 false))
  fb : w.ownsRow (W.heap.size + 1) 37 4 b k (flat fC bl)
theorem NdL.lt {W w : World} {g k : Nat} {x0 x1 x2 x3 x4 b : Value} {bl : List FT} (h : NdL W g x0 x1 x2 x3 x4 b k bl w) : W.heap.size + 1 ≤ w.heap.size := (Array.getElem?_eq_some_iff.1 h.res).1
theorem NdL.to {W w w' : World} {g k : Nat} {x0 x1 x2 x3 x4 b : Value} {bl : List FT} (h : NdL W g x0 x1 x2 x3 x4 b k bl w) (hb : Below w.heap.size w w') : NdL W g x0 x1 x2 x3 x4 b k bl w' :=
  ⟨h.bel.trans (hb.mono h.bel.size), blk_b h.res hb, h.hg, blk_b h.blk hb, own_bl h.r0 hb, own_bl h.r1 hb, own_bl h.r2 hb, own_bl h.r3 hb, own_bl h.r4 hb, own_bl h.fb hb⟩
theorem NdL.push {W w w1 w2 : World} {g k : Nat} {x0 x1 x2 x3 x4 b b' : Value} {bl : List FT} {z : FT} (h0 : NdL W g x0 x1 x2 x3 x4 b k bl w) (hb : Below w.heap.size w w1) (ho : w2.ownsRow (W.heap.size + 1) 37 4 b' (k + 1) (flat fC (bl ++ [z]))) (hg : w1.grownBy w2 b.ownBlock) :
    NdL W g x0 x1 x2 x3 x4 b' (k + 1) (bl ++ [z]) (w2.setCell ⟨g, 1, none⟩ b') := by
  have h := h0.to hb
  have hW := h.lt
  have hres : w2.heap[W.heap.size]? = some zO := (hg.block _ hW (fun e => by have := (h.fb.lt _ e.symm).1; omega)).trans h.res
  have hblk : w2.heap[g]? = some (.cells #[x0, b, x1, x2, x3, x4, .int .i64 0] 26) := (hg.block g (Array.getElem?_eq_some_iff.1 h.blk).1 (fun e => own_ne h.fb h.blk (by decide) e.symm)).trans h.blk
  have kp : ∀ {e : TypeId} {n size : Nat} {v : Value} {xs : List Value}, w1.ownsRow (W.heap.size + 1) e size v n xs → e ≠ 37 → e ≠ 26 → (w2.setCell ⟨g, 1, none⟩ b').ownsRow (W.heap.size + 1) e size v n xs := fun r h1 h2 => by
    have r2 := r.kept hg (own_ne2 r h.fb (Ne.symm h1))
    exact ownsRow_setCell_other r2 (own_ne r2 hblk (Ne.symm h2)) _
  refine ⟨(h.bel.grown hg h.bel.size (fun q e => by have := (h.fb.lt q e).1; omega)).setCell (p := ⟨g, 1, none⟩) (Nat.le_of_lt h.hg) _, (Below.heap_setCell _ _ _ _ (by have := h.hg; simp only; omega)).trans hres, h.hg, by simpa using wk_set hblk 1 b', kp h.r0 (by decide) (by decide), kp h.r1 (by decide) (by decide), kp h.r2 (by decide) (by decide), kp h.r3 (by decide) (by decide), kp h.r4 (by decide) (by decide), ?_⟩
  exact ownsRow_setCell_other ho (own_ne ho hblk (by decide)) _
theorem NdL.blkg {W w w1 w2 : World} {g k : Nat} {x0 x1 x2 x3 x4 b : Value} {bl : List FT} (h0 : NdL W g x0 x1 x2 x3 x4 b k bl w) (hb : Below w.heap.size w w1) (hg : w1.grownBy w2 b.ownBlock) : w2.heap[g]? = some (.cells #[x0, b, x1, x2, x3, x4, .int .i64 0] 26) := by
  have h := h0.to hb
  exact (hg.block g (Array.getElem?_eq_some_iff.1 h.blk).1 (fun e => own_ne h.fb h.blk (by decide) e.symm)).trans h.blk
/-- The four lists of pins lie apart. -/
structure Apart4 (x1 x2 x3 x4 : Value) : Prop where
  d12 : x1.ownBlock = none ∨ x1.ownBlock ≠ x2.ownBlock
  d13 : x1.ownBlock = none ∨ x1.ownBlock ≠ x3.ownBlock
  d14 : x1.ownBlock = none ∨ x1.ownBlock ≠ x4.ownBlock
  d23 : x2.ownBlock = none ∨ x2.ownBlock ≠ x3.ownBlock
  d24 : x2.ownBlock = none ∨ x2.ownBlock ≠ x4.ownBlock
  d34 : x3.ownBlock = none ∨ x3.ownBlock ≠ x4.ownBlock
structure NdE (W w : World) (v : Nat → Value) (b0 b1 b2 b3 b4 : Option Addr) (d0 d1 d2 d3 d4 g : Nat) : Prop where
  e0 : v 0 = .slice b0 16 d0
  e1 : v 1 = .slice b1 8 d1
  e2 : v 2 = .slice b2 8 d2
  e3 : v 3 = .slice b3 8 d3
  e4 : v 4 = .slice b4 8 d4
  v5 : v 5 = .agg #[.slice b0 16 d0, .slice none 0 0, .slice b1 8 d1, .slice b2 8 d2, .slice b3 8 d3, .slice b4 8 d4, .int .i64 0]
  v6 : v 6 = .pointer (some ⟨g, 0, none⟩)
  at0 : NdL W g (.slice b0 16 d0) (.slice b1 8 d1) (.slice b2 8 d2) (.slice b3 8 d3) (.slice b4 8 d4) (.slice none 0 0) 0 [] w
  ap : Apart4 (.slice b1 8 d1) (.slice b2 8 d2) (.slice b3 8 d3) (.slice b4 8 d4)
theorem NdK.fin {W w : World} {v : Nat → Value} {f : Nat → Bool} {G : Prop} (h : NdK W v f w) (hall : ∀ i, i < 8 → f i = true) (k : ∀ b0 b1 b2 b3 b4 d0 d1 d2 d3 d4 g, NdE W w v b0 b1 b2 b3 b4 d0 d1 d2 d3 d4 g → G) : G := by
  have f0 := hall 0 (by omega)
  have f1 := hall 1 (by omega)
  have f2 := hall 2 (by omega)
  have f3 := hall 3 (by omega)
  have f4 := hall 4 (by omega)
  obtain ⟨v5, _⟩ := h.h5 (hall 5 (by omega))
  obtain ⟨g, v6, hg, hc⟩ := h.h6 (hall 6 (by omega))
  have r0 := h.gi.row 0 _ rfl f0
  have r1 := h.gi.row 1 _ rfl f1
  have r2 := h.gi.row 2 _ rfl f2
  have r3 := h.gi.row 3 _ rfl f3
  have r4 := h.gi.row 4 _ rfl f4
  have a12 := h.gi.dis 1 2 _ _ rfl rfl (by decide) f1 f2
  have a13 := h.gi.dis 1 3 _ _ rfl rfl (by decide) f1 f3
  have a14 := h.gi.dis 1 4 _ _ rfl rfl (by decide) f1 f4
  have a23 := h.gi.dis 2 3 _ _ rfl rfl (by decide) f2 f3
  have a24 := h.gi.dis 2 4 _ _ rfl rfl (by decide) f2 f4
  have a34 := h.gi.dis 3 4 _ _ rfl rfl (by decide) f3 f4
  obtain ⟨b0, d0, e0⟩ := wk_slice r0
  obtain ⟨b1, d1, e1⟩ := wk_slice r1
  obtain ⟨b2, d2, e2⟩ := wk_slice r2
  obtain ⟨b3, d3, e3⟩ := wk_slice r3
  obtain ⟨b4, d4, e4⟩ := wk_slice r4
  unfold ndCells at hc
  rw [if_pos (hall 7 (by omega))] at hc
  rw [e0, e1, e2, e3, e4] at v5 hc
  rw [e0] at r0
  rw [e1] at r1
  rw [e2] at r2
  rw [e3] at r3
  rw [e4] at r4
  rw [e1, e2] at a12
  rw [e1, e3] at a13
  rw [e1, e4] at a14
  rw [e2, e3] at a23
  rw [e2, e4] at a24
  rw [e3, e4] at a34
  exact k b0 b1 b2 b3 b4 d0 d1 d2 d3 d4 g ⟨e0, e1, e2, e3, e4, v5, v6, ⟨h.bel, h.res, hg, hc, r0, r1, r2, r3, r4, World.ownsRow_nil _ _ _ _⟩, ⟨a12, a13, a14, a23, a24, a34⟩⟩
theorem dis_of_own {a b : Option Addr} {n c m d : Nat} (h : Value.ownBlock (.slice a n c) = none ∨ Value.ownBlock (.slice a n c) ≠ Value.ownBlock (.slice b m d)) : Dis a b := fun x y hx hy e => by
  subst hx hy
  simp only [Value.ownBlock] at h
  rcases h with h | h
  · cases h
  · exact h (by rw [e])
theorem NdL.own {W w : World} {g k : Nat} {ks : List Int} {b0 b1 b2 b3 b4 b5 : Option Addr} {c0 c1 c2 c3 c4 c5 : Nat} (h : NdL W g (.slice b0 16 c0) (.slice b2 8 c2) (.slice b3 8 c3) (.slice b4 8 c4) (.slice b5 8 c5) (.slice b1 k c1) k (ks.map fun q => (q, false, 0, 0)) w) (hk : k = ks.length)
    (d : Apart4 (.slice b2 8 c2) (.slice b3 8 c3) (.slice b4 8 c4) (.slice b5 8 c5)) : DOwn (W.heap.size + 1) ⟨b0, b1, b2, b3, b4, b5, c0, c1, c2, c3, c4, c5⟩ (ndD ks) w := by
  have e1 : (ndD ks).n1 = k := by simp [ndD, Dat.n1, hk]
  refine ⟨h.r0, by rw [e1]; exact h.fb, h.r1, h.r2, h.r3, h.r4, dis_type h.r0 h.fb (by decide), dis_type h.r0 h.r1 (by decide), dis_type h.r0 h.r2 (by decide), dis_type h.r0 h.r3 (by decide), dis_type h.r0 h.r4 (by decide), dis_type h.fb h.r1 (by decide), dis_type h.fb h.r2 (by decide), dis_type h.fb h.r3 (by decide), dis_type h.fb h.r4 (by decide), dis_of_own d.d12, dis_of_own d.d13, dis_of_own d.d14, dis_of_own d.d23, dis_of_own d.d24, dis_of_own d.d34⟩
theorem own_set7 {w : World} {g base size n c : Nat} {e : TypeId} {a : Option Addr} {xs : List Value} (h : w.ownsRow base e size (.slice a n c) n xs) (hg : g < base) (u0 u1 u2 u3 u4 u5 u6 : Value) : (set7 w g u0 u1 u2 u3 u4 u5 u6).ownsRow base e size (.slice a n c) n xs :=
  ownsRow_setCell_below (ownsRow_setCell_below (ownsRow_setCell_below (ownsRow_setCell_below (ownsRow_setCell_below (ownsRow_setCell_below (ownsRow_setCell_below h (a := ⟨g, 0, none⟩) hg u0) (a := ⟨g, 1, none⟩) hg u1) (a := ⟨g, 2, none⟩) hg u2) (a := ⟨g, 3, none⟩) hg u3) (a := ⟨g, 4, none⟩) hg u4) (a := ⟨g, 5, none⟩) hg u5) (a := ⟨g, 6, none⟩) hg u6
theorem bel_set7 {W w : World} {g B : Nat} (h : Below B W w) (hg : B ≤ g) (u0 u1 u2 u3 u4 u5 u6 : Value) : Below B W (set7 w g u0 u1 u2 u3 u4 u5 u6) :=
  ((((((h.setCell (p := ⟨g, 0, none⟩) hg _).setCell (p := ⟨g, 1, none⟩) hg _).setCell (p := ⟨g, 2, none⟩) hg _).setCell (p := ⟨g, 3, none⟩) hg _).setCell (p := ⟨g, 4, none⟩) hg _).setCell (p := ⟨g, 5, none⟩) hg _).setCell (p := ⟨g, 6, none⟩) hg _
theorem DOwn.set7 {B g : Nat} {h : DH} {D : Dat} {w : World} (o : DOwn B h D w) (hg : g < B) (u0 u1 u2 u3 u4 u5 u6 : Value) : DOwn B h D (set7 w g u0 u1 u2 u3 u4 u5 u6) :=
  ⟨own_set7 o.gl hg _ _ _ _ _ _ _, own_set7 o.bl hg _ _ _ _ _ _ _, own_set7 o.la hg _ _ _ _ _ _ _, own_set7 o.pi hg _ _ _ _ _ _ _, own_set7 o.ou hg _ _ _ _ _ _ _, own_set7 o.wi hg _ _ _ _ _ _ _, o.d01, o.d02, o.d03, o.d04, o.d05, o.d12, o.d13, o.d14, o.d15, o.d23, o.d24, o.d25, o.d34, o.d35, o.d45⟩
theorem DOwn.base {B B' : Nat} {h : DH} {D : Dat} {w : World} (o : DOwn B h D w) (hB : B' ≤ B) : DOwn B' h D w :=
  ⟨own_base o.gl hB, own_base o.bl hB, own_base o.la hB, own_base o.pi hB, own_base o.ou hB, own_base o.wi hB, o.d01, o.d02, o.d03, o.d04, o.d05, o.d12, o.d13, o.d14, o.d15, o.d23, o.d24, o.d25, o.d34, o.d35, o.d45⟩
end Go.Proofs.Ytgiegppakoiaiaa
