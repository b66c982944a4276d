/- The laws' copies of data; data that came in. (Written by tools/gen_dat2.py.) -/
import Derived.Test.YtgiegppakoiaiaaDoorDat
namespace Go.Proofs.YtgiegppakoiaiaaDoor
open Go.ChangeShapes Go.WideShapes Go.ChangeAt Go.RowKit
set_option linter.unusedVariables false
theorem four_of' {α : Type} {l : List α} (h : l.length = 4) : ∃ x0 x1 x2 x3, l = [x0, x1, x2, x3] := by
  match l, h with
  | [x0, x1, x2, x3], _ => exact ⟨x0, x1, x2, x3, rfl⟩
theorem seven_of {α : Type} {l : List α} (h : l.length = 7) : ∃ x0 x1 x2 x3 x4 x5 x6, l = [x0, x1, x2, x3, x4, x5, x6] := by
  match l, h with
  | [x0, x1, x2, x3, x4, x5, x6], _ => exact ⟨x0, x1, x2, x3, x4, x5, x6, rfl⟩
theorem came_struct7 {P : Program} {W : World} {t : TypeId} {cs : Array Value} {f0 f1 f2 f3 f4 f5 f6 : Field} (ht : P.underlying t = some (.struct #[f0, f1, f2, f3, f4, f5, f6])) (hc : P.cellsOf t = 7)
    (o : f0.offset = 0 ∧ f1.offset = 1 ∧ f2.offset = 2 ∧ f3.offset = 3 ∧ f4.offset = 4 ∧ f5.offset = 5 ∧ f6.offset = 6) (g : P.cellsOf f0.type = 1 ∧ P.cellsOf f1.type = 1 ∧ P.cellsOf f2.type = 1 ∧ P.cellsOf f3.type = 1 ∧ P.cellsOf f4.type = 1 ∧ P.cellsOf f5.type = 1 ∧ P.cellsOf f6.type = 1) (h : Came P W t cs.toList) :
    ∃ x0 x1 x2 x3 x4 x5 x6, cs = #[x0, x1, x2, x3, x4, x5, x6] ∧ Came P W f0.type [x0] ∧ Came P W f1.type [x1] ∧ Came P W f2.type [x2] ∧ Came P W f3.type [x3] ∧ Came P W f4.type [x4] ∧ Came P W f5.type [x5] ∧ Came P W f6.type [x6] := by
  obtain ⟨hl, hf⟩ := came_struct ht h
  obtain ⟨l⟩ := cs
  obtain ⟨x0, x1, x2, x3, x4, x5, x6, rfl⟩ := seven_of (hl.trans hc)
  obtain ⟨o0, o1, o2, o3, o4, o5, o6⟩ := o
  obtain ⟨g0, g1, g2, g3, g4, g5, g6⟩ := g
  have h0 := hf 0 f0 rfl
  rw [o0, g0] at h0
  have h1 := hf 1 f1 rfl
  rw [o1, g1] at h1
  have h2 := hf 2 f2 rfl
  rw [o2, g2] at h2
  have h3 := hf 3 f3 rfl
  rw [o3, g3] at h3
  have h4 := hf 4 f4 rfl
  rw [o4, g4] at h4
  have h5 := hf 5 f5 rfl
  rw [o5, g5] at h5
  have h6 := hf 6 f6 rfl
  rw [o6, g6] at h6
  exact ⟨x0, x1, x2, x3, x4, x5, x6, rfl, h0, h1, h2, h3, h4, h5, h6⟩
theorem cData : Tryd.prog.cellsOf 56 = 7 := by kernel_rfl
theorem cDSl0 : Tryd.prog.cellsOf 23 = 1 := by kernel_rfl
theorem cDSl1 : Tryd.prog.cellsOf 54 = 1 := by kernel_rfl
theorem cDSl2 : Tryd.prog.cellsOf 25 = 1 := by kernel_rfl
theorem cLFb : Tryd.prog.cellsOf 158 = 4 := by kernel_rfl
theorem came_slv {P : Program} {W : World} {t e : TypeId} {v : Value} (ht : P.underlying t = some (.slice e)) (h : Came P W t [v]) : ∃ a n c, v = .slice a n c := by
  rcases came_slice ht h with h0 | ⟨x, len, cap, h0, _⟩
  · exact ⟨none, 0, 0, by simpa using h0⟩
  · exact ⟨some x, len, cap, by simpa using h0⟩
theorem came_ft {W : World} {es : List Value} (h : Came Tryd.prog W 158 es) : ∃ z : FT, es = fC z := by
  obtain ⟨hl, hf⟩ := came_struct Tryd.underlying158 h
  obtain ⟨x0, x1, x2, x3, rfl⟩ := four_of' (hl.trans cLFb)
  have h0 := hf 0 _ rfl
  have h1 := hf 1 _ rfl
  have h2 := hf 2 _ rfl
  have h3 := hf 3 _ rfl
  have w0 : (([x0, x1, x2, x3] : List Value).drop 0).take (Tryd.prog.cellsOf 3) = [x0] := (congrArg (fun k => (([x0, x1, x2, x3] : List Value).drop 0).take k) cInt1).trans rfl
  have w1 : (([x0, x1, x2, x3] : List Value).drop 1).take (Tryd.prog.cellsOf 4) = [x1] := (congrArg (fun k => (([x0, x1, x2, x3] : List Value).drop 1).take k) cBool1).trans rfl
  have w2 : (([x0, x1, x2, x3] : List Value).drop 2).take (Tryd.prog.cellsOf 3) = [x2] := (congrArg (fun k => (([x0, x1, x2, x3] : List Value).drop 2).take k) cInt1).trans rfl
  have w3 : (([x0, x1, x2, x3] : List Value).drop 3).take (Tryd.prog.cellsOf 3) = [x3] := (congrArg (fun k => (([x0, x1, x2, x3] : List Value).drop 3).take k) cInt1).trans rfl
  have h0' : Came Tryd.prog W 3 [x0] := w0 ▸ h0
  have h1' : Came Tryd.prog W 4 [x1] := w1 ▸ h1
  have h2' : Came Tryd.prog W 3 [x2] := w2 ▸ h2
  have h3' : Came Tryd.prog W 3 [x3] := w3 ▸ h3
  obtain ⟨k, e0, _⟩ := came_int Tryd.underlying3 h0'
  obtain ⟨b, e1⟩ := came_bool Tryd.underlying4 h1'
  obtain ⟨s, e2, _⟩ := came_int Tryd.underlying3 h2'
  obtain ⟨c, e3, _⟩ := came_int Tryd.underlying3 h3'
  simp only [List.cons.injEq, and_true] at e0 e1 e2 e3
  subst e0 e1 e2 e3
  exact ⟨(k, b, s, c), rfl⟩
theorem came_fts {W : World} {a : Option Addr} {n c : Nat} (h : Came Tryd.prog W 54 [.slice a n c]) : n ≤ maxLen ∧ n ≤ c ∧ ∃ fs : List FT, fs.length = n ∧ Lies W a (flat fC fs) :=
  lies_came fC fC_len (by decide) Tryd.underlying54 cLFb (fun es g => came_ft g) h
theorem came_dat {W : World} {cs : Array Value} (h : Came Tryd.prog W 56 cs.toList) : ∃ (H : DH) (D : Dat), Value.agg cs = dV H D ∧ DLies W H D ∧ D.le maxLen := by
  obtain ⟨x0, x1, x2, x3, x4, x5, x6, rfl, h0, h1, h2, h3, h4, h5, h6⟩ := came_struct7 Tryd.underlying56 cData ⟨rfl, rfl, rfl, rfl, rfl, rfl, rfl⟩ ⟨cDSl0, cDSl1, cDSl2, cDSl2, cDSl2, cDSl2, cInt1⟩ h
  obtain ⟨a0, n0, c0, rfl⟩ := came_slv Tryd.underlying23 h0
  obtain ⟨b0, _, l0, e0, z0⟩ := came_ks h0
  obtain ⟨a1, n1, c1, rfl⟩ := came_slv Tryd.underlying54 h1
  obtain ⟨b1, _, l1, e1, z1⟩ := came_fts h1
  obtain ⟨a2, n2, c2, rfl⟩ := came_slv Tryd.underlying25 h2
  obtain ⟨b2, _, l2, e2, z2⟩ := came_bs h2
  obtain ⟨a3, n3, c3, rfl⟩ := came_slv Tryd.underlying25 h3
  obtain ⟨b3, _, l3, e3, z3⟩ := came_bs h3
  obtain ⟨a4, n4, c4, rfl⟩ := came_slv Tryd.underlying25 h4
  obtain ⟨b4, _, l4, e4, z4⟩ := came_bs h4
  obtain ⟨a5, n5, c5, rfl⟩ := came_slv Tryd.underlying25 h5
  obtain ⟨b5, _, l5, e5, z5⟩ := came_bs h5
  obtain ⟨r, e6, _⟩ := came_int Tryd.underlying3 h6
  simp only [List.cons.injEq, and_true] at e6
  subst e0 e1 e2 e3 e4 e5 e6
  exact ⟨⟨a0, a1, a2, a3, a4, a5, c0, c1, c2, c3, c4, c5⟩, ⟨l0, l1, l2, l3, l4, l5, r⟩, rfl, ⟨z0, z1, z2, z3, z4, z5⟩, ⟨b0, b1, b2, b3, b4, b5⟩⟩
def ToIntPost (B : Nat) (n : Nat) (xs : List Value) (w : World) (e : Ending) (w' : World) : Prop := ∃ g, e = .returned (.slice (some ⟨g, 0, none⟩) n n) ∧ w'.ownsRow B 3 1 (.slice (some ⟨g, 0, none⟩) n n) n xs ∧ Below w.heap.size w w'
theorem toIntS_ex (l : List Int) (a : Option Addr) (c : Nat) (hn : l.length ≤ 1048576) (w : World) (hz : Lies w a (kC l)) :
    Calls Tryd.prog 21 #[.slice a l.length c] w (ToIntPost w.heap.size l.length (kC l) w) := (toIntS_any l a c hn w hz).mono fun e w' ⟨h1, h2, h3⟩ => ⟨_, h1, h2, h3⟩
def ToFbPost (B : Nat) (n : Nat) (xs : List Value) (w : World) (e : Ending) (w' : World) : Prop := ∃ g, e = .returned (.slice (some ⟨g, 0, none⟩) n n) ∧ w'.ownsRow B 86 4 (.slice (some ⟨g, 0, none⟩) n n) n xs ∧ Below w.heap.size w w'
theorem toFbS_ex (l : List FT) (a : Option Addr) (c : Nat) (hn : l.length ≤ 1048576) (w : World) (hz : Lies w a (flat fC l)) :
    Calls Tryd.prog 76 #[.slice a l.length c] w (ToFbPost w.heap.size l.length (flat fC l) w) := (toFbS_any l a c hn w hz).mono fun e w' ⟨h1, h2, h3⟩ => ⟨_, h1, h2, h3⟩
def ToBoolPost (B : Nat) (n : Nat) (xs : List Value) (w : World) (e : Ending) (w' : World) : Prop := ∃ g, e = .returned (.slice (some ⟨g, 0, none⟩) n n) ∧ w'.ownsRow B 4 1 (.slice (some ⟨g, 0, none⟩) n n) n xs ∧ Below w.heap.size w w'
theorem toBoolS_ex (l : List Bool) (a : Option Addr) (c : Nat) (hn : l.length ≤ 1048576) (w : World) (hz : Lies w a (flat bI l)) :
    Calls Tryd.prog 77 #[.slice a l.length c] w (ToBoolPost w.heap.size l.length (flat bI l) w) := (toBoolS_any l a c hn w hz).mono fun e w' ⟨h1, h2, h3⟩ => ⟨_, h1, h2, h3⟩
def ToDPost (D : Dat) (w : World) (e : Ending) (w' : World) : Prop := ∃ H : DH, e = .returned (dV H D) ∧ DOwn w.heap.size H D w' ∧ Below w.heap.size w w'
theorem own_far {w : World} {p i : Nat} {base : Nat} {e : TypeId} {size n c : Nat} {a : Option Addr} {xs : List Value} (h : w.ownsRow base e size (.slice a n c) n xs) (hp : p < base) (u : Value) : (w.setCell ⟨p, i, none⟩ u).ownsRow base e size (.slice a n c) n xs :=
  ownsRow_setCell_below h (a := ⟨p, i, none⟩) hp u
theorem blk_far {w : World} {p i k : Nat} {O : Obj} (h : w.heap[k]? = some O) (hp : k ≠ p) (u : Value) : (w.setCell ⟨p, i, none⟩ u).heap[k]? = some O :=
  (Below.heap_setCell w ⟨p, i, none⟩ u k hp).trans h
theorem blk_bel {w w' : World} {k : Nat} {O : Obj} (h : w.heap[k]? = some O) (hb : Below w.heap.size w w') : w'.heap[k]? = some O := (hb.block k (Array.getElem?_eq_some_iff.1 h).1).trans h
theorem own_far8 {w : World} {p q : Nat} {base : Nat} {e : TypeId} {size n c : Nat} {a : Option Addr} {xs : List Value} (h : w.ownsRow base e size (.slice a n c) n xs) (hp : p < base) (hq : q < base) (u u0 u1 u2 u3 u4 u5 u6 : Value) :
    ((((((((w.setCell ⟨p, 6, none⟩ u).setCell ⟨q, 0, none⟩ u0).setCell ⟨q, 1, none⟩ u1).setCell ⟨q, 2, none⟩ u2).setCell ⟨q, 3, none⟩ u3).setCell ⟨q, 4, none⟩ u4).setCell ⟨q, 5, none⟩ u5).setCell ⟨q, 6, none⟩ u6).ownsRow base e size (.slice a n c) n xs :=
  own_far (own_far (own_far (own_far (own_far (own_far (own_far (own_far h hp u) hq u0) hq u1) hq u2) hq u3) hq u4) hq u5) hq u6
theorem bel_far8 {W w : World} {p q B : Nat} (h : Below B W w) (hp : B ≤ p) (hq : B ≤ q) (u u0 u1 u2 u3 u4 u5 u6 : Value) :
    Below B W ((((((((w.setCell ⟨p, 6, none⟩ u).setCell ⟨q, 0, none⟩ u0).setCell ⟨q, 1, none⟩ u1).setCell ⟨q, 2, none⟩ u2).setCell ⟨q, 3, none⟩ u3).setCell ⟨q, 4, none⟩ u4).setCell ⟨q, 5, none⟩ u5).setCell ⟨q, 6, none⟩ u6) :=
  (((((((h.setCell (p := ⟨p, 6, none⟩) hp u).setCell (p := ⟨q, 0, none⟩) hq u0).setCell (p := ⟨q, 1, none⟩) hq u1).setCell (p := ⟨q, 2, none⟩) hq u2).setCell (p := ⟨q, 3, none⟩) hq u3).setCell (p := ⟨q, 4, none⟩) hq u4).setCell (p := ⟨q, 5, none⟩) hq u5).setCell (p := ⟨q, 6, none⟩) hq u6
set_option maxRecDepth 100000 in
set_option maxHeartbeats 4000000 in
theorem toData_any (h : DH) (D : Dat) (hn : D.le 1048576) (w : World) (hz : DLies w h D) : Calls Tryd.prog 32 #[dV h D] w (ToDPost D w) := by
  have HB : Hid (∀ O O' O'' : Obj, Below w.heap.size w (((w.alloc O).alloc O').alloc O'')) := Lib.hid (fun O O' O'' => (((Below.refl w.heap.size w).alloc (Nat.le_refl _) O).alloc (by simp) O').alloc (by simp; omega) O'')
  have HK : Hid (∀ O O' O'' : Obj, (((w.alloc O).alloc O').alloc O'').heap[w.heap.size]? = some O ∧ (((w.alloc O).alloc O').alloc O'').heap[w.heap.size + 1]? = some O' ∧ (((w.alloc O).alloc O').alloc O'').heap[w.heap.size + 2]? = some O'' ∧ (((w.alloc O).alloc O').alloc O'').heap.size = w.heap.size + 3) := Lib.hid (fun O O' O'' =>
    ⟨(Below.heap_alloc _ O'' w.heap.size (by simp; omega)).trans (heap_alloc2_old w O O'), (Below.heap_alloc _ O'' (w.heap.size + 1) (by simp)).trans (heap_alloc2_new w O O'), by have := heap_alloc_new ((w.alloc O).alloc O') O''; simpa using this, by simp⟩)
  have HZ := Lib.hid hz
  have HP : Hid (∀ (H : DH) (w' : World), DOwn w.heap.size H D w' → Below w.heap.size w w' → ToDPost D w (.returned (dV H D)) w') := Lib.hid (fun H w' h1 h2 => ⟨H, rfl, h1, h2⟩)
  have HA0 := Lib.hid (fun w hz => toIntS_ex D.gl h.a0 h.c0 hn.h0 w hz)
  have HA1 := Lib.hid (fun w hz => toFbS_ex D.bl h.a1 h.c1 hn.h1 w hz)
  have HA2 := Lib.hid (fun w hz => toBoolS_ex D.la h.a2 h.c2 hn.h2 w hz)
  have HA3 := Lib.hid (fun w hz => toBoolS_ex D.pi h.a3 h.c3 hn.h3 w hz)
  have HA4 := Lib.hid (fun w hz => toBoolS_ex D.ou h.a4 h.c4 hn.h4 w hz)
  have HA5 := Lib.hid (fun w hz => toBoolS_ex D.wi h.a5 h.c5 hn.h5 w hz)
  clear hz
  generalize ToDPost D w = POST at *
  go_enter Tryd.func32, Tryd.ntmps32
  go_wp2_with fail
  refine Calls.mono (HA0.out _ ((HZ.out.below (HB.out _ _ _) (Nat.le_refl _)).gl)) ?_
  rintro e w1 ⟨g0, rfl, ho, hb⟩
  obtain ⟨s0, s1, s2, s3⟩ := HK.out (dO h D 56) (.cells #[.slice none 0 0, .slice none 0 0, .slice none 0 0, .slice none 0 0, .slice none 0 0, .slice none 0 0, .int .i64 0] 27) (.cells #[.slice none 0 0, .slice none 0 0, .slice none 0 0, .slice none 0 0, .slice none 0 0, .slice none 0 0, .int .i64 0] 27)
  have K0 := Lib.hid (blk_bel s0 hb)
  have K1 := Lib.hid (blk_bel s1 hb)
  have K2 := Lib.hid (blk_bel s2 hb)
  have Hb := Lib.hid ((HB.out _ _ _).trans (hb.mono (by rw [s3]; omega)))
  have HL := Lib.hid (show w.heap.size + 3 ≤ w1.heap.size by have := hb.size; rw [s3] at this; exact this)
  rw [s3] at ho
  have R0 := Lib.hid ho
  clear s0 s1 s2 s3 ho hb
  have c0 := cell_of_row w1 (w.heap.size + 2) 0 _ _ _ K2.out
  have c1 := frozen_of_row w1 (w.heap.size + 2) 0 _ _ K2.out
  have c2 := cell_of_row w1 w.heap.size 1 _ _ _ K0.out
  have K0 := Lib.hid (blk_far (p := w.heap.size + 2) (i := 0) K0.out (by omega) (.slice (some ⟨g0, 0, none⟩) D.n0 D.n0))
  have K1 := Lib.hid (blk_far (p := w.heap.size + 2) (i := 0) K1.out (by omega) (.slice (some ⟨g0, 0, none⟩) D.n0 D.n0))
  have K2 : Hid ((w1.setCell ⟨w.heap.size + 2, 0, none⟩ (.slice (some ⟨g0, 0, none⟩) D.n0 D.n0)).heap[w.heap.size + 2]? = some (.cells #[.slice (some ⟨g0, 0, none⟩) D.n0 D.n0, .slice none 0 0, .slice none 0 0, .slice none 0 0, .slice none 0 0, .slice none 0 0, .int .i64 0] 27)) := Lib.hid (wk_set K2.out 0 (.slice (some ⟨g0, 0, none⟩) D.n0 D.n0))
  have R0 := Lib.hid (own_far (p := w.heap.size + 2) (i := 0) R0.out (by omega) (.slice (some ⟨g0, 0, none⟩) D.n0 D.n0))
  have Hb := Lib.hid (Hb.out.setCell (p := ⟨w.heap.size + 2, 0, none⟩) (by simp only; omega) (.slice (some ⟨g0, 0, none⟩) D.n0 D.n0))
  have HL := Lib.hid (show w.heap.size + 3 ≤ (w1.setCell ⟨w.heap.size + 2, 0, none⟩ (.slice (some ⟨g0, 0, none⟩) D.n0 D.n0)).heap.size by simp only [World.setCell, Array.size_modify]; exact HL.out)
  go_wp2_with fail
  refine Calls.mono (HA1.out _ ((HZ.out.below Hb.out (Nat.le_refl _)).bl)) ?_
  rintro e w2 ⟨g1, rfl, ho, hb⟩
  have E01 := Lib.hid (dis_new R0.out ho)
  have R0 := Lib.hid (own_bl R0.out hb)
  have R1 := Lib.hid (own_base ho HL.out)
  have K0 := Lib.hid (blk_bel K0.out hb)
  have K1 := Lib.hid (blk_bel K1.out hb)
  have K2 := Lib.hid (blk_bel K2.out hb)
  have Hb := Lib.hid (Hb.out.trans (hb.mono (Nat.le_trans (Nat.le_add_right _ 3) HL.out)))
  have HL := Lib.hid (Nat.le_trans HL.out hb.size)
  clear ho hb
  have c0 := cell_of_row w2 (w.heap.size + 2) 1 _ _ _ K2.out
  have c1 := frozen_of_row w2 (w.heap.size + 2) 1 _ _ K2.out
  have c2 := cell_of_row w2 w.heap.size 2 _ _ _ K0.out
  have K0 := Lib.hid (blk_far (p := w.heap.size + 2) (i := 1) K0.out (by omega) (.slice (some ⟨g1, 0, none⟩) D.n1 D.n1))
  have K1 := Lib.hid (blk_far (p := w.heap.size + 2) (i := 1) K1.out (by omega) (.slice (some ⟨g1, 0, none⟩) D.n1 D.n1))
  have K2 : Hid ((w2.setCell ⟨w.heap.size + 2, 1, none⟩ (.slice (some ⟨g1, 0, none⟩) D.n1 D.n1)).heap[w.heap.size + 2]? = some (.cells #[.slice (some ⟨g0, 0, none⟩) D.n0 D.n0, .slice (some ⟨g1, 0, none⟩) D.n1 D.n1, .slice none 0 0, .slice none 0 0, .slice none 0 0, .slice none 0 0, .int .i64 0] 27)) := Lib.hid (wk_set K2.out 1 (.slice (some ⟨g1, 0, none⟩) D.n1 D.n1))
  have R0 := Lib.hid (own_far (p := w.heap.size + 2) (i := 1) R0.out (by omega) (.slice (some ⟨g1, 0, none⟩) D.n1 D.n1))
  have R1 := Lib.hid (own_far (p := w.heap.size + 2) (i := 1) R1.out (by omega) (.slice (some ⟨g1, 0, none⟩) D.n1 D.n1))
  have Hb := Lib.hid (Hb.out.setCell (p := ⟨w.heap.size + 2, 1, none⟩) (by simp only; omega) (.slice (some ⟨g1, 0, none⟩) D.n1 D.n1))
  have HL := Lib.hid (show w.heap.size + 3 ≤ (w2.setCell ⟨w.heap.size + 2, 1, none⟩ (.slice (some ⟨g1, 0, none⟩) D.n1 D.n1)).heap.size by simp only [World.setCell, Array.size_modify]; exact HL.out)
  go_wp2_with fail
  refine Calls.mono (HA2.out _ ((HZ.out.below Hb.out (Nat.le_refl _)).la)) ?_
  rintro e w3 ⟨g2, rfl, ho, hb⟩
  have E02 := Lib.hid (dis_new R0.out ho)
  have E12 := Lib.hid (dis_new R1.out ho)
  have R0 := Lib.hid (own_bl R0.out hb)
  have R1 := Lib.hid (own_bl R1.out hb)
  have R2 := Lib.hid (own_base ho HL.out)
  have K0 := Lib.hid (blk_bel K0.out hb)
  have K1 := Lib.hid (blk_bel K1.out hb)
  have K2 := Lib.hid (blk_bel K2.out hb)
  have Hb := Lib.hid (Hb.out.trans (hb.mono (Nat.le_trans (Nat.le_add_right _ 3) HL.out)))
  have HL := Lib.hid (Nat.le_trans HL.out hb.size)
  clear ho hb
  have c0 := cell_of_row w3 (w.heap.size + 2) 2 _ _ _ K2.out
  have c1 := frozen_of_row w3 (w.heap.size + 2) 2 _ _ K2.out
  have c2 := cell_of_row w3 w.heap.size 3 _ _ _ K0.out
  have K0 := Lib.hid (blk_far (p := w.heap.size + 2) (i := 2) K0.out (by omega) (.slice (some ⟨g2, 0, none⟩) D.n2 D.n2))
  have K1 := Lib.hid (blk_far (p := w.heap.size + 2) (i := 2) K1.out (by omega) (.slice (some ⟨g2, 0, none⟩) D.n2 D.n2))
  have K2 : Hid ((w3.setCell ⟨w.heap.size + 2, 2, none⟩ (.slice (some ⟨g2, 0, none⟩) D.n2 D.n2)).heap[w.heap.size + 2]? = some (.cells #[.slice (some ⟨g0, 0, none⟩) D.n0 D.n0, .slice (some ⟨g1, 0, none⟩) D.n1 D.n1, .slice (some ⟨g2, 0, none⟩) D.n2 D.n2, .slice none 0 0, .slice none 0 0, .slice none 0 0, .int .i64 0] 27)) := Lib.hid (wk_set K2.out 2 (.slice (some ⟨g2, 0, none⟩) D.n2 D.n2))
  have R0 := Lib.hid (own_far (p := w.heap.size + 2) (i := 2) R0.out (by omega) (.slice (some ⟨g2, 0, none⟩) D.n2 D.n2))
  have R1 := Lib.hid (own_far (p := w.heap.size + 2) (i := 2) R1.out (by omega) (.slice (some ⟨g2, 0, none⟩) D.n2 D.n2))
  have R2 := Lib.hid (own_far (p := w.heap.size + 2) (i := 2) R2.out (by omega) (.slice (some ⟨g2, 0, none⟩) D.n2 D.n2))
  have Hb := Lib.hid (Hb.out.setCell (p := ⟨w.heap.size + 2, 2, none⟩) (by simp only; omega) (.slice (some ⟨g2, 0, none⟩) D.n2 D.n2))
  have HL := Lib.hid (show w.heap.size + 3 ≤ (w3.setCell ⟨w.heap.size + 2, 2, none⟩ (.slice (some ⟨g2, 0, none⟩) D.n2 D.n2)).heap.size by simp only [World.setCell, Array.size_modify]; exact HL.out)
  go_wp2_with fail
  refine Calls.mono (HA3.out _ ((HZ.out.below Hb.out (Nat.le_refl _)).pi)) ?_
  rintro e w4 ⟨g3, rfl, ho, hb⟩
  have E03 := Lib.hid (dis_new R0.out ho)
  have E13 := Lib.hid (dis_new R1.out ho)
  have E23 := Lib.hid (dis_new R2.out ho)
  have R0 := Lib.hid (own_bl R0.out hb)
  have R1 := Lib.hid (own_bl R1.out hb)
  have R2 := Lib.hid (own_bl R2.out hb)
  have R3 := Lib.hid (own_base ho HL.out)
  have K0 := Lib.hid (blk_bel K0.out hb)
  have K1 := Lib.hid (blk_bel K1.out hb)
  have K2 := Lib.hid (blk_bel K2.out hb)
  have Hb := Lib.hid (Hb.out.trans (hb.mono (Nat.le_trans (Nat.le_add_right _ 3) HL.out)))
  have HL := Lib.hid (Nat.le_trans HL.out hb.size)
  clear ho hb
  have c0 := cell_of_row w4 (w.heap.size + 2) 3 _ _ _ K2.out
  have c1 := frozen_of_row w4 (w.heap.size + 2) 3 _ _ K2.out
  have c2 := cell_of_row w4 w.heap.size 4 _ _ _ K0.out
  have K0 := Lib.hid (blk_far (p := w.heap.size + 2) (i := 3) K0.out (by omega) (.slice (some ⟨g3, 0, none⟩) D.n3 D.n3))
  have K1 := Lib.hid (blk_far (p := w.heap.size + 2) (i := 3) K1.out (by omega) (.slice (some ⟨g3, 0, none⟩) D.n3 D.n3))
  have K2 : Hid ((w4.setCell ⟨w.heap.size + 2, 3, none⟩ (.slice (some ⟨g3, 0, none⟩) D.n3 D.n3)).heap[w.heap.size + 2]? = some (.cells #[.slice (some ⟨g0, 0, none⟩) D.n0 D.n0, .slice (some ⟨g1, 0, none⟩) D.n1 D.n1, .slice (some ⟨g2, 0, none⟩) D.n2 D.n2, .slice (some ⟨g3, 0, none⟩) D.n3 D.n3, .slice none 0 0, .slice none 0 0, .int .i64 0] 27)) := Lib.hid (wk_set K2.out 3 (.slice (some ⟨g3, 0, none⟩) D.n3 D.n3))
  have R0 := Lib.hid (own_far (p := w.heap.size + 2) (i := 3) R0.out (by omega) (.slice (some ⟨g3, 0, none⟩) D.n3 D.n3))
  have R1 := Lib.hid (own_far (p := w.heap.size + 2) (i := 3) R1.out (by omega) (.slice (some ⟨g3, 0, none⟩) D.n3 D.n3))
  have R2 := Lib.hid (own_far (p := w.heap.size + 2) (i := 3) R2.out (by omega) (.slice (some ⟨g3, 0, none⟩) D.n3 D.n3))
  have R3 := Lib.hid (own_far (p := w.heap.size + 2) (i := 3) R3.out (by omega) (.slice (some ⟨g3, 0, none⟩) D.n3 D.n3))
  have Hb := Lib.hid (Hb.out.setCell (p := ⟨w.heap.size + 2, 3, none⟩) (by simp only; omega) (.slice (some ⟨g3, 0, none⟩) D.n3 D.n3))
  have HL := Lib.hid (show w.heap.size + 3 ≤ (w4.setCell ⟨w.heap.size + 2, 3, none⟩ (.slice (some ⟨g3, 0, none⟩) D.n3 D.n3)).heap.size by simp only [World.setCell, Array.size_modify]; exact HL.out)
  go_wp2_with fail
  refine Calls.mono (HA4.out _ ((HZ.out.below Hb.out (Nat.le_refl _)).ou)) ?_
  rintro e w5 ⟨g4, rfl, ho, hb⟩
  have E04 := Lib.hid (dis_new R0.out ho)
  have E14 := Lib.hid (dis_new R1.out ho)
  have E24 := Lib.hid (dis_new R2.out ho)
  have E34 := Lib.hid (dis_new R3.out ho)
  have R0 := Lib.hid (own_bl R0.out hb)
  have R1 := Lib.hid (own_bl R1.out hb)
  have R2 := Lib.hid (own_bl R2.out hb)
  have R3 := Lib.hid (own_bl R3.out hb)
  have R4 := Lib.hid (own_base ho HL.out)
  have K0 := Lib.hid (blk_bel K0.out hb)
  have K1 := Lib.hid (blk_bel K1.out hb)
  have K2 := Lib.hid (blk_bel K2.out hb)
  have Hb := Lib.hid (Hb.out.trans (hb.mono (Nat.le_trans (Nat.le_add_right _ 3) HL.out)))
  have HL := Lib.hid (Nat.le_trans HL.out hb.size)
  clear ho hb
  have c0 := cell_of_row w5 (w.heap.size + 2) 4 _ _ _ K2.out
  have c1 := frozen_of_row w5 (w.heap.size + 2) 4 _ _ K2.out
  have c2 := cell_of_row w5 w.heap.size 5 _ _ _ K0.out
  have K0 := Lib.hid (blk_far (p := w.heap.size + 2) (i := 4) K0.out (by omega) (.slice (some ⟨g4, 0, none⟩) D.n4 D.n4))
  have K1 := Lib.hid (blk_far (p := w.heap.size + 2) (i := 4) K1.out (by omega) (.slice (some ⟨g4, 0, none⟩) D.n4 D.n4))
  have K2 : Hid ((w5.setCell ⟨w.heap.size + 2, 4, none⟩ (.slice (some ⟨g4, 0, none⟩) D.n4 D.n4)).heap[w.heap.size + 2]? = some (.cells #[.slice (some ⟨g0, 0, none⟩) D.n0 D.n0, .slice (some ⟨g1, 0, none⟩) D.n1 D.n1, .slice (some ⟨g2, 0, none⟩) D.n2 D.n2, .slice (some ⟨g3, 0, none⟩) D.n3 D.n3, .slice (some ⟨g4, 0, none⟩) D.n4 D.n4, .slice none 0 0, .int .i64 0] 27)) := Lib.hid (wk_set K2.out 4 (.slice (some ⟨g4, 0, none⟩) D.n4 D.n4))
  have R0 := Lib.hid (own_far (p := w.heap.size + 2) (i := 4) R0.out (by omega) (.slice (some ⟨g4, 0, none⟩) D.n4 D.n4))
  have R1 := Lib.hid (own_far (p := w.heap.size + 2) (i := 4) R1.out (by omega) (.slice (some ⟨g4, 0, none⟩) D.n4 D.n4))
  have R2 := Lib.hid (own_far (p := w.heap.size + 2) (i := 4) R2.out (by omega) (.slice (some ⟨g4, 0, none⟩) D.n4 D.n4))
  have R3 := Lib.hid (own_far (p := w.heap.size + 2) (i := 4) R3.out (by omega) (.slice (some ⟨g4, 0, none⟩) D.n4 D.n4))
  have R4 := Lib.hid (own_far (p := w.heap.size + 2) (i := 4) R4.out (by omega) (.slice (some ⟨g4, 0, none⟩) D.n4 D.n4))
  have Hb := Lib.hid (Hb.out.setCell (p := ⟨w.heap.size + 2, 4, none⟩) (by simp only; omega) (.slice (some ⟨g4, 0, none⟩) D.n4 D.n4))
  have HL := Lib.hid (show w.heap.size + 3 ≤ (w5.setCell ⟨w.heap.size + 2, 4, none⟩ (.slice (some ⟨g4, 0, none⟩) D.n4 D.n4)).heap.size by simp only [World.setCell, Array.size_modify]; exact HL.out)
  go_wp2_with fail
  refine Calls.mono (HA5.out _ ((HZ.out.below Hb.out (Nat.le_refl _)).wi)) ?_
  rintro e w6 ⟨g5, rfl, ho, hb⟩
  have E05 := Lib.hid (dis_new R0.out ho)
  have E15 := Lib.hid (dis_new R1.out ho)
  have E25 := Lib.hid (dis_new R2.out ho)
  have E35 := Lib.hid (dis_new R3.out ho)
  have E45 := Lib.hid (dis_new R4.out ho)
  have R0 := Lib.hid (own_bl R0.out hb)
  have R1 := Lib.hid (own_bl R1.out hb)
  have R2 := Lib.hid (own_bl R2.out hb)
  have R3 := Lib.hid (own_bl R3.out hb)
  have R4 := Lib.hid (own_bl R4.out hb)
  have R5 := Lib.hid (own_base ho HL.out)
  have K0 := Lib.hid (blk_bel K0.out hb)
  have K1 := Lib.hid (blk_bel K1.out hb)
  have K2 := Lib.hid (blk_bel K2.out hb)
  have Hb := Lib.hid (Hb.out.trans (hb.mono (Nat.le_trans (Nat.le_add_right _ 3) HL.out)))
  have HL := Lib.hid (Nat.le_trans HL.out hb.size)
  clear ho hb
  have c0 := cell_of_row w6 (w.heap.size + 2) 5 _ _ _ K2.out
  have c1 := frozen_of_row w6 (w.heap.size + 2) 5 _ _ K2.out
  have c2 := cell_of_row w6 w.heap.size 6 _ _ _ K0.out
  have p0 := cell_of_row w6 (w.heap.size + 2) 0 _ _ _ K2.out
  have r0 := cell_of_row w6 (w.heap.size + 1) 0 _ _ _ K1.out
  have f0 := frozen_of_row w6 (w.heap.size + 1) 0 _ _ K1.out
  have p1 := cell_of_row w6 (w.heap.size + 2) 1 _ _ _ K2.out
  have r1 := cell_of_row w6 (w.heap.size + 1) 1 _ _ _ K1.out
  have f1 := frozen_of_row w6 (w.heap.size + 1) 1 _ _ K1.out
  have p2 := cell_of_row w6 (w.heap.size + 2) 2 _ _ _ K2.out
  have r2 := cell_of_row w6 (w.heap.size + 1) 2 _ _ _ K1.out
  have f2 := frozen_of_row w6 (w.heap.size + 1) 2 _ _ K1.out
  have p3 := cell_of_row w6 (w.heap.size + 2) 3 _ _ _ K2.out
  have r3 := cell_of_row w6 (w.heap.size + 1) 3 _ _ _ K1.out
  have f3 := frozen_of_row w6 (w.heap.size + 1) 3 _ _ K1.out
  have p4 := cell_of_row w6 (w.heap.size + 2) 4 _ _ _ K2.out
  have r4 := cell_of_row w6 (w.heap.size + 1) 4 _ _ _ K1.out
  have f4 := frozen_of_row w6 (w.heap.size + 1) 4 _ _ K1.out
  have p5 := cell_of_row w6 (w.heap.size + 2) 5 _ _ _ K2.out
  have r5 := cell_of_row w6 (w.heap.size + 1) 5 _ _ _ K1.out
  have f5 := frozen_of_row w6 (w.heap.size + 1) 5 _ _ K1.out
  have p6 := cell_of_row w6 (w.heap.size + 2) 6 _ _ _ K2.out
  have r6 := cell_of_row w6 (w.heap.size + 1) 6 _ _ _ K1.out
  have f6 := frozen_of_row w6 (w.heap.size + 1) 6 _ _ K1.out
  have p7 := frozen_of_row w6 (w.heap.size + 2) 6 _ _ K2.out
  clear c0 c2
  have c2 := cell_of_row w6 w.heap.size 6 _ _ _ K0.out
  have K0 := Lib.hid (blk_far (p := w.heap.size + 2) (i := 5) K0.out (by omega) (.slice (some ⟨g5, 0, none⟩) D.n5 D.n5))
  have K1 := Lib.hid (blk_far (p := w.heap.size + 2) (i := 5) K1.out (by omega) (.slice (some ⟨g5, 0, none⟩) D.n5 D.n5))
  have K2 : Hid ((w6.setCell ⟨w.heap.size + 2, 5, none⟩ (.slice (some ⟨g5, 0, none⟩) D.n5 D.n5)).heap[w.heap.size + 2]? = some (.cells #[.slice (some ⟨g0, 0, none⟩) D.n0 D.n0, .slice (some ⟨g1, 0, none⟩) D.n1 D.n1, .slice (some ⟨g2, 0, none⟩) D.n2 D.n2, .slice (some ⟨g3, 0, none⟩) D.n3 D.n3, .slice (some ⟨g4, 0, none⟩) D.n4 D.n4, .slice (some ⟨g5, 0, none⟩) D.n5 D.n5, .int .i64 0] 27)) := Lib.hid (wk_set K2.out 5 (.slice (some ⟨g5, 0, none⟩) D.n5 D.n5))
  have R0 := Lib.hid (own_far (p := w.heap.size + 2) (i := 5) R0.out (by omega) (.slice (some ⟨g5, 0, none⟩) D.n5 D.n5))
  have R1 := Lib.hid (own_far (p := w.heap.size + 2) (i := 5) R1.out (by omega) (.slice (some ⟨g5, 0, none⟩) D.n5 D.n5))
  have R2 := Lib.hid (own_far (p := w.heap.size + 2) (i := 5) R2.out (by omega) (.slice (some ⟨g5, 0, none⟩) D.n5 D.n5))
  have R3 := Lib.hid (own_far (p := w.heap.size + 2) (i := 5) R3.out (by omega) (.slice (some ⟨g5, 0, none⟩) D.n5 D.n5))
  have R4 := Lib.hid (own_far (p := w.heap.size + 2) (i := 5) R4.out (by omega) (.slice (some ⟨g5, 0, none⟩) D.n5 D.n5))
  have R5 := Lib.hid (own_far (p := w.heap.size + 2) (i := 5) R5.out (by omega) (.slice (some ⟨g5, 0, none⟩) D.n5 D.n5))
  have Hb := Lib.hid (Hb.out.setCell (p := ⟨w.heap.size + 2, 5, none⟩) (by simp only; omega) (.slice (some ⟨g5, 0, none⟩) D.n5 D.n5))
  have HL := Lib.hid (show w.heap.size + 3 ≤ (w6.setCell ⟨w.heap.size + 2, 5, none⟩ (.slice (some ⟨g5, 0, none⟩) D.n5 D.n5)).heap.size by simp only [World.setCell, Array.size_modify]; exact HL.out)
  go_wp2
  refine bodyPost_ret (v := .agg #[.slice (some ⟨g0, 0, none⟩) D.n0 D.n0, .slice (some ⟨g1, 0, none⟩) D.n1 D.n1, .slice (some ⟨g2, 0, none⟩) D.n2 D.n2, .slice (some ⟨g3, 0, none⟩) D.n3 D.n3, .slice (some ⟨g4, 0, none⟩) D.n4 D.n4, .slice (some ⟨g5, 0, none⟩) D.wi.length D.wi.length, .int .i64 D.wr]) (by simp [results, Tryd.results32, go_sem, r0, r1, r2, r3, r4, r5, r6]) rfl ?_
  refine HP.out ⟨some ⟨g0, 0, none⟩, some ⟨g1, 0, none⟩, some ⟨g2, 0, none⟩, some ⟨g3, 0, none⟩, some ⟨g4, 0, none⟩, some ⟨g5, 0, none⟩, D.n0, D.n1, D.n2, D.n3, D.n4, D.n5⟩ _ ⟨own_base (own_far8 R0.out (by omega) (by omega) _ _ _ _ _ _ _ _) (Nat.le_add_right _ 3), own_base (own_far8 R1.out (by omega) (by omega) _ _ _ _ _ _ _ _) (Nat.le_add_right _ 3), own_base (own_far8 R2.out (by omega) (by omega) _ _ _ _ _ _ _ _) (Nat.le_add_right _ 3), own_base (own_far8 R3.out (by omega) (by omega) _ _ _ _ _ _ _ _) (Nat.le_add_right _ 3), own_base (own_far8 R4.out (by omega) (by omega) _ _ _ _ _ _ _ _) (Nat.le_add_right _ 3), own_base (own_far8 R5.out (by omega) (by omega) _ _ _ _ _ _ _ _) (Nat.le_add_right _ 3), E01.out, E02.out, E03.out, E04.out, E05.out, E12.out, E13.out, E14.out, E15.out, E23.out, E24.out, E25.out, E34.out, E35.out, E45.out⟩ (bel_far8 Hb.out (by omega) (by omega) _ _ _ _ _ _ _ _)
end Go.Proofs.YtgiegppakoiaiaaDoor
