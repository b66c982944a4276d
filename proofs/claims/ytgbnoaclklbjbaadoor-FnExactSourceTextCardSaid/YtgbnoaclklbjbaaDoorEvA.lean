/- Sources: the laws' copies, comparisons, sizes, marks. -/
import Derived.Test.YtgbnoaclklbjbaaDoorTsk
namespace Go.Proofs.YtgbnoaclklbjbaaDoor
open Go.ChangeShapes Go.WideShapes Go.ChangeAt Go.RowKit
set_option linter.unusedVariables false
structure ST where
  l : Int
  a : Int
  d : Int
  t : Int
  s : Int
  p : Int
  q : List Int
abbrev sV (x : ST) (b : Option Addr) (c : Nat) : Value := .agg #[.int .i64 x.l, .int .i64 x.a, .int .i64 x.d, .int .i64 x.t, .int .i64 x.s, .int .i64 x.p, .slice b x.q.length c]
abbrev sO (x : ST) (b : Option Addr) (c : Nat) (t : TypeId) : Obj := .cells #[.int .i64 x.l, .int .i64 x.a, .int .i64 x.d, .int .i64 x.t, .int .i64 x.s, .int .i64 x.p, .slice b x.q.length c] t
def s0 : ST := ⟨0, 0, 0, 0, 0, 0, []⟩
theorem ev_seven {α : Type} {l : List α} (h : l.length = 7) : ∃ x0 x1 x2 x3 x4 x5 x6, l = [x0, x1, x2, x3, x4, x5, x6] := by
  match l, h with
  | [x0, x1, x2, x3, x4, x5, x6], _ => exact ⟨x0, x1, x2, x3, x4, x5, x6, rfl⟩
theorem cSrc : Tryd.prog.cellsOf 24 = 7 := by kernel_rfl
theorem cSrcS : Tryd.prog.cellsOf 22 = 1 := by kernel_rfl
theorem came_src {W : World} {cs : Array Value} (h : Came Tryd.prog W 24 cs.toList) : ∃ (x : ST) (b : Option Addr) (c : Nat), Value.agg cs = sV x b c ∧ Lies W b (kC x.q) ∧ x.q.length ≤ maxLen := by
  obtain ⟨l⟩ := cs
  obtain ⟨hl, hf⟩ := came_struct Tryd.underlying24 h
  obtain ⟨x0, x1, x2, x3, x4, x5, x6, rfl⟩ := ev_seven (hl.trans cSrc)
  have g : ∀ (i : Nat) (y : Value), ([x0, x1, x2, x3, x4, x5, x6] : List Value)[i]? = some y → (([x0, x1, x2, x3, x4, x5, x6] : List Value).drop i).take (Tryd.prog.cellsOf 3) = [y] := fun i y hy => by
    rw [cTInt]
    match i, hy with
    | 0, hy | 1, hy | 2, hy | 3, hy | 4, hy | 5, hy | 6, hy => simp at hy; subst hy; rfl
    | i + 7, hy => simp at hy
  have h0 : Came Tryd.prog W 3 [x0] := g 0 _ rfl ▸ hf 0 _ rfl
  have h1 : Came Tryd.prog W 3 [x1] := g 1 _ rfl ▸ hf 1 _ rfl
  have h2 : Came Tryd.prog W 3 [x2] := g 2 _ rfl ▸ hf 2 _ rfl
  have h3 : Came Tryd.prog W 3 [x3] := g 3 _ rfl ▸ hf 3 _ rfl
  have h4 : Came Tryd.prog W 3 [x4] := g 4 _ rfl ▸ hf 4 _ rfl
  have h5 : Came Tryd.prog W 3 [x5] := g 5 _ rfl ▸ hf 5 _ rfl
  have e6 : (([x0, x1, x2, x3, x4, x5, x6] : List Value).drop 6).take (Tryd.prog.cellsOf 22) = [x6] := by rw [cSrcS]; rfl
  have h6 : Came Tryd.prog W 22 [x6] := e6 ▸ hf 6 _ rfl
  obtain ⟨k0, e0, _⟩ := came_int Tryd.underlying3 h0
  obtain ⟨k1, e1, _⟩ := came_int Tryd.underlying3 h1
  obtain ⟨k2, e2, _⟩ := came_int Tryd.underlying3 h2
  obtain ⟨k3, e3, _⟩ := came_int Tryd.underlying3 h3
  obtain ⟨k4, e4, _⟩ := came_int Tryd.underlying3 h4
  obtain ⟨k5, e5, _⟩ := came_int Tryd.underlying3 h5
  obtain ⟨b, n, c, rfl⟩ := came_slv Tryd.underlying22 h6
  obtain ⟨hm, _, ks, rfl, hz⟩ := came_ks h6
  simp only [List.cons.injEq, and_true] at e0 e1 e2 e3 e4 e5
  subst e0 e1 e2 e3 e4 e5
  exact ⟨⟨k0, k1, k2, k3, k4, k5, ks⟩, b, c, rfl, hz, hm⟩
theorem ev_ri {a b : Int} (h : a = b) : Ending.returned (.int .i64 a) = .returned (.int .i64 b) := by rw [h]
def SSzPost (n : Nat) (w : World) (e : Ending) (w' : World) : Prop := Below w.heap.size w w' ∧ ∃ r : Int, e = .returned (.int .i64 r) ∧ (r = -1 ∨ (0 ≤ r ∧ n ≤ 1048576))
theorem szSource_any (x : ST) (b : Option Addr) (c : Nat) (hm : x.q.length ≤ maxLen) (w : World) : Calls Tryd.prog 5 #[sV x b c, .int .i64 1048576] w (SSzPost x.q.length w) := by
  obtain ⟨l, a, d, t, s, p, q⟩ := x
  show Calls Tryd.prog 5 #[.agg #[.int .i64 l, .int .i64 a, .int .i64 d, .int .i64 t, .int .i64 s, .int .i64 p, .slice b q.length c], .int .i64 1048576] w (SSzPost q.length w)
  have hm' := hm
  unfold maxLen at hm'
  simp only at hm hm'
  generalize hn : q.length = n at *
  clear hn
  have HP1 : Hid (∀ w', Below w.heap.size w w' → SSzPost n w (.returned (.int .i64 (-1))) w') := Lib.hid (fun w' hb => ⟨hb, -1, rfl, .inl rfl⟩)
  have HP2 : Hid (∀ w' r, Below w.heap.size w w' → 0 ≤ r → n ≤ 1048576 → SSzPost n w (.returned (.int .i64 r)) w') := Lib.hid (fun w' r hb h1 h2 => ⟨hb, r, rfl, .inr ⟨h1, h2⟩⟩)
  have HA := Lib.hid (dbox w (.cells #[.int .i64 l, .int .i64 a, .int .i64 d, .int .i64 t, .int .i64 s, .int .i64 p, .slice b n c] 24))
  generalize SSzPost n w = POST at *
  by_cases k0 : (n : Int) ≤ 1048576
  · have g0 : ¬ ((1048576 : Int) - n < 0) := by omega
    go_enter Tryd.func5, Tryd.ntmps5
    go_wp2_with fail
    refine Calls.mono (szIntS_ok b n c 1048576 k0 (by omega) _) ?_
    rintro e w' ⟨rfl, rfl⟩
    go_wp2
    exact HP2.out _ _ HA.out (by omega) (by omega)
  · go_enter Tryd.func5, Tryd.ntmps5
    go_wp2_with fail
    refine Calls.mono (szIntS_no b n c 1048576 hm (by omega) (by omega) _) ?_
    rintro e w' ⟨rfl, rfl⟩
    go_wp2
    exact HP1.out _ HA.out
theorem ev_far8 {w : World} {p q : Nat} {base : Nat} {e : TypeId} {size n c : Nat} {a : Option Addr} {xs : List Value} (h : w.ownsRow base e size (.slice a n c) n xs) (hp : p < base) (hq : q < base) (u u0 u1 u2 u3 u4 u5 u6 : Value) :
    ((((((((w.setCell ⟨p, 6, none⟩ u).setCell ⟨q, 0, none⟩ u0).setCell ⟨q, 1, none⟩ u1).setCell ⟨q, 2, none⟩ u2).setCell ⟨q, 3, none⟩ u3).setCell ⟨q, 4, none⟩ u4).setCell ⟨q, 5, none⟩ u5).setCell ⟨q, 6, none⟩ u6).ownsRow base e size (.slice a n c) n xs :=
  own_far (own_far (own_far (own_far (own_far (own_far (own_far (own_far h hp u) hq u0) hq u1) hq u2) hq u3) hq u4) hq u5) hq u6
theorem ev_bel7 {W w : World} {q B : Nat} (h : Below B W w) (hq : B ≤ q) (u0 u1 u2 u3 u4 u5 u6 : Value) :
    Below B W (((((((w.setCell ⟨q, 0, none⟩ u0).setCell ⟨q, 1, none⟩ u1).setCell ⟨q, 2, none⟩ u2).setCell ⟨q, 3, none⟩ u3).setCell ⟨q, 4, none⟩ u4).setCell ⟨q, 5, none⟩ u5).setCell ⟨q, 6, none⟩ u6) :=
  ((((((h.setCell (p := ⟨q, 0, none⟩) hq u0).setCell (p := ⟨q, 1, none⟩) hq u1).setCell (p := ⟨q, 2, none⟩) hq u2).setCell (p := ⟨q, 3, none⟩) hq u3).setCell (p := ⟨q, 4, none⟩) hq u4).setCell (p := ⟨q, 5, none⟩) hq u5).setCell (p := ⟨q, 6, none⟩) hq u6
theorem ev_bel8 {W w : World} {p q B : Nat} (h : Below B W w) (hp : B ≤ p) (hq : B ≤ q) (u u0 u1 u2 u3 u4 u5 u6 : Value) :
    Below B W ((((((((w.setCell ⟨p, 6, none⟩ u).setCell ⟨q, 0, none⟩ u0).setCell ⟨q, 1, none⟩ u1).setCell ⟨q, 2, none⟩ u2).setCell ⟨q, 3, none⟩ u3).setCell ⟨q, 4, none⟩ u4).setCell ⟨q, 5, none⟩ u5).setCell ⟨q, 6, none⟩ u6) :=
  ev_bel7 (h.setCell (p := ⟨p, 6, none⟩) hp u) hq u0 u1 u2 u3 u4 u5 u6
def ToSPost (x : ST) (w : World) (e : Ending) (w' : World) : Prop := ∃ g : Nat, e = .returned (sV x (some ⟨g, 0, none⟩) x.q.length) ∧ w'.ownsRow w.heap.size 3 1 (.slice (some ⟨g, 0, none⟩) x.q.length x.q.length) x.q.length (kC x.q) ∧ Below w.heap.size w w'
set_option maxHeartbeats 1000000 in
theorem toSource_any (x : ST) (b : Option Addr) (c : Nat) (hn : x.q.length ≤ 1048576) (w : World) (hz : Lies w b (kC x.q)) : Calls Tryd.prog 7 #[sV x b c] w (ToSPost x w) := by
  have HB : Hid (∀ O O' O'' : Obj, Below w.heap.size w (((w.alloc O).alloc O').alloc O'')) := Lib.hid (fun O O' O'' => (((Below.refl w.heap.size w).alloc (Nat.le_refl _) O).alloc (by simp) O').alloc (by simp; omega) O'')
  have HK : Hid (∀ O O' O'' : Obj, (((w.alloc O).alloc O').alloc O'').heap[w.heap.size + 1]? = some O' ∧ (((w.alloc O).alloc O').alloc O'').heap[w.heap.size + 2]? = some O'' ∧ (((w.alloc O).alloc O').alloc O'').heap.size = w.heap.size + 3) := Lib.hid (fun O O' O'' =>
    ⟨(Below.heap_alloc _ O'' (w.heap.size + 1) (by simp)).trans (heap_alloc2_new w O O'), by have := heap_alloc_new ((w.alloc O).alloc O') O''; simpa using this, by simp⟩)
  have HZ := Lib.hid hz
  have HT := Lib.hid (fun w hz => toIntS_ex x.q b c hn w hz)
  obtain ⟨l, a, d, t, s, p, q⟩ := x
  have HP : Hid (∀ (g : Nat) (w' : World), w'.ownsRow w.heap.size 3 1 (.slice (some ⟨g, 0, none⟩) q.length q.length) q.length (kC q) → Below w.heap.size w w' → ToSPost ⟨l, a, d, t, s, p, q⟩ w (.returned (.agg #[.int .i64 l, .int .i64 a, .int .i64 d, .int .i64 t, .int .i64 s, .int .i64 p, .slice (some ⟨g, 0, none⟩) q.length q.length])) w') := Lib.hid (fun g w' h1 h2 => ⟨g, rfl, h1, h2⟩)
  show Calls Tryd.prog 7 #[.agg #[.int .i64 l, .int .i64 a, .int .i64 d, .int .i64 t, .int .i64 s, .int .i64 p, .slice b q.length c]] w (ToSPost ⟨l, a, d, t, s, p, q⟩ w)
  clear hz hn
  simp only at HT HZ HP
  generalize ToSPost ⟨l, a, d, t, s, p, q⟩ w = POST at *
  generalize q.length = n at *
  generalize kC q = qs at *
  go_enter Tryd.func7, Tryd.ntmps7
  go_wp2_with fail
  refine Calls.mono (HT.out _ (HZ.out.below (HB.out _ _ _) (Nat.le_refl _))) ?_
  rintro e w1 ⟨g0, rfl, ho, hb⟩
  obtain ⟨s1, s2, s3⟩ := HK.out (.cells #[.int .i64 l, .int .i64 a, .int .i64 d, .int .i64 t, .int .i64 s, .int .i64 p, .slice b n c] 24) (.cells #[.int .i64 0, .int .i64 0, .int .i64 0, .int .i64 0, .int .i64 0, .int .i64 0, .slice none 0 0] 30) (.cells #[.int .i64 l, .int .i64 a, .int .i64 d, .int .i64 t, .int .i64 s, .int .i64 p, .slice none 0 0] 30)
  have K1 := Lib.hid (blk_bel s1 hb)
  have K2 := Lib.hid (blk_bel s2 hb)
  have Hb := Lib.hid ((HB.out _ _ _).trans (hb.mono (by rw [s3]; omega)))
  have HL := Lib.hid (show w.heap.size + 3 ≤ w1.heap.size by have := hb.size; rw [s3] at this; exact this)
  rw [s3] at ho
  have R0 := Lib.hid ho
  clear s1 s2 s3 ho hb
  have p0 := cell_of_row w1 (w.heap.size + 2) 0 _ _ _ K2.out
  have p1 := cell_of_row w1 (w.heap.size + 2) 1 _ _ _ K2.out
  have p2 := cell_of_row w1 (w.heap.size + 2) 2 _ _ _ K2.out
  have p3 := cell_of_row w1 (w.heap.size + 2) 3 _ _ _ K2.out
  have p4 := cell_of_row w1 (w.heap.size + 2) 4 _ _ _ K2.out
  have p5 := cell_of_row w1 (w.heap.size + 2) 5 _ _ _ K2.out
  have p6 := cell_of_row w1 (w.heap.size + 2) 6 _ _ _ K2.out
  have p7 := frozen_of_row w1 (w.heap.size + 2) 6 _ _ K2.out
  have r0 := cell_of_row w1 (w.heap.size + 1) 0 _ _ _ K1.out
  have r1 := cell_of_row w1 (w.heap.size + 1) 1 _ _ _ K1.out
  have r2 := cell_of_row w1 (w.heap.size + 1) 2 _ _ _ K1.out
  have r3 := cell_of_row w1 (w.heap.size + 1) 3 _ _ _ K1.out
  have r4 := cell_of_row w1 (w.heap.size + 1) 4 _ _ _ K1.out
  have r5 := cell_of_row w1 (w.heap.size + 1) 5 _ _ _ K1.out
  have r6 := cell_of_row w1 (w.heap.size + 1) 6 _ _ _ K1.out
  have f0 := frozen_of_row w1 (w.heap.size + 1) 0 _ _ K1.out
  have f1 := frozen_of_row w1 (w.heap.size + 1) 1 _ _ K1.out
  have f2 := frozen_of_row w1 (w.heap.size + 1) 2 _ _ K1.out
  have f3 := frozen_of_row w1 (w.heap.size + 1) 3 _ _ K1.out
  have f4 := frozen_of_row w1 (w.heap.size + 1) 4 _ _ K1.out
  have f5 := frozen_of_row w1 (w.heap.size + 1) 5 _ _ K1.out
  have f6 := frozen_of_row w1 (w.heap.size + 1) 6 _ _ K1.out
  go_wp2
  refine bodyPost_ret (v := .agg #[.int .i64 l, .int .i64 a, .int .i64 d, .int .i64 t, .int .i64 s, .int .i64 p, .slice (some ⟨g0, 0, none⟩) n n]) (by simp [results, Tryd.results7, go_sem, r0, r1, r2, r3, r4, r5, r6]) rfl ?_
  refine HP.out g0 _ ?_ ?_
  · exact own_base (ev_far8 R0.out (p := w.heap.size + 1 + 1) (q := w.heap.size + 1) (by omega) (by omega) _ _ _ _ _ _ _ _) (Nat.le_add_right _ 3)
  · exact ev_bel8 Hb.out (by omega) (by omega) _ _ _ _ _ _ _ _
theorem eqSource_same (x : ST) (b b' : Option Addr) (c c' : Nat) (hn : x.q.length ≤ 1048576) (w : World) (hz : Lies w b (kC x.q)) (hy : Lies w b' (kC x.q)) :
    Calls Tryd.prog 10 #[sV x b c, sV x b' c'] w fun e w' => e = .returned (.bool true) ∧ Below w.heap.size w w' := by
  have HB : Hid (∀ O O' : Obj, Below w.heap.size w ((w.alloc O).alloc O')) := Lib.hid (fun O O' => ((Below.refl w.heap.size w).alloc (Nat.le_refl _) O).alloc (by simp) O')
  have HZ := Lib.hid hz
  have HY := Lib.hid hy
  have HE := Lib.hid (fun w hz hy => eqIntS_same x.q b b' c c' hn w hz hy)
  obtain ⟨l, a, d, t, s, p, q⟩ := x
  show Calls Tryd.prog 10 #[.agg #[.int .i64 l, .int .i64 a, .int .i64 d, .int .i64 t, .int .i64 s, .int .i64 p, .slice b q.length c], .agg #[.int .i64 l, .int .i64 a, .int .i64 d, .int .i64 t, .int .i64 s, .int .i64 p, .slice b' q.length c']] w _
  simp only at HZ HY HE
  have h0 : (l != l) = false := by simp
  have h1 : (a != a) = false := by simp
  have h2 : (d != d) = false := by simp
  have h3 : (t != t) = false := by simp
  have h4 : (s != s) = false := by simp
  have h5 : (p != p) = false := by simp
  clear hz hy hn
  generalize q.length = n at *
  generalize kC q = qs at *
  go_enter Tryd.func10, Tryd.ntmps10
  go_wp2_with fail
  refine Calls.mono (HE.out _ (HZ.out.below (HB.out _ _) (Nat.le_refl _)) (HY.out.below (HB.out _ _) (Nat.le_refl _))) ?_
  rintro e w1 ⟨rfl, hb⟩
  have Hb := Lib.hid ((HB.out _ _).trans (hb.mono (HB.out _ _).size))
  clear hb
  go_wp2
  go_ret
  exact ⟨rfl, Hb.out⟩
def MarkSPost (B n : Nat) (v : Value) (m : Int) (w : World) (e : Ending) (w' : World) : Prop :=
  e = .returned (.int .i64 (m + n)) ∧ w'.ownsRow B 3 1 v n (kC (marksI m n)) ∧ w.grownBy w' v.ownBlock
theorem grown_al (w : World) (O : Obj) (row : Option Nat) : w.grownBy (w.alloc O) row :=
  ⟨(dbox w O).os, (dbox w O).tape, (dbox w O).output, (dbox w O).size, fun k hk _ => (dbox w O).block k hk⟩
end Go.Proofs.YtgbnoaclklbjbaaDoor
