/- Programs that came in; the laws' sizes and copies of programs. -/
import Derived.Test.YtppgknjpbfopjaaGreatDoorPgm
import Derived.Test.YtppgknjpbfopjaaGreatDoorRtM
namespace Go.Proofs.YtppgknjpbfopjaaGreatDoor
open Go.ChangeShapes Go.WideShapes Go.ChangeAt Go.RowKit
set_option linter.unusedVariables false
theorem RL.routs {w : World} {a : Option Addr} {ls : List (List Ins)} (h : RL w a ls) : Routs w a ls := ⟨h.rows⟩
theorem Routs.rl {w : World} {a : Option Addr} {ls : List (List Ins)} (h : Routs w a ls) : RL w a ls := ⟨h.rows⟩
theorem ROwn.far {B hi p i : Nat} {ls : List (List Ins)} {w : World} (h : ROwn B hi ls w) (hp : p < B) (u : Value) : ROwn B hi ls (w.setCell ⟨p, i, none⟩ u) := by
  obtain ⟨rs, h1, h2, h3, h4, h5⟩ := h.rows
  exact ⟨rs, h1, own_far h2 hp u, ⟨fun j hj => by obtain ⟨g, g1, g2⟩ := h3.each j hj; exact ⟨g, g1, own_far g2 (by omega) u⟩, h3.apart⟩, h4, h5⟩
theorem four_of {α : Type} {l : List α} (h : l.length = 4) : ∃ x0 x1 x2 x3, l = [x0, x1, x2, x3] := by
  match l, h with
  | [x0, x1, x2, x3], _ => exact ⟨x0, x1, x2, x3, rfl⟩
theorem came_struct4 {P : Program} {W : World} {t : TypeId} {cs : Array Value} {f0 f1 f2 f3 : Field} (ht : P.underlying t = some (.struct #[f0, f1, f2, f3])) (hc : P.cellsOf t = 4)
    (o : f0.offset = 0 ∧ f1.offset = 1 ∧ f2.offset = 2 ∧ f3.offset = 3) (g : P.cellsOf f0.type = 1 ∧ P.cellsOf f1.type = 1 ∧ P.cellsOf f2.type = 1 ∧ P.cellsOf f3.type = 1) (h : Came P W t cs.toList) :
    ∃ x0 x1 x2 x3, cs = #[x0, x1, x2, x3] ∧ Came P W f0.type [x0] ∧ Came P W f1.type [x1] ∧ Came P W f2.type [x2] ∧ Came P W f3.type [x3] := by
  obtain ⟨hl, hf⟩ := came_struct ht h
  obtain ⟨l⟩ := cs
  obtain ⟨x0, x1, x2, x3, rfl⟩ := four_of (hl.trans hc)
  obtain ⟨o0, o1, o2, o3⟩ := o
  obtain ⟨g0, g1, g2, g3⟩ := g
  have h0 := hf 0 f0 rfl
  rw [o0, g0] at h0
  have h1 := hf 1 f1 rfl
  rw [o1, g1] at h1
  have h2 := hf 2 f2 rfl
  rw [o2, g2] at h2
  have h3 := hf 3 f3 rfl
  rw [o3, g3] at h3
  exact ⟨x0, x1, x2, x3, rfl, h0, h1, h2, h3⟩
theorem cPgm : Tryz.prog.cellsOf 27 = 4 := by kernel_rfl
theorem cPSl0 : Tryz.prog.cellsOf 22 = 1 := by kernel_rfl
theorem cPSl1 : Tryz.prog.cellsOf 23 = 1 := by kernel_rfl
theorem cPSl2 : Tryz.prog.cellsOf 24 = 1 := by kernel_rfl
theorem cPSl3 : Tryz.prog.cellsOf 25 = 1 := by kernel_rfl
theorem came_pgm {W : World} {cs : Array Value} (h : Came Tryz.prog W 27 cs.toList) : ∃ (H : PH) (D : Pgm), Value.agg cs = pV H D ∧ PLies W H D ∧ D.le maxLen := by
  obtain ⟨x0, x1, x2, x3, rfl, h0, h1, h2, h3⟩ := came_struct4 Tryz.underlying27 cPgm ⟨rfl, rfl, rfl, rfl⟩ ⟨cPSl0, cPSl1, cPSl2, cPSl3⟩ h
  obtain ⟨a0, n0, c0, rfl⟩ := came_slv Tryz.underlying22 h0
  obtain ⟨b0, _, l0, e0, z0⟩ := came_ks h0
  obtain ⟨a1, n1, c1, rfl⟩ := came_slv Tryz.underlying23 h1
  obtain ⟨b1, l1, e1, z1, m1⟩ := came_rts h1
  obtain ⟨a2, n2, c2, rfl⟩ := came_slv Tryz.underlying24 h2
  obtain ⟨b2, _, l2, e2, z2⟩ := came_tts h2
  obtain ⟨a3, n3, c3, rfl⟩ := came_slv Tryz.underlying25 h3
  obtain ⟨b3, _, l3, e3, z3⟩ := came_bs h3
  subst e0 e1 e2 e3
  exact ⟨⟨a0, a1, a2, a3, c0, c1, c2, c3⟩, ⟨l0, l1, l2, l3⟩, rfl, ⟨z0, z1.rl, z2, z3⟩, ⟨b0, b1, b2, b3, m1⟩⟩
theorem szBoolS_ok (a : Option Addr) (n c : Nat) (left : Int) (h : (n : Int) ≤ left) (hl : left ≤ 1048576) (w : World) : Calls Tryz.prog 32 #[.slice a n c, .int .i64 left] w fun e w' => e = .returned (.int .i64 (left - n)) ∧ w = w' := by
  go_enter Tryz.func32, Tryz.ntmps32
  go_wp2
  go_ret
  exact ⟨rfl, rfl⟩
theorem szBoolS_no (a : Option Addr) (n c : Nat) (left : Int) (hn : n ≤ maxLen) (h : left < (n : Int)) (hl : 0 ≤ left) (w : World) : Calls Tryz.prog 32 #[.slice a n c, .int .i64 left] w fun e w' => e = .returned (.int .i64 (-1)) ∧ w = w' := by
  unfold maxLen at hn
  go_enter Tryz.func32, Tryz.ntmps32
  go_wp2
  go_ret
  exact ⟨rfl, rfl⟩
def SzPPost (D : Pgm) (left : Int) (w : World) (e : Ending) (w' : World) : Prop := ∃ v : Int, e = .returned (.int .i64 v) ∧ Below w.heap.size w w' ∧ (v < 0 ∨ 0 ≤ v ∧ v ≤ left ∧ D.le 1048576 ∧ sumL D.rs D.rs.length ≤ 1048576)
theorem szProgram_any (h : PH) (D : Pgm) (left : Int) (hl0 : 0 ≤ left ∧ left ≤ 1048576) (hm : D.le maxLen) (w : World) (hz : PLies w h D) :
    Calls Tryz.prog 7 #[pV h D, .int .i64 left] w (SzPPost D left w) := by
  have HX := Lib.hid (Bx.start w (pO h D 27))
  have HSR := Lib.hid (fun l hl w (hz : RL w h.a1 D.rs) => szRoutineS_sum D.rs h.a1 h.c1 l hl hm.h1 hm.hr w hz.routs)
  have HSP : Hid (∀ l w e w', SzPost2 D.rs l w e w' → ∃ v : Int, e = .returned (.int .i64 v) ∧ Below w.heap.size w w' ∧ (v < 0 ∨ 0 ≤ v ∧ v ≤ l ∧ D.rs.length + sumL D.rs D.rs.length ≤ 1048576)) := Lib.hid (fun l w e w' h => h)
  have HNO : Hid (∀ w', Below w.heap.size w w' → SzPPost D left w (.returned (.int .i64 (-1))) w') := Lib.hid (fun w' hb => ⟨-1, rfl, hb, .inl (by decide)⟩)
  have HOK : Hid (∀ (v : Int) w', 0 ≤ v → v ≤ left → D.n0 ≤ 1048576 → D.rs.length + sumL D.rs D.rs.length ≤ 1048576 → D.n2 ≤ 1048576 → D.n3 ≤ 1048576 → Below w.heap.size w w' → SzPPost D left w (.returned (.int .i64 v)) w') := Lib.hid (fun v w' h1 h2 h3 h4 h5 h6 hb => ⟨v, rfl, hb, .inr ⟨h1, h2, ⟨h3, (by unfold Pgm.n1; omega), h5, h6, fun j hj => Nat.le_trans (sumL_each hj) (by omega)⟩, by omega⟩⟩)
  have HZ := Lib.hid hz
  obtain ⟨m0, m1, m2, m3, _⟩ := hm
  obtain ⟨l0, l1⟩ := hl0
  clear hz
  generalize SzPPost D left w = POST at *
  generalize D.rs.length + sumL D.rs D.rs.length = SS at *
  by_cases h0 : (D.n0 : Int) ≤ left
  rotate_left
  · go_enter Tryz.func7, Tryz.ntmps7
    go_wp2_with fail
    refine Calls.mono (szIntS_no h.a0 D.n0 h.c0 left m0 (by omega) l0 _) ?_
    rintro e w1 ⟨rfl, rfl⟩
    go_wp2
    exact HNO.out _ HX.out.bel
  have p0 : ¬ left - (D.n0 : Int) < 0 := by omega
  go_enter Tryz.func7, Tryz.ntmps7
  go_wp2_with fail
  refine Calls.mono (szIntS_ok h.a0 D.n0 h.c0 left h0 l1 _) ?_
  rintro e w1 ⟨rfl, rfl⟩
  go_wp2_with fail
  refine Calls.mono (HSR.out _ ⟨by omega, by omega⟩ _ (HZ.out.below HX.out.bel (Nat.le_refl _)).rs) ?_
  intro e w1 hsp
  obtain ⟨v, rfl, hb, hv⟩ := HSP.out _ _ _ _ hsp
  have HX := Lib.hid (HX.out.to hb)
  clear hb hsp
  by_cases hv0 : v < 0
  · clear hv
    go_wp2
    exact HNO.out _ HX.out.bel
  obtain ⟨hv1, hv2, hv3⟩ : 0 ≤ v ∧ v ≤ left - D.n0 ∧ SS ≤ 1048576 := by
    rcases hv with h | h
    · exact absurd h hv0
    · exact h
  clear hv
  have HV3 := Lib.hid hv3
  have q0 := cell_of_row _ w.heap.size 2 _ _ _ HX.out.box
  by_cases h2 : (D.n2 : Int) ≤ v
  rotate_left
  · go_wp2_with fail
    refine Calls.mono (szTaskS_no h.a2 D.n2 h.c2 v m2 (by omega) hv1 _) ?_
    rintro e w2 ⟨rfl, rfl⟩
    go_wp2
    exact HNO.out _ HX.out.bel
  have p2 : ¬ v - (D.n2 : Int) < 0 := by omega
  go_wp2_with fail
  refine Calls.mono (szTaskS_ok h.a2 D.n2 h.c2 v h2 (by omega) _) ?_
  rintro e w2 ⟨rfl, rfl⟩
  have q1 := cell_of_row _ w.heap.size 3 _ _ _ HX.out.box
  by_cases h3 : (D.n3 : Int) ≤ v - D.n2
  rotate_left
  · go_wp2_with fail
    refine Calls.mono (szBoolS_no h.a3 D.n3 h.c3 _ m3 (by omega) (by omega) _) ?_
    rintro e w3 ⟨rfl, rfl⟩
    go_wp2
    exact HNO.out _ HX.out.bel
  have p3 : ¬ v - (D.n2 : Int) - (D.n3 : Int) < 0 := by omega
  go_wp2_with fail
  refine Calls.mono (szBoolS_ok h.a3 D.n3 h.c3 _ h3 (by omega) _) ?_
  rintro e w3 ⟨rfl, rfl⟩
  go_wp2
  exact HOK.out _ _ (by omega) (by omega) (by omega) HV3.out (by omega) (by omega) HX.out.bel
def ToPPost (D : Pgm) (w : World) (e : Ending) (w' : World) : Prop := ∃ H : PH, e = .returned (pV H D) ∧ PLies w' H D ∧ Below w.heap.size w w'
def ToTkPost (B : Nat) (n : Nat) (xs : List Value) (w : World) (e : Ending) (w' : World) : Prop := ∃ g, e = .returned (.slice (some ⟨g, 0, none⟩) n n) ∧ w'.ownsRow B 77 6 (.slice (some ⟨g, 0, none⟩) n n) n xs ∧ Below w.heap.size w w'
theorem toTaskS_ex (l : List TT) (a : Option Addr) (c : Nat) (hn : l.length ≤ 1048576) (w : World) (hz : Lies w a (flat tC l)) :
    Calls Tryz.prog 37 #[.slice a l.length c] w (ToTkPost w.heap.size l.length (flat tC l) w) := (toTaskS_any l a c hn w hz).mono fun e w' ⟨h1, h2, h3⟩ => ⟨_, h1, h2, h3⟩
def ToBlPost (B : Nat) (n : Nat) (xs : List Value) (w : World) (e : Ending) (w' : World) : Prop := ∃ g, e = .returned (.slice (some ⟨g, 0, none⟩) n n) ∧ w'.ownsRow B 4 1 (.slice (some ⟨g, 0, none⟩) n n) n xs ∧ Below w.heap.size w w'
theorem toBlS_ex (l : List Bool) (a : Option Addr) (c : Nat) (hn : l.length ≤ 1048576) (w : World) (hz : Lies w a (flat bI l)) :
    Calls Tryz.prog 38 #[.slice a l.length c] w (ToBlPost w.heap.size l.length (flat bI l) w) := (toBoolS_any l a c hn w hz).mono fun e w' ⟨h1, h2, h3⟩ => ⟨_, h1, h2, h3⟩
def ToRtPost (n : Nat) (ls : List (List Ins)) (w : World) (e : Ending) (w' : World) : Prop := ∃ g hi, w.heap.size ≤ g ∧ e = .returned (.slice (some ⟨g, 0, none⟩) n n) ∧ ROwn g hi ls w' ∧ Below w.heap.size w w'
theorem toRtS_ex (ls : List (List Ins)) (a : Option Addr) (c : Nat) (hn : ls.length ≤ 1048576) (hl : ∀ j, j < ls.length → (ls.getD j []).length ≤ 1048576) (w : World) (hz : RL w a ls) :
    Calls Tryz.prog 36 #[.slice a ls.length c] w (ToRtPost ls.length ls w) := (toRoutineSO_any ls a c hn hl w hz.routs).mono fun e w' ⟨h1, h2, h3⟩ => ⟨_, _, Nat.le_refl _, h1, h2, h3⟩
theorem own_far5 {w : World} {p q : Nat} {base : Nat} {e : TypeId} {size n c : Nat} {a : Option Addr} {xs : List Value} (h : w.ownsRow base e size (.slice a n c) n xs) (hp : p < base) (hq : q < base) (u u0 u1 u2 u3 : Value) :
    (((((w.setCell ⟨p, 3, none⟩ u).setCell ⟨q, 0, none⟩ u0).setCell ⟨q, 1, none⟩ u1).setCell ⟨q, 2, none⟩ u2).setCell ⟨q, 3, none⟩ u3).ownsRow base e size (.slice a n c) n xs :=
  own_far (own_far (own_far (own_far (own_far h hp u) hq u0) hq u1) hq u2) hq u3
set_option maxRecDepth 100000 in
set_option maxHeartbeats 2000000 in
theorem toProgram_any (h : PH) (D : Pgm) (hn : D.le 1048576) (w : World) (hz : PLies w h D) : Calls Tryz.prog 9 #[pV h D] w (ToPPost D w) := by
  have HB : Hid (∀ O O' O'' : Obj, Below w.heap.size w (((w.alloc O).alloc O').alloc O'')) := Lib.hid (fun O O' O'' => (((Below.refl w.heap.size w).alloc (Nat.le_refl _) O).alloc (by simp) O').alloc (by simp; omega) O'')
  have HK : Hid (∀ O O' O'' : Obj, (((w.alloc O).alloc O').alloc O'').heap[w.heap.size]? = some O ∧ (((w.alloc O).alloc O').alloc O'').heap[w.heap.size + 1]? = some O' ∧ (((w.alloc O).alloc O').alloc O'').heap[w.heap.size + 2]? = some O'' ∧ (((w.alloc O).alloc O').alloc O'').heap.size = w.heap.size + 3) := Lib.hid (fun O O' O'' =>
    ⟨(Below.heap_alloc _ O'' w.heap.size (by simp; omega)).trans (heap_alloc2_old w O O'), (Below.heap_alloc _ O'' (w.heap.size + 1) (by simp)).trans (heap_alloc2_new w O O'), by have := heap_alloc_new ((w.alloc O).alloc O') O''; simpa using this, by simp⟩)
  have HZ := Lib.hid hz
  have HP : Hid (∀ (H : PH) (w' : World), PLies w' H D → Below w.heap.size w w' → ToPPost D w (.returned (pV H D)) w') := Lib.hid (fun H w' h1 h2 => ⟨H, rfl, h1, h2⟩)
  have HA0 := Lib.hid (fun w hz => toIntS_ex D.ks h.a0 h.c0 hn.h0 w hz)
  have HA1 := Lib.hid (fun w hz => toRtS_ex D.rs h.a1 h.c1 hn.h1 hn.hr w hz)
  have HA2 := Lib.hid (fun w hz => toTaskS_ex D.ts h.a2 h.c2 hn.h2 w hz)
  have HA3 := Lib.hid (fun w hz => toBlS_ex D.sa h.a3 h.c3 hn.h3 w hz)
  clear hz hn
  generalize ToPPost D w = POST at *
  go_enter Tryz.func9, Tryz.ntmps9
  go_wp2_with fail
  refine Calls.mono (HA0.out _ ((HZ.out.below (HB.out _ _ _) (Nat.le_refl _)).ks)) ?_
  rintro e w1 ⟨g0, rfl, ho, hb⟩
  obtain ⟨s0, s1, s2, s3⟩ := HK.out (pO h D 27) (.cells #[.slice none 0 0, .slice none 0 0, .slice none 0 0, .slice none 0 0] 35) (.cells #[.slice none 0 0, .slice none 0 0, .slice none 0 0, .slice none 0 0] 35)
  have K0 := Lib.hid (blk_bel s0 hb)
  have K1 := Lib.hid (blk_bel s1 hb)
  have K2 := Lib.hid (blk_bel s2 hb)
  have Hb := Lib.hid ((HB.out _ _ _).trans (hb.mono (by rw [s3]; omega)))
  have HL := Lib.hid (show w.heap.size + 3 ≤ w1.heap.size by have := hb.size; rw [s3] at this; exact this)
  rw [s3] at ho
  have R0 := Lib.hid ho
  clear s0 s1 s2 s3 ho hb
  have c0 := cell_of_row w1 (w.heap.size + 2) 0 _ _ _ K2.out
  have c1 := frozen_of_row w1 (w.heap.size + 2) 0 _ _ K2.out
  have c2 := cell_of_row w1 w.heap.size 1 _ _ _ K0.out
  have K0 := Lib.hid (blk_far (p := w.heap.size + 2) (i := 0) K0.out (by omega) (.slice (some ⟨g0, 0, none⟩) D.n0 D.n0))
  have K1 := Lib.hid (blk_far (p := w.heap.size + 2) (i := 0) K1.out (by omega) (.slice (some ⟨g0, 0, none⟩) D.n0 D.n0))
  have K2 : Hid ((w1.setCell ⟨w.heap.size + 2, 0, none⟩ (.slice (some ⟨g0, 0, none⟩) D.n0 D.n0)).heap[w.heap.size + 2]? = some (.cells #[.slice (some ⟨g0, 0, none⟩) D.n0 D.n0, .slice none 0 0, .slice none 0 0, .slice none 0 0] 35)) := Lib.hid (wk_set K2.out 0 (.slice (some ⟨g0, 0, none⟩) D.n0 D.n0))
  have R0 := Lib.hid (own_far (p := w.heap.size + 2) (i := 0) R0.out (by omega) (.slice (some ⟨g0, 0, none⟩) D.n0 D.n0))
  have Hb := Lib.hid (Hb.out.setCell (p := ⟨w.heap.size + 2, 0, none⟩) (by simp only; omega) (.slice (some ⟨g0, 0, none⟩) D.n0 D.n0))
  have HL := Lib.hid (show w.heap.size + 3 ≤ (w1.setCell ⟨w.heap.size + 2, 0, none⟩ (.slice (some ⟨g0, 0, none⟩) D.n0 D.n0)).heap.size by simp only [World.setCell, Array.size_modify]; exact HL.out)
  go_wp2_with fail
  refine Calls.mono (HA1.out _ ((HZ.out.below Hb.out (Nat.le_refl _)).rs)) ?_
  rintro e w2 ⟨g1, hi1, hgl, rfl, ho, hb⟩
  have R0 := Lib.hid (own_bl R0.out hb)
  have HG := Lib.hid (Nat.le_trans HL.out hgl)
  have R1 := Lib.hid ho
  have K0 := Lib.hid (blk_bel K0.out hb)
  have K1 := Lib.hid (blk_bel K1.out hb)
  have K2 := Lib.hid (blk_bel K2.out hb)
  have Hb := Lib.hid (Hb.out.trans (hb.mono (Nat.le_trans (Nat.le_add_right _ 3) HL.out)))
  have HL := Lib.hid (Nat.le_trans HL.out hb.size)
  clear ho hb hgl
  have c0 := cell_of_row w2 (w.heap.size + 2) 1 _ _ _ K2.out
  have c1 := frozen_of_row w2 (w.heap.size + 2) 1 _ _ K2.out
  have c2 := cell_of_row w2 w.heap.size 2 _ _ _ K0.out
  have K0 := Lib.hid (blk_far (p := w.heap.size + 2) (i := 1) K0.out (by omega) (.slice (some ⟨g1, 0, none⟩) D.n1 D.n1))
  have K1 := Lib.hid (blk_far (p := w.heap.size + 2) (i := 1) K1.out (by omega) (.slice (some ⟨g1, 0, none⟩) D.n1 D.n1))
  have K2 : Hid ((w2.setCell ⟨w.heap.size + 2, 1, none⟩ (.slice (some ⟨g1, 0, none⟩) D.n1 D.n1)).heap[w.heap.size + 2]? = some (.cells #[.slice (some ⟨g0, 0, none⟩) D.n0 D.n0, .slice (some ⟨g1, 0, none⟩) D.n1 D.n1, .slice none 0 0, .slice none 0 0] 35)) := Lib.hid (wk_set K2.out 1 (.slice (some ⟨g1, 0, none⟩) D.n1 D.n1))
  have R0 := Lib.hid (own_far (p := w.heap.size + 2) (i := 1) R0.out (by omega) (.slice (some ⟨g1, 0, none⟩) D.n1 D.n1))
  have R1 := Lib.hid (R1.out.far (p := w.heap.size + 2) (i := 1) (by have := HG.out; omega) (.slice (some ⟨g1, 0, none⟩) D.n1 D.n1))
  have Hb := Lib.hid (Hb.out.setCell (p := ⟨w.heap.size + 2, 1, none⟩) (by simp only; omega) (.slice (some ⟨g1, 0, none⟩) D.n1 D.n1))
  have HL := Lib.hid (show w.heap.size + 3 ≤ (w2.setCell ⟨w.heap.size + 2, 1, none⟩ (.slice (some ⟨g1, 0, none⟩) D.n1 D.n1)).heap.size by simp only [World.setCell, Array.size_modify]; exact HL.out)
  go_wp2_with fail
  refine Calls.mono (HA2.out _ ((HZ.out.below Hb.out (Nat.le_refl _)).ts)) ?_
  rintro e w3 ⟨g2, rfl, ho, hb⟩
  have R0 := Lib.hid (own_bl R0.out hb)
  have R1 := Lib.hid (R1.out.bel hb)
  have R2 := Lib.hid (own_base ho HL.out)
  have K0 := Lib.hid (blk_bel K0.out hb)
  have K1 := Lib.hid (blk_bel K1.out hb)
  have K2 := Lib.hid (blk_bel K2.out hb)
  have Hb := Lib.hid (Hb.out.trans (hb.mono (Nat.le_trans (Nat.le_add_right _ 3) HL.out)))
  have HL := Lib.hid (Nat.le_trans HL.out hb.size)
  clear ho hb
  have c0 := cell_of_row w3 (w.heap.size + 2) 2 _ _ _ K2.out
  have c1 := frozen_of_row w3 (w.heap.size + 2) 2 _ _ K2.out
  have c2 := cell_of_row w3 w.heap.size 3 _ _ _ K0.out
  have K0 := Lib.hid (blk_far (p := w.heap.size + 2) (i := 2) K0.out (by omega) (.slice (some ⟨g2, 0, none⟩) D.n2 D.n2))
  have K1 := Lib.hid (blk_far (p := w.heap.size + 2) (i := 2) K1.out (by omega) (.slice (some ⟨g2, 0, none⟩) D.n2 D.n2))
  have K2 : Hid ((w3.setCell ⟨w.heap.size + 2, 2, none⟩ (.slice (some ⟨g2, 0, none⟩) D.n2 D.n2)).heap[w.heap.size + 2]? = some (.cells #[.slice (some ⟨g0, 0, none⟩) D.n0 D.n0, .slice (some ⟨g1, 0, none⟩) D.n1 D.n1, .slice (some ⟨g2, 0, none⟩) D.n2 D.n2, .slice none 0 0] 35)) := Lib.hid (wk_set K2.out 2 (.slice (some ⟨g2, 0, none⟩) D.n2 D.n2))
  have R0 := Lib.hid (own_far (p := w.heap.size + 2) (i := 2) R0.out (by omega) (.slice (some ⟨g2, 0, none⟩) D.n2 D.n2))
  have R1 := Lib.hid (R1.out.far (p := w.heap.size + 2) (i := 2) (by have := HG.out; omega) (.slice (some ⟨g2, 0, none⟩) D.n2 D.n2))
  have R2 := Lib.hid (own_far (p := w.heap.size + 2) (i := 2) R2.out (by omega) (.slice (some ⟨g2, 0, none⟩) D.n2 D.n2))
  have Hb := Lib.hid (Hb.out.setCell (p := ⟨w.heap.size + 2, 2, none⟩) (by simp only; omega) (.slice (some ⟨g2, 0, none⟩) D.n2 D.n2))
  have HL := Lib.hid (show w.heap.size + 3 ≤ (w3.setCell ⟨w.heap.size + 2, 2, none⟩ (.slice (some ⟨g2, 0, none⟩) D.n2 D.n2)).heap.size by simp only [World.setCell, Array.size_modify]; exact HL.out)
  go_wp2_with fail
  refine Calls.mono (HA3.out _ ((HZ.out.below Hb.out (Nat.le_refl _)).sa)) ?_
  rintro e w4 ⟨g3, rfl, ho, hb⟩
  have R0 := Lib.hid (own_bl R0.out hb)
  have R1 := Lib.hid (R1.out.bel hb)
  have R2 := Lib.hid (own_bl R2.out hb)
  have R3 := Lib.hid (own_base ho HL.out)
  have K0 := Lib.hid (blk_bel K0.out hb)
  have K1 := Lib.hid (blk_bel K1.out hb)
  have K2 := Lib.hid (blk_bel K2.out hb)
  have Hb := Lib.hid (Hb.out.trans (hb.mono (Nat.le_trans (Nat.le_add_right _ 3) HL.out)))
  have HL := Lib.hid (Nat.le_trans HL.out hb.size)
  clear ho hb
  have c0 := cell_of_row w4 (w.heap.size + 2) 3 _ _ _ K2.out
  have c1 := frozen_of_row w4 (w.heap.size + 2) 3 _ _ K2.out
  have p0 := cell_of_row w4 (w.heap.size + 2) 0 _ _ _ K2.out
  have r0 := cell_of_row w4 (w.heap.size + 1) 0 _ _ _ K1.out
  have f0 := frozen_of_row w4 (w.heap.size + 1) 0 _ _ K1.out
  have p1 := cell_of_row w4 (w.heap.size + 2) 1 _ _ _ K2.out
  have r1 := cell_of_row w4 (w.heap.size + 1) 1 _ _ _ K1.out
  have f1 := frozen_of_row w4 (w.heap.size + 1) 1 _ _ K1.out
  have p2 := cell_of_row w4 (w.heap.size + 2) 2 _ _ _ K2.out
  have r2 := cell_of_row w4 (w.heap.size + 1) 2 _ _ _ K1.out
  have f2 := frozen_of_row w4 (w.heap.size + 1) 2 _ _ K1.out
  have r3 := cell_of_row w4 (w.heap.size + 1) 3 _ _ _ K1.out
  have f3 := frozen_of_row w4 (w.heap.size + 1) 3 _ _ K1.out
  have K0 := Lib.hid (blk_far (p := w.heap.size + 2) (i := 3) K0.out (by omega) (.slice (some ⟨g3, 0, none⟩) D.n3 D.n3))
  have K1 := Lib.hid (blk_far (p := w.heap.size + 2) (i := 3) K1.out (by omega) (.slice (some ⟨g3, 0, none⟩) D.n3 D.n3))
  have K2 : Hid ((w4.setCell ⟨w.heap.size + 2, 3, none⟩ (.slice (some ⟨g3, 0, none⟩) D.n3 D.n3)).heap[w.heap.size + 2]? = some (.cells #[.slice (some ⟨g0, 0, none⟩) D.n0 D.n0, .slice (some ⟨g1, 0, none⟩) D.n1 D.n1, .slice (some ⟨g2, 0, none⟩) D.n2 D.n2, .slice (some ⟨g3, 0, none⟩) D.n3 D.n3] 35)) := Lib.hid (wk_set K2.out 3 (.slice (some ⟨g3, 0, none⟩) D.n3 D.n3))
  go_wp2
  refine bodyPost_ret (v := .agg #[.slice (some ⟨g0, 0, none⟩) D.n0 D.n0, .slice (some ⟨g1, 0, none⟩) D.n1 D.n1, .slice (some ⟨g2, 0, none⟩) D.n2 D.n2, .slice (some ⟨g3, 0, none⟩) D.sa.length D.sa.length]) (by simp [results, Tryz.results9, go_sem, r0, r1, r2, r3]) rfl ?_
  have hq := HG.out
  refine HP.out ⟨some ⟨g0, 0, none⟩, some ⟨g1, 0, none⟩, some ⟨g2, 0, none⟩, some ⟨g3, 0, none⟩, D.n0, D.n1, D.n2, D.n3⟩ _ ⟨lies_own (own_far5 R0.out (by omega) (by omega) _ _ _ _ _), (ROwn.far (ROwn.far (ROwn.far (ROwn.far (ROwn.far R1.out (by omega) _) (by omega) _) (by omega) _) (by omega) _) (by omega) _).routs.rl, lies_own (own_far5 R2.out (by omega) (by omega) _ _ _ _ _), lies_own (own_far5 R3.out (by omega) (by omega) _ _ _ _ _)⟩ ?_
  exact (((((Hb.out.setCell (p := ⟨w.heap.size + 2, 3, none⟩) (by simp only; omega) _).setCell (p := ⟨w.heap.size + 1, 0, none⟩) (by simp only; omega) _).setCell (p := ⟨w.heap.size + 1, 1, none⟩) (by simp only; omega) _).setCell (p := ⟨w.heap.size + 1, 2, none⟩) (by simp only; omega) _).setCell (p := ⟨w.heap.size + 1, 3, none⟩) (by simp only; omega) _)
end Go.Proofs.YtppgknjpbfopjaaGreatDoor
