/- Cores: copied, compared by the laws. -/
import Derived.Test.YtnehaidkhpjpbaaDoorCor2
namespace Go.Proofs.YtnehaidkhpjpbaaDoor
open Go.ChangeShapes Go.WideShapes Go.ChangeAt Go.RowKit
set_option linter.unusedVariables false
theorem Frs.off {w : World} {a : Option Addr} {fs : List FM} (h : Frs w a fs) {p i : Nat} (hp : w.heap.size ≤ p) (u : Value) : Frs (w.setCell ⟨p, i, none⟩ u) a fs := h.below (bel_set (Below.refl w.heap.size w) hp u) (Nat.le_refl _)
/-- Frames that lie ahead of a block are not changed by what is written from it on. -/
def ToCPost (C : Cor) (w : World) (e : Ending) (w' : World) : Prop := ∃ H : CH, e = .returned (cV H C) ∧ CLies w' H C ∧ Below w.heap.size w w'
theorem cor_le {C : Cor} (h : C.fr.length + sumF C.fr C.fr.length + C.st.length ≤ 1048576) : C.le 1048576 := ⟨by omega, by omega, fun j hj => by have := sumF_each hj; omega⟩
theorem CLies.lies {w : World} {h : CH} {C : Cor} (l : CLies w h C) : CLies w h C := l
theorem CLies.bel {w w' : World} {h : CH} {C : Cor} (l : CLies w h C) (hb : Below w.heap.size w w') : CLies w' h C := l.below hb (Nat.le_refl _)
/-- Cells written ahead of everything that a row of frames needs. -/
theorem FOwn.far {B hi p i : Nat} {fs : List FM} {w : World} (h : FOwn B hi fs w) (hp : p < B) (u : Value) : FOwn B hi fs (w.setCell ⟨p, i, none⟩ u) := by
  obtain ⟨rs, h1, h2, h3, h4, h5⟩ := h.rows
  exact ⟨rs, h1, own_far h2 hp u, ⟨fun j hj => by obtain ⟨g, e1, e2⟩ := h3.each j hj; exact ⟨g, e1, own_far e2 (by omega) u⟩, h3.apart⟩, h4, h5⟩
set_option maxRecDepth 100000 in
set_option maxHeartbeats 1000000 in
theorem toCore_any (h : CH) (C : Cor) (hn : C.le 1048576) (w : World) (hz : CLies w h C) : Calls Tryd.prog 48 #[cV h C] w (ToCPost C w) := by
  have HB := HB3 w
  have HK := HK3 w
  have HZ := Lib.hid hz
  have HP : Hid (∀ (H : CH) (w' : World), CLies w' H C → Below w.heap.size w w' → ToCPost C w (.returned (cV H C)) w') := Lib.hid (fun H w' h1 h2 => ⟨H, rfl, h1, h2⟩)
  have HA0 := Lib.hid (fun w hz => toFrameS_any C.fr h.a0 h.c0 hn.h0 hn.h2 w hz)
  have HA1 := Lib.hid (fun w hz => toIntS_ex C.st h.a1 h.c1 hn.h1 w hz)
  clear hz
  generalize ToCPost C w = POST at *
  go_enter Tryd.func48, Tryd.ntmps48
  go_wp2_with fail
  refine Calls.mono (HA0.out _ ((HZ.out.below (HB.out _ _ _) (Nat.le_refl _)).fr)) ?_
  rintro e w1 ⟨rfl, ho, hb⟩
  obtain ⟨s0, s1, s2, s3⟩ := HK.out (cO h C 70) (.cells #[.slice none 0 0, .slice none 0 0] 62) (.cells #[.slice none 0 0, .slice none 0 0] 62)
  have K0 := Lib.hid (blk_bel s0 hb)
  have K1 := Lib.hid (blk_bel s1 hb)
  have K2 := Lib.hid (blk_bel s2 hb)
  have Hb := Lib.hid ((HB.out _ _ _).trans (hb.mono (by rw [s3]; omega)))
  have HL := Lib.hid (show w.heap.size + 3 ≤ w1.heap.size by have := hb.size; rw [s3] at this; exact this)
  rw [s3] at ho ⊢
  have R0 := Lib.hid ho
  clear s0 s1 s2 s3 ho hb
  have c0 := cell_of_row w1 (w.heap.size + 2) 0 _ _ _ K2.out
  have c1 := frozen_of_row w1 (w.heap.size + 2) 0 _ _ K2.out
  have c2 := cell_of_row w1 w.heap.size 1 _ _ _ K0.out
  generalize hN : C.fr.length = n0 at *
  have K1 := Lib.hid (blk_far (p := w.heap.size + 2) (i := 0) K1.out (by omega) (.slice (some ⟨w.heap.size + 3, 0, none⟩) n0 n0))
  have K2 : Hid ((w1.setCell ⟨w.heap.size + 2, 0, none⟩ (.slice (some ⟨w.heap.size + 3, 0, none⟩) n0 n0)).heap[w.heap.size + 2]? = some (.cells #[.slice (some ⟨w.heap.size + 3, 0, none⟩) n0 n0, .slice none 0 0] 62)) := Lib.hid (wk_set K2.out 0 (.slice (some ⟨w.heap.size + 3, 0, none⟩) n0 n0))
  have R0 := Lib.hid (R0.out.far (p := w.heap.size + 2) (i := 0) (by omega) (.slice (some ⟨w.heap.size + 3, 0, none⟩) n0 n0))
  have Hb := Lib.hid (Hb.out.setCell (p := ⟨w.heap.size + 2, 0, none⟩) (by simp only; omega) (.slice (some ⟨w.heap.size + 3, 0, none⟩) n0 n0))
  have HL := Lib.hid (show w.heap.size + 3 ≤ (w1.setCell ⟨w.heap.size + 2, 0, none⟩ (.slice (some ⟨w.heap.size + 3, 0, none⟩) n0 n0)).heap.size by simp only [World.setCell, Array.size_modify]; exact HL.out)
  go_wp2_with fail
  refine Calls.mono (HA1.out _ ((HZ.out.below Hb.out (Nat.le_refl _)).st)) ?_
  rintro e w2 ⟨g1, rfl, ho, hb⟩
  have R0 := Lib.hid (R0.out.bel hb)
  have R1 := Lib.hid (own_base ho HL.out)
  have K1 := Lib.hid (blk_bel K1.out hb)
  have K2 := Lib.hid (blk_bel K2.out hb)
  have Hb := Lib.hid (Hb.out.trans (hb.mono (Nat.le_trans (Nat.le_add_right _ 3) HL.out)))
  clear ho hb c0 c1 c2
  have c0 := cell_of_row w2 (w.heap.size + 2) 0 _ _ _ K2.out
  have c1 := cell_of_row w2 (w.heap.size + 2) 1 _ _ _ K2.out
  have f1 := frozen_of_row w2 (w.heap.size + 2) 1 _ _ K2.out
  have d0 := cell_of_row w2 (w.heap.size + 1) 0 _ _ _ K1.out
  have d1 := cell_of_row w2 (w.heap.size + 1) 1 _ _ _ K1.out
  have e0 := frozen_of_row w2 (w.heap.size + 1) 0 _ _ K1.out
  have e1 := frozen_of_row w2 (w.heap.size + 1) 1 _ _ K1.out
  go_wp2
  refine bodyPost_ret (v := .agg #[.slice (some ⟨w.heap.size + 3, 0, none⟩) n0 n0, .slice (some ⟨g1, 0, none⟩) C.st.length C.st.length]) (by simp [results, Tryd.results48, go_sem, d0, d1]) rfl ?_
  have HX := HP.out ⟨some ⟨w.heap.size + 3, 0, none⟩, some ⟨g1, 0, none⟩, n0, C.st.length⟩
  rw [show cV ⟨some ⟨w.heap.size + 3, 0, none⟩, some ⟨g1, 0, none⟩, n0, C.st.length⟩ C = .agg #[.slice (some ⟨w.heap.size + 3, 0, none⟩) n0 n0, .slice (some ⟨g1, 0, none⟩) C.st.length C.st.length] from by rw [← hN]] at HX
  refine HX _ ⟨?_, ?_⟩ ?_
  · exact (((R0.out.far (by omega) _).far (by omega) _).far (by omega) _).frs
  · exact lies_own (own_far (own_far (own_far R1.out (by omega) _) (by omega) _) (by omega) _)
  · exact bel_set (bel_set (bel_set Hb.out (by omega) _) (by omega) _) (by omega) _
theorem eqFrame_same (r p : Int) (l : List Int) (a b : Option Addr) (c d : Nat) (hn : l.length ≤ 1048576) (w : World) (hz : Lies w a (kC l)) (hy : Lies w b (kC l)) :
    Calls Tryd.prog 113 #[.agg #[.int .i64 r, .int .i64 p, .slice a l.length c], .agg #[.int .i64 r, .int .i64 p, .slice b l.length d]] w fun e w' => e = .returned (.bool true) ∧ Below w.heap.size w w' := by
  have HE := Lib.hid (fun w hz hy => eqIntS_same l a b c d hn w hz hy)
  have HB : Hid (∀ O O' : Obj, Below w.heap.size w ((w.alloc O).alloc O')) := Lib.hid (fun O O' => ((Below.refl w.heap.size w).alloc (Nat.le_refl _) O).alloc (by simp) O')
  have HZ := Lib.hid hz
  have HY := Lib.hid hy
  clear hz hy
  generalize l.length = n at *
  have h1 : (r != r) = false := by simp
  have h2 : (p != p) = false := by simp
  go_enter Tryd.func113, Tryd.ntmps113
  go_wp2_with fail
  refine Calls.mono (HE.out _ (HZ.out.below (HB.out _ _) (Nat.le_refl _)) (HY.out.below (HB.out _ _) (Nat.le_refl _))) ?_
  rintro e w1 ⟨rfl, hb1⟩
  have Hb1 := Lib.hid ((HB.out _ _).trans (hb1.mono (HB.out _ _).size))
  clear hb1
  go_wp2
  go_ret
  exact ⟨rfl, Hb1.out⟩
set_option maxRecDepth 100000 in
set_option maxHeartbeats 1000000 in
theorem eqFrameS_same (fs : List FM) (a b : Option Addr) (c d : Nat) (hn : fs.length ≤ 1048576) (hl : ∀ j, j < fs.length → (fs.getD j fm0).2.2.length ≤ 1048576) (w : World) (hz : Frs w a fs) (hy : Frs w b fs) :
    Calls Tryd.prog 81 #[.slice a fs.length c, .slice b fs.length d] w fun e w' => e = .returned (.bool true) ∧ Below w.heap.size w w' := by
  have HA := Lib.hid (fun w a (h : Frs w a fs) j (hj : j < fs.length) => h.at hj)
  have HZ := Lib.hid hz
  have HY := Lib.hid hy
  have HM := Lib.hid hl
  clear hz hy hl
  generalize hL : fs.length = n at *
  have HL := Lib.hid hL
  clear hL
  have hs : ((n : Int) != n) = false := by simp
  go_enter Tryd.func81, Tryd.ntmps81
  go_wp2
  go_loopw [5] (fun i wr => ∃ k : Nat, k ≤ n ∧ i = .int .i64 k ∧ Hid (Below w.heap.size w wr)) (fun i _ => n - (intOf i).toNat)
  case atStart => exact ⟨0, Nat.zero_le _, rfl, Lib.hid (Below.refl _ _)⟩
  case round =>
    obtain ⟨k, hk, rfl, hb⟩ := hrel
    by_cases hlt : k < n
    · obtain ⟨b1, o1, x1, c1, rfl, hb1, hp1, hq1, hc1, hz1⟩ := HA.out w a HZ.out k hlt
      obtain ⟨b2, o2, x2, c2, rfl, hb2, hp2, hq2, hc2, hz2⟩ := HA.out w b HY.out k hlt
      have d0 := (hb.out.cell (p := ⟨b1, o1 + k * 3, none⟩) hb1).trans hp1
      have d1 := (hb.out.cell (p := ⟨b1, o1 + k * 3 + 1, none⟩) hb1).trans hq1
      have d2 := (hb.out.cell (p := ⟨b1, o1 + k * 3 + 2, none⟩) hb1).trans hc1
      have d3 := (hb.out.cell (p := ⟨b2, o2 + k * 3, none⟩) hb2).trans hp2
      have d4 := (hb.out.cell (p := ⟨b2, o2 + k * 3 + 1, none⟩) hb2).trans hq2
      have d5 := (hb.out.cell (p := ⟨b2, o2 + k * 3 + 2, none⟩) hb2).trans hc2
      have HE := Lib.hid (fun w2 (h : Below w.heap.size w w2) => eqFrame_same (fs.getD k fm0).1 (fs.getD k fm0).2.1 (fs.getD k fm0).2.2 x1 x2 c1 c2 (HM.out k hlt) w2 (hz1.below h (Nat.le_refl _)) (hz2.below h (Nat.le_refl _)))
      clear hc1 hc2 hz1 hz2 hp1 hp2 hq1 hq2
      generalize (fs.getD k fm0).2.2.length = q at *
      generalize (fs.getD k fm0).1 = r at *
      generalize (fs.getD k fm0).2.1 = p at *
      go_wp2_with fail
      go_region_with (go_at_call 113; refine Calls.mono (HE.out _ (by exact bel_dn hb.out 1)) ?_; rintro e w2 ⟨rfl, hb3⟩; have Hb3 := Lib.hid ((bel_dn hb.out 1).trans (hb3.mono (bel_dn hb.out 1).size)); clear hb3)
      all_goals go_wp2
      all_goals go_roundw
      all_goals first | exact ⟨k + 1, by omega, by go_num, Hb3⟩ | (simp [intOf]; omega)
    · obtain rfl : k = n := by omega
      go_wp2
      go_ret
      exact ⟨rfl, hb.out⟩
set_option maxRecDepth 100000 in
set_option maxHeartbeats 1000000 in
theorem eqCore_same (h h' : CH) (C : Cor) (hn : C.le 1048576) (w : World) (hz : CLies w h C) (hy : CLies w h' C) :
    Calls Tryd.prog 43 #[cV h C, cV h' C] w fun e w' => e = .returned (.bool true) ∧ Below w.heap.size w w' := by
  have HE0 := Lib.hid (fun w hz hy => eqFrameS_same C.fr h.a0 h'.a0 h.c0 h'.c0 hn.h0 hn.h2 w hz hy)
  have HE1 := Lib.hid (fun w hz hy => eqIntS_same C.st h.a1 h'.a1 h.c1 h'.c1 hn.h1 w hz hy)
  have HB := Lib.hid (Bx2.start w (cO h C 62) (cO h' C 62))
  have HZ := Lib.hid hz
  have HY := Lib.hid hy
  clear hz hy
  go_enter Tryd.func43, Tryd.ntmps43
  go_wp2_with fail
  refine Calls.mono (HE0.out _ (HZ.out.below HB.out.bel (Nat.le_refl _)).fr (HY.out.below HB.out.bel (Nat.le_refl _)).fr) ?_
  rintro e w1 ⟨rfl, hb1⟩
  have HB := Lib.hid (HB.out.to hb1)
  have q1 := cell_of_row w1 w.heap.size 1 _ _ _ HB.out.box
  have p1 := cell_of_row w1 (w.heap.size + 1) 1 _ _ _ HB.out.box2
  clear hb1
  go_wp2_with fail
  refine Calls.mono (HE1.out _ (HZ.out.below HB.out.bel (Nat.le_refl _)).st (HY.out.below HB.out.bel (Nat.le_refl _)).st) ?_
  rintro e w2 ⟨rfl, hb1⟩
  have HB := Lib.hid (HB.out.to hb1)
  clear hb1 q1 p1
  go_wp2
  go_ret
  exact ⟨rfl, HB.out.bel⟩
end Go.Proofs.YtnehaidkhpjpbaaDoor
