/- SameData of impl and of spec. (Written by tools/gen_same.py.) -/
import Derived.Test.YtgiegppakoiaiaaDoorEqual
namespace Go.Proofs.YtgiegppakoiaiaaDoor
open Go.ChangeShapes Go.WideShapes Go.ChangeAt Go.RowKit
set_option linter.unusedVariables false
def eqDat (A B : Dat) : Bool := decide (A.gl = B.gl) && (decide (A.bl = B.bl) && (decide (A.la = B.la) && (decide (A.pi = B.pi) && (decide (A.ou = B.ou) && (decide (A.wi = B.wi) && (decide (A.wr = B.wr)))))))
def sameB (A B : Dat) : Bool := datB A && (datB B && eqDat A B)
/-- Two boxes, and what was there. -/
structure Bx2 (w : World) (O O' : Obj) (X : World) : Prop where
  bel : Below w.heap.size w X
  box : X.heap[w.heap.size]? = some O
  box2 : X.heap[w.heap.size + 1]? = some O'
theorem Bx2.start (w : World) (O O' : Obj) : Bx2 w O O' ((w.alloc O).alloc O') := ⟨((Below.refl w.heap.size w).alloc (Nat.le_refl _) O).alloc (by simp) O', heap_alloc2_old w O O', heap_alloc2_new w O O'⟩
theorem Bx2.to {w X Y : World} {O O' : Obj} (h : Bx2 w O O' X) (hb : Below X.heap.size X Y) : Bx2 w O O' Y := ⟨h.bel.trans (hb.mono h.bel.size), blk_bel h.box hb, blk_bel h.box2 hb⟩
set_option maxRecDepth 100000 in
set_option maxHeartbeats 4000000 in
theorem sameData_any (h g : DH) (A B : Dat) (hA : A.le maxLen) (hB : B.le maxLen) (w : World) (ht : FbTab w) (hz : DLies w h A) (hy : DLies w g B) :
    Calls Tryd.prog 15 #[dV h A, dV g B] w fun e w' => e = .returned (.bool (sameB A B)) ∧ Below w.heap.size w w' := by
  have HB := Lib.hid (Bx2.start w (dO h A 27) (dO g B 27))
  have HT := Lib.hid ht
  have HZ := Lib.hid hz
  have HY := Lib.hid hy
  have HC0 := Lib.hid (fun w ht hz => dataOK_any h A hA w ht hz)
  have HC1 := Lib.hid (fun w ht hz => dataOK_any g B hB w ht hz)
  have HE0 := Lib.hid (fun w hz hy => slEqI_any A.gl B.gl h.a0 g.a0 h.c0 g.c0 hA.h0 hB.h0 w hz hy)
  have HE1 := Lib.hid (fun w hz hy => slEqF_any A.bl B.bl h.a1 g.a1 h.c1 g.c1 hA.h1 hB.h1 w hz hy)
  have HE2 := Lib.hid (fun w hz hy => slEqB_any A.la B.la h.a2 g.a2 h.c2 g.c2 hA.h2 hB.h2 w hz hy)
  have HE3 := Lib.hid (fun w hz hy => slEqB_any A.pi B.pi h.a3 g.a3 h.c3 g.c3 hA.h3 hB.h3 w hz hy)
  have HE4 := Lib.hid (fun w hz hy => slEqB_any A.ou B.ou h.a4 g.a4 h.c4 g.c4 hA.h4 hB.h4 w hz hy)
  have HE5 := Lib.hid (fun w hz hy => slEqB_any A.wi B.wi h.a5 g.a5 h.c5 g.c5 hA.h5 hB.h5 w hz hy)
  have HR : Hid (sameB A B = (datB A && (datB B && (decide (A.gl = B.gl) && (decide (A.bl = B.bl) && (decide (A.la = B.la) && (decide (A.pi = B.pi) && (decide (A.ou = B.ou) && (decide (A.wi = B.wi) && (decide (A.wr = B.wr))))))))))) := Lib.hid rfl
  clear ht hz hy
  generalize sameB A B = R at *
  generalize datB A = t0 at *
  generalize datB B = t1 at *
  generalize decide (A.gl = B.gl) = t2 at *
  generalize decide (A.bl = B.bl) = t3 at *
  generalize decide (A.la = B.la) = t4 at *
  generalize decide (A.pi = B.pi) = t5 at *
  generalize decide (A.ou = B.ou) = t6 at *
  generalize decide (A.wi = B.wi) = t7 at *
  cases t0
  case false =>
    go_enter Tryd.func15, Tryd.ntmps15
    go_wp2_with fail
    refine Calls.mono (HC0.out _ (HT.out.below HB.out.bel (Nat.le_refl _)) (HZ.out.below HB.out.bel (Nat.le_refl _))) ?_
    rintro e w1 ⟨rfl, hb⟩
    have HB := Lib.hid (HB.out.to hb)
    clear hb
    go_wp2
    go_ret
    exact ⟨fb_rb (by rw [HR.out]; simp), HB.out.bel⟩
  cases t1
  case false =>
    go_enter Tryd.func15, Tryd.ntmps15
    go_wp2_with fail
    refine Calls.mono (HC0.out _ (HT.out.below HB.out.bel (Nat.le_refl _)) (HZ.out.below HB.out.bel (Nat.le_refl _))) ?_
    rintro e w1 ⟨rfl, hb⟩
    have HB := Lib.hid (HB.out.to hb)
    clear hb
    have q0 := cell_of_row w1 w.heap.size 0 _ _ _ HB.out.box
    have p0 := cell_of_row w1 (w.heap.size + 1) 0 _ _ _ HB.out.box2
    have q1 := cell_of_row w1 w.heap.size 1 _ _ _ HB.out.box
    have p1 := cell_of_row w1 (w.heap.size + 1) 1 _ _ _ HB.out.box2
    have q2 := cell_of_row w1 w.heap.size 2 _ _ _ HB.out.box
    have p2 := cell_of_row w1 (w.heap.size + 1) 2 _ _ _ HB.out.box2
    have q3 := cell_of_row w1 w.heap.size 3 _ _ _ HB.out.box
    have p3 := cell_of_row w1 (w.heap.size + 1) 3 _ _ _ HB.out.box2
    have q4 := cell_of_row w1 w.heap.size 4 _ _ _ HB.out.box
    have p4 := cell_of_row w1 (w.heap.size + 1) 4 _ _ _ HB.out.box2
    have q5 := cell_of_row w1 w.heap.size 5 _ _ _ HB.out.box
    have p5 := cell_of_row w1 (w.heap.size + 1) 5 _ _ _ HB.out.box2
    have q6 := cell_of_row w1 w.heap.size 6 _ _ _ HB.out.box
    have p6 := cell_of_row w1 (w.heap.size + 1) 6 _ _ _ HB.out.box2
    go_wp2_with fail
    refine Calls.mono (HC1.out _ (HT.out.below HB.out.bel (Nat.le_refl _)) (HY.out.below HB.out.bel (Nat.le_refl _))) ?_
    rintro e w2 ⟨rfl, hb⟩
    have HB := Lib.hid (HB.out.to hb)
    clear hb
    go_wp2
    go_ret
    exact ⟨fb_rb (by rw [HR.out]; simp), HB.out.bel⟩
  cases t2
  case false =>
    go_enter Tryd.func15, Tryd.ntmps15
    go_wp2_with fail
    refine Calls.mono (HC0.out _ (HT.out.below HB.out.bel (Nat.le_refl _)) (HZ.out.below HB.out.bel (Nat.le_refl _))) ?_
    rintro e w1 ⟨rfl, hb⟩
    have HB := Lib.hid (HB.out.to hb)
    clear hb
    have q0 := cell_of_row w1 w.heap.size 0 _ _ _ HB.out.box
    have p0 := cell_of_row w1 (w.heap.size + 1) 0 _ _ _ HB.out.box2
    have q1 := cell_of_row w1 w.heap.size 1 _ _ _ HB.out.box
    have p1 := cell_of_row w1 (w.heap.size + 1) 1 _ _ _ HB.out.box2
    have q2 := cell_of_row w1 w.heap.size 2 _ _ _ HB.out.box
    have p2 := cell_of_row w1 (w.heap.size + 1) 2 _ _ _ HB.out.box2
    have q3 := cell_of_row w1 w.heap.size 3 _ _ _ HB.out.box
    have p3 := cell_of_row w1 (w.heap.size + 1) 3 _ _ _ HB.out.box2
    have q4 := cell_of_row w1 w.heap.size 4 _ _ _ HB.out.box
    have p4 := cell_of_row w1 (w.heap.size + 1) 4 _ _ _ HB.out.box2
    have q5 := cell_of_row w1 w.heap.size 5 _ _ _ HB.out.box
    have p5 := cell_of_row w1 (w.heap.size + 1) 5 _ _ _ HB.out.box2
    have q6 := cell_of_row w1 w.heap.size 6 _ _ _ HB.out.box
    have p6 := cell_of_row w1 (w.heap.size + 1) 6 _ _ _ HB.out.box2
    go_wp2_with fail
    refine Calls.mono (HC1.out _ (HT.out.below HB.out.bel (Nat.le_refl _)) (HY.out.below HB.out.bel (Nat.le_refl _))) ?_
    rintro e w2 ⟨rfl, hb⟩
    have HB := Lib.hid (HB.out.to hb)
    clear hb
    clear q0 p0 q1 p1 q2 p2 q3 p3 q4 p4 q5 p5 q6 p6
    have q0 := cell_of_row w2 w.heap.size 0 _ _ _ HB.out.box
    have p0 := cell_of_row w2 (w.heap.size + 1) 0 _ _ _ HB.out.box2
    go_wp2_with fail
    refine Calls.mono (HE0.out _ (HZ.out.below HB.out.bel (Nat.le_refl _)).gl (HY.out.below HB.out.bel (Nat.le_refl _)).gl) ?_
    rintro e w3 ⟨rfl, hb⟩
    have HB := Lib.hid (HB.out.to hb)
    clear hb
    go_wp2
    go_ret
    exact ⟨fb_rb (by rw [HR.out]; simp), HB.out.bel⟩
  cases t3
  case false =>
    go_enter Tryd.func15, Tryd.ntmps15
    go_wp2_with fail
    refine Calls.mono (HC0.out _ (HT.out.below HB.out.bel (Nat.le_refl _)) (HZ.out.below HB.out.bel (Nat.le_refl _))) ?_
    rintro e w1 ⟨rfl, hb⟩
    have HB := Lib.hid (HB.out.to hb)
    clear hb
    have q0 := cell_of_row w1 w.heap.size 0 _ _ _ HB.out.box
    have p0 := cell_of_row w1 (w.heap.size + 1) 0 _ _ _ HB.out.box2
    have q1 := cell_of_row w1 w.heap.size 1 _ _ _ HB.out.box
    have p1 := cell_of_row w1 (w.heap.size + 1) 1 _ _ _ HB.out.box2
    have q2 := cell_of_row w1 w.heap.size 2 _ _ _ HB.out.box
    have p2 := cell_of_row w1 (w.heap.size + 1) 2 _ _ _ HB.out.box2
    have q3 := cell_of_row w1 w.heap.size 3 _ _ _ HB.out.box
    have p3 := cell_of_row w1 (w.heap.size + 1) 3 _ _ _ HB.out.box2
    have q4 := cell_of_row w1 w.heap.size 4 _ _ _ HB.out.box
    have p4 := cell_of_row w1 (w.heap.size + 1) 4 _ _ _ HB.out.box2
    have q5 := cell_of_row w1 w.heap.size 5 _ _ _ HB.out.box
    have p5 := cell_of_row w1 (w.heap.size + 1) 5 _ _ _ HB.out.box2
    have q6 := cell_of_row w1 w.heap.size 6 _ _ _ HB.out.box
    have p6 := cell_of_row w1 (w.heap.size + 1) 6 _ _ _ HB.out.box2
    go_wp2_with fail
    refine Calls.mono (HC1.out _ (HT.out.below HB.out.bel (Nat.le_refl _)) (HY.out.below HB.out.bel (Nat.le_refl _))) ?_
    rintro e w2 ⟨rfl, hb⟩
    have HB := Lib.hid (HB.out.to hb)
    clear hb
    clear q0 p0 q1 p1 q2 p2 q3 p3 q4 p4 q5 p5 q6 p6
    have q0 := cell_of_row w2 w.heap.size 0 _ _ _ HB.out.box
    have p0 := cell_of_row w2 (w.heap.size + 1) 0 _ _ _ HB.out.box2
    go_wp2_with fail
    refine Calls.mono (HE0.out _ (HZ.out.below HB.out.bel (Nat.le_refl _)).gl (HY.out.below HB.out.bel (Nat.le_refl _)).gl) ?_
    rintro e w3 ⟨rfl, hb⟩
    have HB := Lib.hid (HB.out.to hb)
    clear hb
    clear q0 p0
    have q1 := cell_of_row w3 w.heap.size 1 _ _ _ HB.out.box
    have p1 := cell_of_row w3 (w.heap.size + 1) 1 _ _ _ HB.out.box2
    go_wp2_with fail
    refine Calls.mono (HE1.out _ (HZ.out.below HB.out.bel (Nat.le_refl _)).bl (HY.out.below HB.out.bel (Nat.le_refl _)).bl) ?_
    rintro e w4 ⟨rfl, hb⟩
    have HB := Lib.hid (HB.out.to hb)
    clear hb
    go_wp2
    go_ret
    exact ⟨fb_rb (by rw [HR.out]; simp), HB.out.bel⟩
  cases t4
  case false =>
    go_enter Tryd.func15, Tryd.ntmps15
    go_wp2_with fail
    refine Calls.mono (HC0.out _ (HT.out.below HB.out.bel (Nat.le_refl _)) (HZ.out.below HB.out.bel (Nat.le_refl _))) ?_
    rintro e w1 ⟨rfl, hb⟩
    have HB := Lib.hid (HB.out.to hb)
    clear hb
    have q0 := cell_of_row w1 w.heap.size 0 _ _ _ HB.out.box
    have p0 := cell_of_row w1 (w.heap.size + 1) 0 _ _ _ HB.out.box2
    have q1 := cell_of_row w1 w.heap.size 1 _ _ _ HB.out.box
    have p1 := cell_of_row w1 (w.heap.size + 1) 1 _ _ _ HB.out.box2
    have q2 := cell_of_row w1 w.heap.size 2 _ _ _ HB.out.box
    have p2 := cell_of_row w1 (w.heap.size + 1) 2 _ _ _ HB.out.box2
    have q3 := cell_of_row w1 w.heap.size 3 _ _ _ HB.out.box
    have p3 := cell_of_row w1 (w.heap.size + 1) 3 _ _ _ HB.out.box2
    have q4 := cell_of_row w1 w.heap.size 4 _ _ _ HB.out.box
    have p4 := cell_of_row w1 (w.heap.size + 1) 4 _ _ _ HB.out.box2
    have q5 := cell_of_row w1 w.heap.size 5 _ _ _ HB.out.box
    have p5 := cell_of_row w1 (w.heap.size + 1) 5 _ _ _ HB.out.box2
    have q6 := cell_of_row w1 w.heap.size 6 _ _ _ HB.out.box
    have p6 := cell_of_row w1 (w.heap.size + 1) 6 _ _ _ HB.out.box2
    go_wp2_with fail
    refine Calls.mono (HC1.out _ (HT.out.below HB.out.bel (Nat.le_refl _)) (HY.out.below HB.out.bel (Nat.le_refl _))) ?_
    rintro e w2 ⟨rfl, hb⟩
    have HB := Lib.hid (HB.out.to hb)
    clear hb
    clear q0 p0 q1 p1 q2 p2 q3 p3 q4 p4 q5 p5 q6 p6
    have q0 := cell_of_row w2 w.heap.size 0 _ _ _ HB.out.box
    have p0 := cell_of_row w2 (w.heap.size + 1) 0 _ _ _ HB.out.box2
    go_wp2_with fail
    refine Calls.mono (HE0.out _ (HZ.out.below HB.out.bel (Nat.le_refl _)).gl (HY.out.below HB.out.bel (Nat.le_refl _)).gl) ?_
    rintro e w3 ⟨rfl, hb⟩
    have HB := Lib.hid (HB.out.to hb)
    clear hb
    clear q0 p0
    have q1 := cell_of_row w3 w.heap.size 1 _ _ _ HB.out.box
    have p1 := cell_of_row w3 (w.heap.size + 1) 1 _ _ _ HB.out.box2
    go_wp2_with fail
    refine Calls.mono (HE1.out _ (HZ.out.below HB.out.bel (Nat.le_refl _)).bl (HY.out.below HB.out.bel (Nat.le_refl _)).bl) ?_
    rintro e w4 ⟨rfl, hb⟩
    have HB := Lib.hid (HB.out.to hb)
    clear hb
    clear q1 p1
    have q2 := cell_of_row w4 w.heap.size 2 _ _ _ HB.out.box
    have p2 := cell_of_row w4 (w.heap.size + 1) 2 _ _ _ HB.out.box2
    go_wp2_with fail
    refine Calls.mono (HE2.out _ (HZ.out.below HB.out.bel (Nat.le_refl _)).la (HY.out.below HB.out.bel (Nat.le_refl _)).la) ?_
    rintro e w5 ⟨rfl, hb⟩
    have HB := Lib.hid (HB.out.to hb)
    clear hb
    go_wp2
    go_ret
    exact ⟨fb_rb (by rw [HR.out]; simp), HB.out.bel⟩
  cases t5
  case false =>
    go_enter Tryd.func15, Tryd.ntmps15
    go_wp2_with fail
    refine Calls.mono (HC0.out _ (HT.out.below HB.out.bel (Nat.le_refl _)) (HZ.out.below HB.out.bel (Nat.le_refl _))) ?_
    rintro e w1 ⟨rfl, hb⟩
    have HB := Lib.hid (HB.out.to hb)
    clear hb
    have q0 := cell_of_row w1 w.heap.size 0 _ _ _ HB.out.box
    have p0 := cell_of_row w1 (w.heap.size + 1) 0 _ _ _ HB.out.box2
    have q1 := cell_of_row w1 w.heap.size 1 _ _ _ HB.out.box
    have p1 := cell_of_row w1 (w.heap.size + 1) 1 _ _ _ HB.out.box2
    have q2 := cell_of_row w1 w.heap.size 2 _ _ _ HB.out.box
    have p2 := cell_of_row w1 (w.heap.size + 1) 2 _ _ _ HB.out.box2
    have q3 := cell_of_row w1 w.heap.size 3 _ _ _ HB.out.box
    have p3 := cell_of_row w1 (w.heap.size + 1) 3 _ _ _ HB.out.box2
    have q4 := cell_of_row w1 w.heap.size 4 _ _ _ HB.out.box
    have p4 := cell_of_row w1 (w.heap.size + 1) 4 _ _ _ HB.out.box2
    have q5 := cell_of_row w1 w.heap.size 5 _ _ _ HB.out.box
    have p5 := cell_of_row w1 (w.heap.size + 1) 5 _ _ _ HB.out.box2
    have q6 := cell_of_row w1 w.heap.size 6 _ _ _ HB.out.box
    have p6 := cell_of_row w1 (w.heap.size + 1) 6 _ _ _ HB.out.box2
    go_wp2_with fail
    refine Calls.mono (HC1.out _ (HT.out.below HB.out.bel (Nat.le_refl _)) (HY.out.below HB.out.bel (Nat.le_refl _))) ?_
    rintro e w2 ⟨rfl, hb⟩
    have HB := Lib.hid (HB.out.to hb)
    clear hb
    clear q0 p0 q1 p1 q2 p2 q3 p3 q4 p4 q5 p5 q6 p6
    have q0 := cell_of_row w2 w.heap.size 0 _ _ _ HB.out.box
    have p0 := cell_of_row w2 (w.heap.size + 1) 0 _ _ _ HB.out.box2
    go_wp2_with fail
    refine Calls.mono (HE0.out _ (HZ.out.below HB.out.bel (Nat.le_refl _)).gl (HY.out.below HB.out.bel (Nat.le_refl _)).gl) ?_
    rintro e w3 ⟨rfl, hb⟩
    have HB := Lib.hid (HB.out.to hb)
    clear hb
    clear q0 p0
    have q1 := cell_of_row w3 w.heap.size 1 _ _ _ HB.out.box
    have p1 := cell_of_row w3 (w.heap.size + 1) 1 _ _ _ HB.out.box2
    go_wp2_with fail
    refine Calls.mono (HE1.out _ (HZ.out.below HB.out.bel (Nat.le_refl _)).bl (HY.out.below HB.out.bel (Nat.le_refl _)).bl) ?_
    rintro e w4 ⟨rfl, hb⟩
    have HB := Lib.hid (HB.out.to hb)
    clear hb
    clear q1 p1
    have q2 := cell_of_row w4 w.heap.size 2 _ _ _ HB.out.box
    have p2 := cell_of_row w4 (w.heap.size + 1) 2 _ _ _ HB.out.box2
    go_wp2_with fail
    refine Calls.mono (HE2.out _ (HZ.out.below HB.out.bel (Nat.le_refl _)).la (HY.out.below HB.out.bel (Nat.le_refl _)).la) ?_
    rintro e w5 ⟨rfl, hb⟩
    have HB := Lib.hid (HB.out.to hb)
    clear hb
    clear q2 p2
    have q3 := cell_of_row w5 w.heap.size 3 _ _ _ HB.out.box
    have p3 := cell_of_row w5 (w.heap.size + 1) 3 _ _ _ HB.out.box2
    go_wp2_with fail
    refine Calls.mono (HE3.out _ (HZ.out.below HB.out.bel (Nat.le_refl _)).pi (HY.out.below HB.out.bel (Nat.le_refl _)).pi) ?_
    rintro e w6 ⟨rfl, hb⟩
    have HB := Lib.hid (HB.out.to hb)
    clear hb
    go_wp2
    go_ret
    exact ⟨fb_rb (by rw [HR.out]; simp), HB.out.bel⟩
  cases t6
  case false =>
    go_enter Tryd.func15, Tryd.ntmps15
    go_wp2_with fail
    refine Calls.mono (HC0.out _ (HT.out.below HB.out.bel (Nat.le_refl _)) (HZ.out.below HB.out.bel (Nat.le_refl _))) ?_
    rintro e w1 ⟨rfl, hb⟩
    have HB := Lib.hid (HB.out.to hb)
    clear hb
    have q0 := cell_of_row w1 w.heap.size 0 _ _ _ HB.out.box
    have p0 := cell_of_row w1 (w.heap.size + 1) 0 _ _ _ HB.out.box2
    have q1 := cell_of_row w1 w.heap.size 1 _ _ _ HB.out.box
    have p1 := cell_of_row w1 (w.heap.size + 1) 1 _ _ _ HB.out.box2
    have q2 := cell_of_row w1 w.heap.size 2 _ _ _ HB.out.box
    have p2 := cell_of_row w1 (w.heap.size + 1) 2 _ _ _ HB.out.box2
    have q3 := cell_of_row w1 w.heap.size 3 _ _ _ HB.out.box
    have p3 := cell_of_row w1 (w.heap.size + 1) 3 _ _ _ HB.out.box2
    have q4 := cell_of_row w1 w.heap.size 4 _ _ _ HB.out.box
    have p4 := cell_of_row w1 (w.heap.size + 1) 4 _ _ _ HB.out.box2
    have q5 := cell_of_row w1 w.heap.size 5 _ _ _ HB.out.box
    have p5 := cell_of_row w1 (w.heap.size + 1) 5 _ _ _ HB.out.box2
    have q6 := cell_of_row w1 w.heap.size 6 _ _ _ HB.out.box
    have p6 := cell_of_row w1 (w.heap.size + 1) 6 _ _ _ HB.out.box2
    go_wp2_with fail
    refine Calls.mono (HC1.out _ (HT.out.below HB.out.bel (Nat.le_refl _)) (HY.out.below HB.out.bel (Nat.le_refl _))) ?_
    rintro e w2 ⟨rfl, hb⟩
    have HB := Lib.hid (HB.out.to hb)
    clear hb
    clear q0 p0 q1 p1 q2 p2 q3 p3 q4 p4 q5 p5 q6 p6
    have q0 := cell_of_row w2 w.heap.size 0 _ _ _ HB.out.box
    have p0 := cell_of_row w2 (w.heap.size + 1) 0 _ _ _ HB.out.box2
    go_wp2_with fail
    refine Calls.mono (HE0.out _ (HZ.out.below HB.out.bel (Nat.le_refl _)).gl (HY.out.below HB.out.bel (Nat.le_refl _)).gl) ?_
    rintro e w3 ⟨rfl, hb⟩
    have HB := Lib.hid (HB.out.to hb)
    clear hb
    clear q0 p0
    have q1 := cell_of_row w3 w.heap.size 1 _ _ _ HB.out.box
    have p1 := cell_of_row w3 (w.heap.size + 1) 1 _ _ _ HB.out.box2
    go_wp2_with fail
    refine Calls.mono (HE1.out _ (HZ.out.below HB.out.bel (Nat.le_refl _)).bl (HY.out.below HB.out.bel (Nat.le_refl _)).bl) ?_
    rintro e w4 ⟨rfl, hb⟩
    have HB := Lib.hid (HB.out.to hb)
    clear hb
    clear q1 p1
    have q2 := cell_of_row w4 w.heap.size 2 _ _ _ HB.out.box
    have p2 := cell_of_row w4 (w.heap.size + 1) 2 _ _ _ HB.out.box2
    go_wp2_with fail
    refine Calls.mono (HE2.out _ (HZ.out.below HB.out.bel (Nat.le_refl _)).la (HY.out.below HB.out.bel (Nat.le_refl _)).la) ?_
    rintro e w5 ⟨rfl, hb⟩
    have HB := Lib.hid (HB.out.to hb)
    clear hb
    clear q2 p2
    have q3 := cell_of_row w5 w.heap.size 3 _ _ _ HB.out.box
    have p3 := cell_of_row w5 (w.heap.size + 1) 3 _ _ _ HB.out.box2
    go_wp2_with fail
    refine Calls.mono (HE3.out _ (HZ.out.below HB.out.bel (Nat.le_refl _)).pi (HY.out.below HB.out.bel (Nat.le_refl _)).pi) ?_
    rintro e w6 ⟨rfl, hb⟩
    have HB := Lib.hid (HB.out.to hb)
    clear hb
    clear q3 p3
    have q4 := cell_of_row w6 w.heap.size 4 _ _ _ HB.out.box
    have p4 := cell_of_row w6 (w.heap.size + 1) 4 _ _ _ HB.out.box2
    go_wp2_with fail
    refine Calls.mono (HE4.out _ (HZ.out.below HB.out.bel (Nat.le_refl _)).ou (HY.out.below HB.out.bel (Nat.le_refl _)).ou) ?_
    rintro e w7 ⟨rfl, hb⟩
    have HB := Lib.hid (HB.out.to hb)
    clear hb
    go_wp2
    go_ret
    exact ⟨fb_rb (by rw [HR.out]; simp), HB.out.bel⟩
  cases t7
  case false =>
    go_enter Tryd.func15, Tryd.ntmps15
    go_wp2_with fail
    refine Calls.mono (HC0.out _ (HT.out.below HB.out.bel (Nat.le_refl _)) (HZ.out.below HB.out.bel (Nat.le_refl _))) ?_
    rintro e w1 ⟨rfl, hb⟩
    have HB := Lib.hid (HB.out.to hb)
    clear hb
    have q0 := cell_of_row w1 w.heap.size 0 _ _ _ HB.out.box
    have p0 := cell_of_row w1 (w.heap.size + 1) 0 _ _ _ HB.out.box2
    have q1 := cell_of_row w1 w.heap.size 1 _ _ _ HB.out.box
    have p1 := cell_of_row w1 (w.heap.size + 1) 1 _ _ _ HB.out.box2
    have q2 := cell_of_row w1 w.heap.size 2 _ _ _ HB.out.box
    have p2 := cell_of_row w1 (w.heap.size + 1) 2 _ _ _ HB.out.box2
    have q3 := cell_of_row w1 w.heap.size 3 _ _ _ HB.out.box
    have p3 := cell_of_row w1 (w.heap.size + 1) 3 _ _ _ HB.out.box2
    have q4 := cell_of_row w1 w.heap.size 4 _ _ _ HB.out.box
    have p4 := cell_of_row w1 (w.heap.size + 1) 4 _ _ _ HB.out.box2
    have q5 := cell_of_row w1 w.heap.size 5 _ _ _ HB.out.box
    have p5 := cell_of_row w1 (w.heap.size + 1) 5 _ _ _ HB.out.box2
    have q6 := cell_of_row w1 w.heap.size 6 _ _ _ HB.out.box
    have p6 := cell_of_row w1 (w.heap.size + 1) 6 _ _ _ HB.out.box2
    go_wp2_with fail
    refine Calls.mono (HC1.out _ (HT.out.below HB.out.bel (Nat.le_refl _)) (HY.out.below HB.out.bel (Nat.le_refl _))) ?_
    rintro e w2 ⟨rfl, hb⟩
    have HB := Lib.hid (HB.out.to hb)
    clear hb
    clear q0 p0 q1 p1 q2 p2 q3 p3 q4 p4 q5 p5 q6 p6
    have q0 := cell_of_row w2 w.heap.size 0 _ _ _ HB.out.box
    have p0 := cell_of_row w2 (w.heap.size + 1) 0 _ _ _ HB.out.box2
    go_wp2_with fail
    refine Calls.mono (HE0.out _ (HZ.out.below HB.out.bel (Nat.le_refl _)).gl (HY.out.below HB.out.bel (Nat.le_refl _)).gl) ?_
    rintro e w3 ⟨rfl, hb⟩
    have HB := Lib.hid (HB.out.to hb)
    clear hb
    clear q0 p0
    have q1 := cell_of_row w3 w.heap.size 1 _ _ _ HB.out.box
    have p1 := cell_of_row w3 (w.heap.size + 1) 1 _ _ _ HB.out.box2
    go_wp2_with fail
    refine Calls.mono (HE1.out _ (HZ.out.below HB.out.bel (Nat.le_refl _)).bl (HY.out.below HB.out.bel (Nat.le_refl _)).bl) ?_
    rintro e w4 ⟨rfl, hb⟩
    have HB := Lib.hid (HB.out.to hb)
    clear hb
    clear q1 p1
    have q2 := cell_of_row w4 w.heap.size 2 _ _ _ HB.out.box
    have p2 := cell_of_row w4 (w.heap.size + 1) 2 _ _ _ HB.out.box2
    go_wp2_with fail
    refine Calls.mono (HE2.out _ (HZ.out.below HB.out.bel (Nat.le_refl _)).la (HY.out.below HB.out.bel (Nat.le_refl _)).la) ?_
    rintro e w5 ⟨rfl, hb⟩
    have HB := Lib.hid (HB.out.to hb)
    clear hb
    clear q2 p2
    have q3 := cell_of_row w5 w.heap.size 3 _ _ _ HB.out.box
    have p3 := cell_of_row w5 (w.heap.size + 1) 3 _ _ _ HB.out.box2
    go_wp2_with fail
    refine Calls.mono (HE3.out _ (HZ.out.below HB.out.bel (Nat.le_refl _)).pi (HY.out.below HB.out.bel (Nat.le_refl _)).pi) ?_
    rintro e w6 ⟨rfl, hb⟩
    have HB := Lib.hid (HB.out.to hb)
    clear hb
    clear q3 p3
    have q4 := cell_of_row w6 w.heap.size 4 _ _ _ HB.out.box
    have p4 := cell_of_row w6 (w.heap.size + 1) 4 _ _ _ HB.out.box2
    go_wp2_with fail
    refine Calls.mono (HE4.out _ (HZ.out.below HB.out.bel (Nat.le_refl _)).ou (HY.out.below HB.out.bel (Nat.le_refl _)).ou) ?_
    rintro e w7 ⟨rfl, hb⟩
    have HB := Lib.hid (HB.out.to hb)
    clear hb
    clear q4 p4
    have q5 := cell_of_row w7 w.heap.size 5 _ _ _ HB.out.box
    have p5 := cell_of_row w7 (w.heap.size + 1) 5 _ _ _ HB.out.box2
    go_wp2_with fail
    refine Calls.mono (HE5.out _ (HZ.out.below HB.out.bel (Nat.le_refl _)).wi (HY.out.below HB.out.bel (Nat.le_refl _)).wi) ?_
    rintro e w8 ⟨rfl, hb⟩
    have HB := Lib.hid (HB.out.to hb)
    clear hb
    go_wp2
    go_ret
    exact ⟨fb_rb (by rw [HR.out]; simp), HB.out.bel⟩
  go_enter Tryd.func15, Tryd.ntmps15
  go_wp2_with fail
  refine Calls.mono (HC0.out _ (HT.out.below HB.out.bel (Nat.le_refl _)) (HZ.out.below HB.out.bel (Nat.le_refl _))) ?_
  rintro e w1 ⟨rfl, hb⟩
  have HB := Lib.hid (HB.out.to hb)
  clear hb
  have q0 := cell_of_row w1 w.heap.size 0 _ _ _ HB.out.box
  have p0 := cell_of_row w1 (w.heap.size + 1) 0 _ _ _ HB.out.box2
  have q1 := cell_of_row w1 w.heap.size 1 _ _ _ HB.out.box
  have p1 := cell_of_row w1 (w.heap.size + 1) 1 _ _ _ HB.out.box2
  have q2 := cell_of_row w1 w.heap.size 2 _ _ _ HB.out.box
  have p2 := cell_of_row w1 (w.heap.size + 1) 2 _ _ _ HB.out.box2
  have q3 := cell_of_row w1 w.heap.size 3 _ _ _ HB.out.box
  have p3 := cell_of_row w1 (w.heap.size + 1) 3 _ _ _ HB.out.box2
  have q4 := cell_of_row w1 w.heap.size 4 _ _ _ HB.out.box
  have p4 := cell_of_row w1 (w.heap.size + 1) 4 _ _ _ HB.out.box2
  have q5 := cell_of_row w1 w.heap.size 5 _ _ _ HB.out.box
  have p5 := cell_of_row w1 (w.heap.size + 1) 5 _ _ _ HB.out.box2
  have q6 := cell_of_row w1 w.heap.size 6 _ _ _ HB.out.box
  have p6 := cell_of_row w1 (w.heap.size + 1) 6 _ _ _ HB.out.box2
  go_wp2_with fail
  refine Calls.mono (HC1.out _ (HT.out.below HB.out.bel (Nat.le_refl _)) (HY.out.below HB.out.bel (Nat.le_refl _))) ?_
  rintro e w2 ⟨rfl, hb⟩
  have HB := Lib.hid (HB.out.to hb)
  clear hb
  clear q0 p0 q1 p1 q2 p2 q3 p3 q4 p4 q5 p5 q6 p6
  have q0 := cell_of_row w2 w.heap.size 0 _ _ _ HB.out.box
  have p0 := cell_of_row w2 (w.heap.size + 1) 0 _ _ _ HB.out.box2
  go_wp2_with fail
  refine Calls.mono (HE0.out _ (HZ.out.below HB.out.bel (Nat.le_refl _)).gl (HY.out.below HB.out.bel (Nat.le_refl _)).gl) ?_
  rintro e w3 ⟨rfl, hb⟩
  have HB := Lib.hid (HB.out.to hb)
  clear hb
  clear q0 p0
  have q1 := cell_of_row w3 w.heap.size 1 _ _ _ HB.out.box
  have p1 := cell_of_row w3 (w.heap.size + 1) 1 _ _ _ HB.out.box2
  go_wp2_with fail
  refine Calls.mono (HE1.out _ (HZ.out.below HB.out.bel (Nat.le_refl _)).bl (HY.out.below HB.out.bel (Nat.le_refl _)).bl) ?_
  rintro e w4 ⟨rfl, hb⟩
  have HB := Lib.hid (HB.out.to hb)
  clear hb
  clear q1 p1
  have q2 := cell_of_row w4 w.heap.size 2 _ _ _ HB.out.box
  have p2 := cell_of_row w4 (w.heap.size + 1) 2 _ _ _ HB.out.box2
  go_wp2_with fail
  refine Calls.mono (HE2.out _ (HZ.out.below HB.out.bel (Nat.le_refl _)).la (HY.out.below HB.out.bel (Nat.le_refl _)).la) ?_
  rintro e w5 ⟨rfl, hb⟩
  have HB := Lib.hid (HB.out.to hb)
  clear hb
  clear q2 p2
  have q3 := cell_of_row w5 w.heap.size 3 _ _ _ HB.out.box
  have p3 := cell_of_row w5 (w.heap.size + 1) 3 _ _ _ HB.out.box2
  go_wp2_with fail
  refine Calls.mono (HE3.out _ (HZ.out.below HB.out.bel (Nat.le_refl _)).pi (HY.out.below HB.out.bel (Nat.le_refl _)).pi) ?_
  rintro e w6 ⟨rfl, hb⟩
  have HB := Lib.hid (HB.out.to hb)
  clear hb
  clear q3 p3
  have q4 := cell_of_row w6 w.heap.size 4 _ _ _ HB.out.box
  have p4 := cell_of_row w6 (w.heap.size + 1) 4 _ _ _ HB.out.box2
  go_wp2_with fail
  refine Calls.mono (HE4.out _ (HZ.out.below HB.out.bel (Nat.le_refl _)).ou (HY.out.below HB.out.bel (Nat.le_refl _)).ou) ?_
  rintro e w7 ⟨rfl, hb⟩
  have HB := Lib.hid (HB.out.to hb)
  clear hb
  clear q4 p4
  have q5 := cell_of_row w7 w.heap.size 5 _ _ _ HB.out.box
  have p5 := cell_of_row w7 (w.heap.size + 1) 5 _ _ _ HB.out.box2
  go_wp2_with fail
  refine Calls.mono (HE5.out _ (HZ.out.below HB.out.bel (Nat.le_refl _)).wi (HY.out.below HB.out.bel (Nat.le_refl _)).wi) ?_
  rintro e w8 ⟨rfl, hb⟩
  have HB := Lib.hid (HB.out.to hb)
  clear hb
  clear q5 p5
  have q6 := cell_of_row w8 w.heap.size 6 _ _ _ HB.out.box
  have p6 := cell_of_row w8 (w.heap.size + 1) 6 _ _ _ HB.out.box2
  go_wp2
  go_ret
  exact ⟨fb_rb (by rw [HR.out, Bool.eq_iff_iff]; simp), HB.out.bel⟩
def eqBol (A B : Dat) : Bool := decide (A.la = B.la) && (decide (A.pi = B.pi) && (decide (A.ou = B.ou) && decide (A.wi = B.wi)))
theorem eqDat_no {A B : Dat} (h : A.gl = B.gl → A.n1 = B.n1 → A.wr = B.wr → decide (A.bl = B.bl) = false) : eqDat A B = false := by
  unfold eqDat
  by_cases h0 : A.gl = B.gl
  · by_cases h1 : A.n1 = B.n1
    · by_cases h2 : A.wr = B.wr
      · rw [h h0 h1 h2]; simp
      · simp [h2]
    · have : A.bl ≠ B.bl := fun e => h1 (by unfold Dat.n1; rw [e])
      simp [this]
  · simp [h0]
theorem eqDat_yes {A B : Dat} (h0 : A.gl = B.gl) (h1 : decide (A.bl = B.bl) = true) (h2 : A.wr = B.wr) : eqDat A B = eqBol A B := by
  unfold eqDat eqBol
  rw [h1]
  simp [h0, h2]
set_option maxRecDepth 100000 in
set_option maxHeartbeats 4000000 in
theorem l06Same_any (h g : DH) (A B : Dat) (hA : A.le maxLen) (hB : B.le maxLen) (w : World) (hz : DLies w h A) (hy : DLies w g B) :
    Calls Tryd.prog 85 #[dV h A, dV g B] w fun e w' => e = .returned (.bool (eqDat A B)) ∧ Below w.heap.size w w' := by
  obtain ⟨a0, a1, a2, a3, a4, a5, e0, e1, e2, e3, e4, e5⟩ := h
  obtain ⟨b0, b1, b2, b3, b4, b5, d0, d1, d2, d3, d4, d5⟩ := g
  have HB := Lib.hid (Bx2.start w (dO ⟨a0, a1, a2, a3, a4, a5, e0, e1, e2, e3, e4, e5⟩ A 27) (dO ⟨b0, b1, b2, b3, b4, b5, d0, d1, d2, d3, d4, d5⟩ B 27))
  have HZ := Lib.hid hz
  have HY := Lib.hid hy
  have HE0 := Lib.hid (fun w hz hy => l00Same_any A.gl B.gl a0 b0 e0 d0 hA.h0 hB.h0 w hz hy)
  have HE2 := Lib.hid (fun w hz hy => l06SameBools_any A.la B.la a2 b2 e2 d2 hA.h2 hB.h2 w hz hy)
  have HE3 := Lib.hid (fun w hz hy => l06SameBools_any A.pi B.pi a3 b3 e3 d3 hA.h3 hB.h3 w hz hy)
  have HE4 := Lib.hid (fun w hz hy => l06SameBools_any A.ou B.ou a4 b4 e4 d4 hA.h4 hB.h4 w hz hy)
  have HE5 := Lib.hid (fun w hz hy => l06SameBools_any A.wi B.wi a5 b5 e5 d5 hA.h5 hB.h5 w hz hy)
  have HNO := Lib.hid (@eqDat_no A B)
  have HYES := Lib.hid (@eqDat_yes A B)
  have HLN := Lib.hid (fun j => @eql_no FT _ A.bl B.bl j f0)
  have HLY := Lib.hid (@eql_yes FT _ A.bl B.bl f0)
  have HL1 : Hid (A.bl.length = A.n1) := Lib.hid rfl
  have HM1 : Hid (B.bl.length = B.n1) := Lib.hid rfl
  have HR : Hid (eqBol A B = (decide (A.la = B.la) && (decide (A.pi = B.pi) && (decide (A.ou = B.ou) && decide (A.wi = B.wi))))) := Lib.hid rfl
  have hA1 := hA.h1
  have hB1 := hB.h1
  unfold maxLen at hA1 hB1
  have HG : Hid (∀ t, decide (A.gl = B.gl) = t → t = true → A.gl = B.gl) := Lib.hid (fun t e q => of_decide_eq_true (e.trans q))
  have HGN : Hid (∀ t, decide (A.gl = B.gl) = t → t = false → A.gl ≠ B.gl) := Lib.hid (fun t e q => of_decide_eq_false (e.trans q))
  have HG2 := Lib.hid (HG.out _ rfl)
  have HGN2 := Lib.hid (HGN.out _ rfl)
  clear hz hy hA hB HG HGN
  generalize eqDat A B = R at *
  generalize eqBol A B = R2 at *
  generalize decide (A.gl = B.gl) = t0 at *
  generalize decide (A.la = B.la) = t2 at *
  generalize decide (A.pi = B.pi) = t3 at *
  generalize decide (A.ou = B.ou) = t4 at *
  generalize decide (A.wi = B.wi) = t5 at *
  cases t0
  case false =>
    have HRR := Lib.hid (HNO.out (fun q _ _ => absurd q (HGN2.out rfl)))
    go_enter Tryd.func85, Tryd.ntmps85
    go_wp2_with fail
    refine Calls.mono (HE0.out _ (HZ.out.below HB.out.bel (Nat.le_refl _)).gl (HY.out.below HB.out.bel (Nat.le_refl _)).gl) ?_
    rintro e w1 ⟨rfl, hb⟩
    have HB := Lib.hid (HB.out.to hb)
    have q1 := cell_of_row w1 w.heap.size 1 _ _ _ HB.out.box
    have p1 := cell_of_row w1 (w.heap.size + 1) 1 _ _ _ HB.out.box2
    have q6 := cell_of_row w1 w.heap.size 6 _ _ _ HB.out.box
    have p6 := cell_of_row w1 (w.heap.size + 1) 6 _ _ _ HB.out.box2
    clear hb
    go_wp2
    go_ret
    exact ⟨fb_rb (by rw [HRR.out]), HB.out.bel⟩
  have HGL := Lib.hid (HG2.out rfl)
  clear HG2 HGN2
  by_cases hn : A.n1 = B.n1
  case neg =>
    have HRR := Lib.hid (HNO.out (fun _ q _ => absurd q hn))
    have hb1 : ((A.n1 : Int) != B.n1) = true := by rw [bne_iff_ne]; omega
    clear hn
    go_enter Tryd.func85, Tryd.ntmps85
    go_wp2_with fail
    refine Calls.mono (HE0.out _ (HZ.out.below HB.out.bel (Nat.le_refl _)).gl (HY.out.below HB.out.bel (Nat.le_refl _)).gl) ?_
    rintro e w1 ⟨rfl, hb⟩
    have HB := Lib.hid (HB.out.to hb)
    have q1 := cell_of_row w1 w.heap.size 1 _ _ _ HB.out.box
    have p1 := cell_of_row w1 (w.heap.size + 1) 1 _ _ _ HB.out.box2
    have q6 := cell_of_row w1 w.heap.size 6 _ _ _ HB.out.box
    have p6 := cell_of_row w1 (w.heap.size + 1) 6 _ _ _ HB.out.box2
    clear hb
    go_wp2
    go_ret
    exact ⟨fb_rb (by rw [HRR.out]), HB.out.bel⟩
  have hb1 : ((A.n1 : Int) != B.n1) = false := by rw [bne_eq_false_iff_eq]; omega
  have HN := Lib.hid hn
  clear hn
  by_cases hw : A.wr = B.wr
  case neg =>
    have HRR := Lib.hid (HNO.out (fun _ _ q => absurd q hw))
    have hb2 : (A.wr != B.wr) = true := by rw [bne_iff_ne]; exact hw
    clear hw
    go_enter Tryd.func85, Tryd.ntmps85
    go_wp2_with fail
    refine Calls.mono (HE0.out _ (HZ.out.below HB.out.bel (Nat.le_refl _)).gl (HY.out.below HB.out.bel (Nat.le_refl _)).gl) ?_
    rintro e w1 ⟨rfl, hb⟩
    have HB := Lib.hid (HB.out.to hb)
    have q1 := cell_of_row w1 w.heap.size 1 _ _ _ HB.out.box
    have p1 := cell_of_row w1 (w.heap.size + 1) 1 _ _ _ HB.out.box2
    have q6 := cell_of_row w1 w.heap.size 6 _ _ _ HB.out.box
    have p6 := cell_of_row w1 (w.heap.size + 1) 6 _ _ _ HB.out.box2
    clear hb
    go_wp2
    go_ret
    exact ⟨fb_rb (by rw [HRR.out]), HB.out.bel⟩
  have hb2 : (A.wr != B.wr) = false := by rw [bne_eq_false_iff_eq]; exact hw
  have HW := Lib.hid hw
  clear hw
  go_enter Tryd.func85, Tryd.ntmps85
  go_wp2_with fail
  refine Calls.mono (HE0.out _ (HZ.out.below HB.out.bel (Nat.le_refl _)).gl (HY.out.below HB.out.bel (Nat.le_refl _)).gl) ?_
  rintro e w1 ⟨rfl, hb⟩
  have HB := Lib.hid (HB.out.to hb)
  have q1 := cell_of_row w1 w.heap.size 1 _ _ _ HB.out.box
  have p1 := cell_of_row w1 (w.heap.size + 1) 1 _ _ _ HB.out.box2
  have q6 := cell_of_row w1 w.heap.size 6 _ _ _ HB.out.box
  have p6 := cell_of_row w1 (w.heap.size + 1) 6 _ _ _ HB.out.box2
  clear hb
  go_wp2
  clear q1 p1 q6 p6
  go_loopw [5] (fun i wr => ∃ k : Nat, k ≤ A.n1 ∧ i = .int .i64 k ∧ Hid (∀ q, q < k → A.bl.getD q f0 = B.bl.getD q f0) ∧ Hid (Bx2 w (dO ⟨a0, a1, a2, a3, a4, a5, e0, e1, e2, e3, e4, e5⟩ A 27) (dO ⟨b0, b1, b2, b3, b4, b5, d0, d1, d2, d3, d4, d5⟩ B 27) wr)) (fun i _ => A.n1 - (intOf i).toNat)
  case atStart => exact ⟨0, Nat.zero_le _, rfl, Lib.hid (by intro q hq; omega), HB⟩
  case round =>
    obtain ⟨k, hk, rfl, hr, hb⟩ := hrel
    have q1 := cell_of_row wr w.heap.size 1 _ _ _ hb.out.box
    have p1 := cell_of_row wr (w.heap.size + 1) 1 _ _ _ hb.out.box2
    by_cases hlt : k < A.n1
    · have hlt2 : k < B.n1 := by have := HN.out; omega
      obtain ⟨x1, o1, rfl, hx1, hc1⟩ := HZ.out.bl.open (by rw [flat_len fC_len, HL1.out]; omega)
      obtain ⟨x2, o2, rfl, hx2, hc2⟩ := HY.out.bl.open (by rw [flat_len fC_len, HM1.out]; omega)
      have u1 : C4 x1 (o1 + k * 4) (A.bl.getD k f0) wr := (ft_at hc1 (by rw [HL1.out]; exact hlt)).bel hb.out.bel hx1
      have u2 : C4 x2 (o2 + k * 4) (B.bl.getD k f0) wr := (ft_at hc2 (by rw [HM1.out]; exact hlt2)).bel hb.out.bel hx2
      obtain ⟨y0, y1, y2, y3⟩ := u1
      obtain ⟨z0, z1, z2, z3⟩ := u2
      clear hc1 hc2
      have HX := Lib.hid (fun q => HLN.out k q)
      have HK : Hid (A.bl.getD k f0 = B.bl.getD k f0 → ∀ q, q < k + 1 → A.bl.getD q f0 = B.bl.getD q f0) := Lib.hid (fun h q hq => by
        by_cases e : q = k
        · rw [e]; exact h
        · exact hr.out q (by omega))
      generalize A.bl.getD k f0 = x at *
      generalize B.bl.getD k f0 = y at *
      by_cases hxy : x = y
      · have HK2 := Lib.hid (HK.out hxy)
        have hxx := (fun w => eqFt_is (decide_eq_true hxy) w)
        clear hxy HX HK
        go_wp2_with fail
        go_quiet (fail)
        go_wp2
        go_roundw
        case rel => exact ⟨k + 1, by omega, by go_num, HK2, Lib.hid (hb.out.to (bel_dn (Below.refl _ _) _))⟩
        case measure => simp [intOf]; omega
      · have HRR := Lib.hid (HNO.out (fun _ _ _ => HX.out hxy))
        have hxx := (fun w => eqFt_is (decide_eq_false hxy) w)
        clear hxy HX HK
        go_wp2_with fail
        go_quiet (fail)
        go_wp2
        go_ret
        exact ⟨fb_rb (by rw [HRR.out]), (hb.out.to (bel_dn (Below.refl _ _) _)).bel⟩
    · obtain rfl : k = A.n1 := by omega
      have HRR := Lib.hid (HYES.out HGL.out (HLY.out (HL1.out.trans (HN.out.trans HM1.out.symm)) (by rw [HL1.out]; exact hr.out)) HW.out)
      have HB := Lib.hid hb.out
      clear hr hb HNO HYES HLN HLY
      have q2 := cell_of_row wr w.heap.size 2 _ _ _ HB.out.box
      have p2 := cell_of_row wr (w.heap.size + 1) 2 _ _ _ HB.out.box2
      cases t2
      case false =>
        go_wp2_with fail
        refine Calls.mono (HE2.out _ (HZ.out.below HB.out.bel (Nat.le_refl _)).la (HY.out.below HB.out.bel (Nat.le_refl _)).la) ?_
        rintro e w2 ⟨rfl, hb⟩
        have HB := Lib.hid (HB.out.to hb)
        clear hb q2 p2
        go_wp2
        go_ret
        exact ⟨fb_rb (by rw [HRR.out, HR.out]; simp), HB.out.bel⟩
      cases t3
      case false =>
        go_wp2_with fail
        refine Calls.mono (HE2.out _ (HZ.out.below HB.out.bel (Nat.le_refl _)).la (HY.out.below HB.out.bel (Nat.le_refl _)).la) ?_
        rintro e w2 ⟨rfl, hb⟩
        have HB := Lib.hid (HB.out.to hb)
        clear hb q2 p2
        have q3 := cell_of_row w2 w.heap.size 3 _ _ _ HB.out.box
        have p3 := cell_of_row w2 (w.heap.size + 1) 3 _ _ _ HB.out.box2
        go_wp2_with fail
        refine Calls.mono (HE3.out _ (HZ.out.below HB.out.bel (Nat.le_refl _)).pi (HY.out.below HB.out.bel (Nat.le_refl _)).pi) ?_
        rintro e w3 ⟨rfl, hb⟩
        have HB := Lib.hid (HB.out.to hb)
        clear hb q3 p3
        go_wp2
        go_ret
        exact ⟨fb_rb (by rw [HRR.out, HR.out]; simp), HB.out.bel⟩
      cases t4
      case false =>
        go_wp2_with fail
        refine Calls.mono (HE2.out _ (HZ.out.below HB.out.bel (Nat.le_refl _)).la (HY.out.below HB.out.bel (Nat.le_refl _)).la) ?_
        rintro e w2 ⟨rfl, hb⟩
        have HB := Lib.hid (HB.out.to hb)
        clear hb q2 p2
        have q3 := cell_of_row w2 w.heap.size 3 _ _ _ HB.out.box
        have p3 := cell_of_row w2 (w.heap.size + 1) 3 _ _ _ HB.out.box2
        go_wp2_with fail
        refine Calls.mono (HE3.out _ (HZ.out.below HB.out.bel (Nat.le_refl _)).pi (HY.out.below HB.out.bel (Nat.le_refl _)).pi) ?_
        rintro e w3 ⟨rfl, hb⟩
        have HB := Lib.hid (HB.out.to hb)
        clear hb q3 p3
        have q4 := cell_of_row w3 w.heap.size 4 _ _ _ HB.out.box
        have p4 := cell_of_row w3 (w.heap.size + 1) 4 _ _ _ HB.out.box2
        go_wp2_with fail
        refine Calls.mono (HE4.out _ (HZ.out.below HB.out.bel (Nat.le_refl _)).ou (HY.out.below HB.out.bel (Nat.le_refl _)).ou) ?_
        rintro e w4 ⟨rfl, hb⟩
        have HB := Lib.hid (HB.out.to hb)
        clear hb q4 p4
        go_wp2
        go_ret
        exact ⟨fb_rb (by rw [HRR.out, HR.out]; simp), HB.out.bel⟩
      cases t5
      case false =>
        go_wp2_with fail
        refine Calls.mono (HE2.out _ (HZ.out.below HB.out.bel (Nat.le_refl _)).la (HY.out.below HB.out.bel (Nat.le_refl _)).la) ?_
        rintro e w2 ⟨rfl, hb⟩
        have HB := Lib.hid (HB.out.to hb)
        clear hb q2 p2
        have q3 := cell_of_row w2 w.heap.size 3 _ _ _ HB.out.box
        have p3 := cell_of_row w2 (w.heap.size + 1) 3 _ _ _ HB.out.box2
        go_wp2_with fail
        refine Calls.mono (HE3.out _ (HZ.out.below HB.out.bel (Nat.le_refl _)).pi (HY.out.below HB.out.bel (Nat.le_refl _)).pi) ?_
        rintro e w3 ⟨rfl, hb⟩
        have HB := Lib.hid (HB.out.to hb)
        clear hb q3 p3
        have q4 := cell_of_row w3 w.heap.size 4 _ _ _ HB.out.box
        have p4 := cell_of_row w3 (w.heap.size + 1) 4 _ _ _ HB.out.box2
        go_wp2_with fail
        refine Calls.mono (HE4.out _ (HZ.out.below HB.out.bel (Nat.le_refl _)).ou (HY.out.below HB.out.bel (Nat.le_refl _)).ou) ?_
        rintro e w4 ⟨rfl, hb⟩
        have HB := Lib.hid (HB.out.to hb)
        clear hb q4 p4
        have q5 := cell_of_row w4 w.heap.size 5 _ _ _ HB.out.box
        have p5 := cell_of_row w4 (w.heap.size + 1) 5 _ _ _ HB.out.box2
        go_wp2_with fail
        refine Calls.mono (HE5.out _ (HZ.out.below HB.out.bel (Nat.le_refl _)).wi (HY.out.below HB.out.bel (Nat.le_refl _)).wi) ?_
        rintro e w5 ⟨rfl, hb⟩
        have HB := Lib.hid (HB.out.to hb)
        clear hb q5 p5
        go_wp2
        go_ret
        exact ⟨fb_rb (by rw [HRR.out, HR.out]; simp), HB.out.bel⟩
      go_wp2_with fail
      refine Calls.mono (HE2.out _ (HZ.out.below HB.out.bel (Nat.le_refl _)).la (HY.out.below HB.out.bel (Nat.le_refl _)).la) ?_
      rintro e w2 ⟨rfl, hb⟩
      have HB := Lib.hid (HB.out.to hb)
      clear hb q2 p2
      have q3 := cell_of_row w2 w.heap.size 3 _ _ _ HB.out.box
      have p3 := cell_of_row w2 (w.heap.size + 1) 3 _ _ _ HB.out.box2
      go_wp2_with fail
      refine Calls.mono (HE3.out _ (HZ.out.below HB.out.bel (Nat.le_refl _)).pi (HY.out.below HB.out.bel (Nat.le_refl _)).pi) ?_
      rintro e w3 ⟨rfl, hb⟩
      have HB := Lib.hid (HB.out.to hb)
      clear hb q3 p3
      have q4 := cell_of_row w3 w.heap.size 4 _ _ _ HB.out.box
      have p4 := cell_of_row w3 (w.heap.size + 1) 4 _ _ _ HB.out.box2
      go_wp2_with fail
      refine Calls.mono (HE4.out _ (HZ.out.below HB.out.bel (Nat.le_refl _)).ou (HY.out.below HB.out.bel (Nat.le_refl _)).ou) ?_
      rintro e w4 ⟨rfl, hb⟩
      have HB := Lib.hid (HB.out.to hb)
      clear hb q4 p4
      have q5 := cell_of_row w4 w.heap.size 5 _ _ _ HB.out.box
      have p5 := cell_of_row w4 (w.heap.size + 1) 5 _ _ _ HB.out.box2
      go_wp2_with fail
      refine Calls.mono (HE5.out _ (HZ.out.below HB.out.bel (Nat.le_refl _)).wi (HY.out.below HB.out.bel (Nat.le_refl _)).wi) ?_
      rintro e w5 ⟨rfl, hb⟩
      have HB := Lib.hid (HB.out.to hb)
      clear hb q5 p5
      go_wp2
      go_ret
      exact ⟨fb_rb (by rw [HRR.out, HR.out]; rfl), HB.out.bel⟩
set_option maxRecDepth 100000 in
set_option maxHeartbeats 4000000 in
theorem specSameData_any (h g : DH) (A B : Dat) (hA : A.le maxLen) (hB : B.le maxLen) (w : World) (hz : DLies w h A) (hy : DLies w g B) :
    Calls Tryd.prog 40 #[dV h A, dV g B] w fun e w' => e = .returned (.bool (sameB A B)) ∧ Below w.heap.size w w' := by
  have HB := Lib.hid (Bx2.start w (dO h A 27) (dO g B 27))
  have HZ := Lib.hid hz
  have HY := Lib.hid hy
  have HC0 := Lib.hid (fun w hz => specDataOK_any h A hA w hz)
  have HC1 := Lib.hid (fun w hz => specDataOK_any g B hB w hz)
  have HC2 := Lib.hid (fun w hz hy => l06Same_any h g A B hA hB w hz hy)
  have HR : Hid (sameB A B = (datB A && (datB B && eqDat A B))) := Lib.hid rfl
  clear hz hy
  generalize sameB A B = R at *
  generalize datB A = t0 at *
  generalize datB B = t1 at *
  generalize eqDat A B = t2 at *
  cases t0
  case false =>
    go_enter Tryd.func40, Tryd.ntmps40
    go_wp2_with fail
    refine Calls.mono (HC0.out _ (HZ.out.below HB.out.bel (Nat.le_refl _))) ?_
    rintro e w1 ⟨rfl, hb⟩
    have HB := Lib.hid (HB.out.to hb)
    clear hb
    go_wp2
    go_ret
    exact ⟨fb_rb (by rw [HR.out]; simp), HB.out.bel⟩
  cases t1
  case false =>
    go_enter Tryd.func40, Tryd.ntmps40
    go_wp2_with fail
    refine Calls.mono (HC0.out _ (HZ.out.below HB.out.bel (Nat.le_refl _))) ?_
    rintro e w1 ⟨rfl, hb⟩
    have HB := Lib.hid (HB.out.to hb)
    clear hb
    have q0 := cell_of_row w1 w.heap.size 0 _ _ _ HB.out.box
    have p0 := cell_of_row w1 (w.heap.size + 1) 0 _ _ _ HB.out.box2
    have q1 := cell_of_row w1 w.heap.size 1 _ _ _ HB.out.box
    have p1 := cell_of_row w1 (w.heap.size + 1) 1 _ _ _ HB.out.box2
    have q2 := cell_of_row w1 w.heap.size 2 _ _ _ HB.out.box
    have p2 := cell_of_row w1 (w.heap.size + 1) 2 _ _ _ HB.out.box2
    have q3 := cell_of_row w1 w.heap.size 3 _ _ _ HB.out.box
    have p3 := cell_of_row w1 (w.heap.size + 1) 3 _ _ _ HB.out.box2
    have q4 := cell_of_row w1 w.heap.size 4 _ _ _ HB.out.box
    have p4 := cell_of_row w1 (w.heap.size + 1) 4 _ _ _ HB.out.box2
    have q5 := cell_of_row w1 w.heap.size 5 _ _ _ HB.out.box
    have p5 := cell_of_row w1 (w.heap.size + 1) 5 _ _ _ HB.out.box2
    have q6 := cell_of_row w1 w.heap.size 6 _ _ _ HB.out.box
    have p6 := cell_of_row w1 (w.heap.size + 1) 6 _ _ _ HB.out.box2
    go_wp2_with fail
    refine Calls.mono (HC1.out _ (HY.out.below HB.out.bel (Nat.le_refl _))) ?_
    rintro e w2 ⟨rfl, hb⟩
    have HB := Lib.hid (HB.out.to hb)
    clear hb
    go_wp2
    go_ret
    exact ⟨fb_rb (by rw [HR.out]; simp), HB.out.bel⟩
  go_enter Tryd.func40, Tryd.ntmps40
  go_wp2_with fail
  refine Calls.mono (HC0.out _ (HZ.out.below HB.out.bel (Nat.le_refl _))) ?_
  rintro e w1 ⟨rfl, hb⟩
  have HB := Lib.hid (HB.out.to hb)
  clear hb
  have q0 := cell_of_row w1 w.heap.size 0 _ _ _ HB.out.box
  have p0 := cell_of_row w1 (w.heap.size + 1) 0 _ _ _ HB.out.box2
  have q1 := cell_of_row w1 w.heap.size 1 _ _ _ HB.out.box
  have p1 := cell_of_row w1 (w.heap.size + 1) 1 _ _ _ HB.out.box2
  have q2 := cell_of_row w1 w.heap.size 2 _ _ _ HB.out.box
  have p2 := cell_of_row w1 (w.heap.size + 1) 2 _ _ _ HB.out.box2
  have q3 := cell_of_row w1 w.heap.size 3 _ _ _ HB.out.box
  have p3 := cell_of_row w1 (w.heap.size + 1) 3 _ _ _ HB.out.box2
  have q4 := cell_of_row w1 w.heap.size 4 _ _ _ HB.out.box
  have p4 := cell_of_row w1 (w.heap.size + 1) 4 _ _ _ HB.out.box2
  have q5 := cell_of_row w1 w.heap.size 5 _ _ _ HB.out.box
  have p5 := cell_of_row w1 (w.heap.size + 1) 5 _ _ _ HB.out.box2
  have q6 := cell_of_row w1 w.heap.size 6 _ _ _ HB.out.box
  have p6 := cell_of_row w1 (w.heap.size + 1) 6 _ _ _ HB.out.box2
  go_wp2_with fail
  refine Calls.mono (HC1.out _ (HY.out.below HB.out.bel (Nat.le_refl _))) ?_
  rintro e w2 ⟨rfl, hb⟩
  have HB := Lib.hid (HB.out.to hb)
  clear hb
  clear q0 p0 q1 p1 q2 p2 q3 p3 q4 p4 q5 p5 q6 p6
  have q0 := cell_of_row w2 w.heap.size 0 _ _ _ HB.out.box
  have p0 := cell_of_row w2 (w.heap.size + 1) 0 _ _ _ HB.out.box2
  have q1 := cell_of_row w2 w.heap.size 1 _ _ _ HB.out.box
  have p1 := cell_of_row w2 (w.heap.size + 1) 1 _ _ _ HB.out.box2
  have q2 := cell_of_row w2 w.heap.size 2 _ _ _ HB.out.box
  have p2 := cell_of_row w2 (w.heap.size + 1) 2 _ _ _ HB.out.box2
  have q3 := cell_of_row w2 w.heap.size 3 _ _ _ HB.out.box
  have p3 := cell_of_row w2 (w.heap.size + 1) 3 _ _ _ HB.out.box2
  have q4 := cell_of_row w2 w.heap.size 4 _ _ _ HB.out.box
  have p4 := cell_of_row w2 (w.heap.size + 1) 4 _ _ _ HB.out.box2
  have q5 := cell_of_row w2 w.heap.size 5 _ _ _ HB.out.box
  have p5 := cell_of_row w2 (w.heap.size + 1) 5 _ _ _ HB.out.box2
  have q6 := cell_of_row w2 w.heap.size 6 _ _ _ HB.out.box
  have p6 := cell_of_row w2 (w.heap.size + 1) 6 _ _ _ HB.out.box2
  go_wp2_with fail
  refine Calls.mono (HC2.out _ (HZ.out.below HB.out.bel (Nat.le_refl _)) (HY.out.below HB.out.bel (Nat.le_refl _))) ?_
  rintro e w3 ⟨rfl, hb⟩
  have HB := Lib.hid (HB.out.to hb)
  clear hb
  go_wp2
  go_ret
  exact ⟨fb_rb (by rw [HR.out]; simp), HB.out.bel⟩
end Go.Proofs.YtgiegppakoiaiaaDoor
