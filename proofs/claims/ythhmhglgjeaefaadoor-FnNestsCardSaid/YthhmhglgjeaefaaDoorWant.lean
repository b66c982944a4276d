/- Drawn code that leaves a number: wantInt. -/
import Derived.Test.YthhmhglgjeaefaaDoorPiece
namespace Go.Proofs.YthhmhglgjeaefaaDoor
open Go.ChangeShapes Go.WideShapes Go.ChangeAt Go.RowKit
set_option linter.unusedVariables false
/-- A piece is drawn: it leaves q, needs n places and d levels, and has from 1 to L instructions. -/
def PcP (B p N : Nat) (k : Option Addr) (ks : List Int) (r : Int) (q : List UInt8) (n d L : Nat) (w : World) (e : Ending) (w' : World) : Prop :=
  ∃ (a : Option Addr) (m c : Nat) (zs : List Ins), e = .returned (.slice a m c) ∧ zs.length = m ∧ Pc ks r zs q n d ∧ 1 ≤ m ∧ m ≤ L ∧ LP w' p a (flat insC zs) ∧ DK w' B p N k ks ∧ w.grownBy w' (some p)
theorem PcP.more {B p N N' : Nat} {k : Option Addr} {ks : List Int} {r : Int} {q : List UInt8} {n d L n' d' L' : Nat} {w : World} {e : Ending} {w' : World} (h : PcP B p N k ks r q n d L w e w') (h1 : N ≤ N') (h2 : n ≤ n') (h3 : d ≤ d') (h4 : L ≤ L') : PcP B p N' k ks r q n' d' L' w e w' := by
  obtain ⟨a, m, c, zs, e1, e2, e3, e4, e5, e6, e7, e8⟩ := h
  exact ⟨a, m, c, zs, e1, e2, e3.more h2 h3, e4, by omega, e6, e7.more h1, e8⟩
/-- A piece of one instruction. -/
theorem pcP_one {B p N n : Nat} {k : Option Addr} {ks : List Int} {r : Int} {q : List UInt8} {w0 w : World} {x y : Int} (hp : Pc ks r [(x, y)] q n 0) (hd : DK w B p N k ks) (hg : w0.grownBy w (some p)) :
    PcP B p N k ks r q n 0 1 w0 (.returned (.slice (some ⟨w.heap.size, 0, none⟩) 1 1)) (w.alloc (.cells #[.int .i64 x, .int .i64 y] 38)) :=
  ⟨_, 1, 1, [(x, y)], rfl, rfl, hp, Nat.le_refl _, Nat.le_refl _, one_lp hd.plt x y, hd.al _, grown_al hg _⟩
/-- Rows of slices, as literals. -/
theorem routs_lit (w : World) (vs : List RT) (ls : List (List Ins)) (t : TypeId) (hn : vs.length ≤ 10) (hl : vs.length = ls.length)
    (hv : ∀ j, j < ls.length → (vs.getD j (none, 0, 0)).2.1 = (ls.getD j []).length ∧ Lies w (vs.getD j (none, 0, 0)).1 (flat insC (ls.getD j []))) : Routs (w.alloc (.cells (flat rtC vs).toArray t)) (some ⟨w.heap.size, 0, none⟩) ls := by
  refine ⟨vs, hl, ?_, fun j hj => ⟨(hv j hj).1, (hv j hj).2.below (bel_al w _) (Nat.le_refl _)⟩⟩
  have h := lies_own (World.ownsRow_lit (base := w.heap.size) (e := t) (size := 1) w (flat rtC vs).toArray vs.length (Nat.le_refl _) (by unfold maxLen; omega) (by simp [flat_len rtC_len]))
  simpa using h
theorem routs2 (w : World) {a1 a2 : Option Addr} {m1 m2 c1 c2 : Nat} {z1 z2 : List Ins} (t : TypeId) (h1 : z1.length = m1) (h2 : z2.length = m2) (l1 : Lies w a1 (flat insC z1)) (l2 : Lies w a2 (flat insC z2)) :
    Routs (w.alloc (.cells #[.slice a1 m1 c1, .slice a2 m2 c2] t)) (some ⟨w.heap.size, 0, none⟩) [z1, z2] :=
  routs_lit w [(a1, m1, c1), (a2, m2, c2)] [z1, z2] t (by simp) rfl (fun j hj => match j, hj with
    | 0, _ => ⟨h1.symm, l1⟩
    | 1, _ => ⟨h2.symm, l2⟩)
theorem routs3 (w : World) {a1 a2 a3 : Option Addr} {m1 m2 m3 c1 c2 c3 : Nat} {z1 z2 z3 : List Ins} (t : TypeId) (h1 : z1.length = m1) (h2 : z2.length = m2) (h3 : z3.length = m3) (l1 : Lies w a1 (flat insC z1)) (l2 : Lies w a2 (flat insC z2)) (l3 : Lies w a3 (flat insC z3)) :
    Routs (w.alloc (.cells #[.slice a1 m1 c1, .slice a2 m2 c2, .slice a3 m3 c3] t)) (some ⟨w.heap.size, 0, none⟩) [z1, z2, z3] :=
  routs_lit w [(a1, m1, c1), (a2, m2, c2), (a3, m3, c3)] [z1, z2, z3] t (by simp) rfl (fun j hj => match j, hj with
    | 0, _ => ⟨h1.symm, l1⟩
    | 1, _ => ⟨h2.symm, l2⟩
    | 2, _ => ⟨h3.symm, l3⟩)
theorem routs4 (w : World) {a1 a2 a3 a4 : Option Addr} {m1 m2 m3 m4 c1 c2 c3 c4 : Nat} {z1 z2 z3 z4 : List Ins} (t : TypeId) (h1 : z1.length = m1) (h2 : z2.length = m2) (h3 : z3.length = m3) (h4 : z4.length = m4) (l1 : Lies w a1 (flat insC z1)) (l2 : Lies w a2 (flat insC z2)) (l3 : Lies w a3 (flat insC z3)) (l4 : Lies w a4 (flat insC z4)) :
    Routs (w.alloc (.cells #[.slice a1 m1 c1, .slice a2 m2 c2, .slice a3 m3 c3, .slice a4 m4 c4] t)) (some ⟨w.heap.size, 0, none⟩) [z1, z2, z3, z4] :=
  routs_lit w [(a1, m1, c1), (a2, m2, c2), (a3, m3, c3), (a4, m4, c4)] [z1, z2, z3, z4] t (by simp) rfl (fun j hj => match j, hj with
    | 0, _ => ⟨h1.symm, l1⟩
    | 1, _ => ⟨h2.symm, l2⟩
    | 2, _ => ⟨h3.symm, l3⟩
    | 3, _ => ⟨h4.symm, l4⟩)
theorem wantInt0 (B p N : Nat) (k : Option Addr) (kc : Nat) (ks : List Int) (r : Int) (w : World) (h : DK w B p N k ks) (hN : N ≤ 900000) (hk : ks.length ≤ 8) :
    Calls Tryd.prog 65 #[.pointer (some ⟨p, 0, none⟩), .slice k ks.length kc, .int .i64 0] w (PcP B p (N + 10) k ks r [105] 1 0 1 w) := by
  have HD := Lib.hid h
  clear h
  have HV := Lib.hid (fun (v : Int) (h1 : 0 ≤ v ∧ v < ks.length) => pc_value (r := r) h1 hk)
  generalize ks.length = n at *
  go_enter Tryd.func65, Tryd.ntmps65
  go_wp2_with fail
  refine (next_dk 4 _ HD.out (by omega) (by omega) (by omega)).mono ?_
  rintro e w1 ⟨v, rfl, v0, v1, hD, hg⟩
  have HD1 := Lib.hid hD
  have HG1 := Lib.hid hg
  clear hD hg
  have key : ∀ (w1 : World), DK w1 B p (N + 3) k ks → w.grownBy w1 (some p) → Calls Tryd.prog 37 #[.pointer (some ⟨p, 0, none⟩), .int .i64 4] w1 (NumP B p (N + 6) k ks 0 3 w1) := fun w1 h _ => next_dk 4 _ h (by omega) (by omega) (by omega)
  have KEY := Lib.hid key
  clear key
  by_cases e0 : v = 0
  · subst e0
    go_wp2_with fail
    refine (value_dk _ HD1.out (by omega)).mono ?_
    rintro e w2 ⟨u, rfl, u0, u1, hD, hg⟩
    have HD2 := Lib.hid hD
    have HG2 := Lib.hid (grown_tr HG1.out hg)
    clear hD hg
    go_wp2_with fail
    refine (opA_any 1 u _).mono ?_
    rintro e w3 ⟨rfl, rfl⟩
    go_wp2
    go_ret
    exact (pcP_one (pc_push ⟨u0, u1⟩) HD2.out HG2.out).more (by omega) (by omega) (by omega) (by omega)
  have hb0 : (v == 0) = false := beq_eq_false_iff_ne.2 e0
  by_cases e1 : v = 1
  · subst e1
    by_cases hn : 0 < n
    · go_wp2_with fail
      refine (next_dk n _ HD1.out (by omega) (by omega) (by omega)).mono ?_
      rintro e w2 ⟨u, rfl, u0, u1, hD, hg⟩
      have HD2 := Lib.hid hD
      have HG2 := Lib.hid (grown_tr HG1.out hg)
      clear hD hg
      go_wp2_with fail
      refine (opA_any 20 u _).mono ?_
      rintro e w3 ⟨rfl, rfl⟩
      go_wp2
      go_ret
      exact (pcP_one (HV.out u ⟨u0, by omega⟩) HD2.out HG2.out).more (by omega) (by omega) (by omega) (by omega)
    · obtain rfl : n = 0 := by omega
      go_wp2_with fail
      refine (KEY.out _ HD1.out HG1.out).mono ?_
      rintro e w2 ⟨u, rfl, u0, u1, hD, hg⟩
      have HD2 := Lib.hid hD
      have HG2 := Lib.hid (grown_tr HG1.out hg)
      clear hD hg
      go_wp2_with fail
      refine (opA_any 3 u _).mono ?_
      rintro e w3 ⟨rfl, rfl⟩
      go_wp2
      go_ret
      exact (pcP_one (pc_load ⟨u0, by omega⟩) HD2.out HG2.out).more (by omega) (by omega) (by omega) (by omega)
  have hb1 : (v == 1) = false := beq_eq_false_iff_ne.2 e1
  go_wp2_with fail
  refine (KEY.out _ HD1.out HG1.out).mono ?_
  rintro e w2 ⟨u, rfl, u0, u1, hD, hg⟩
  have HD2 := Lib.hid hD
  have HG2 := Lib.hid (grown_tr HG1.out hg)
  clear hD hg
  go_wp2_with fail
  refine (opA_any 3 u _).mono ?_
  rintro e w3 ⟨rfl, rfl⟩
  go_wp2
  go_ret
  exact (pcP_one (pc_load ⟨u0, by omega⟩) HD2.out HG2.out).more (by omega) (by omega) (by omega) (by omega)
end Go.Proofs.YthhmhglgjeaefaaDoor
