/- DemoProgram of impl and of spec; the law DemoProgram. -/
import Derived.Test.YtpdnkcfphjbbfaaPgmM
namespace Go.Proofs.Ytpdnkcfphjbbfaa
open Go.ChangeShapes Go.WideShapes Go.ChangeAt Go.RowKit
set_option linter.unusedVariables false
def demoP : Pgm := ⟨[1, 2], [[(3, 0), (1, 1), (9, 0), (4, 0)], [(26, 0), (5, 1), (8, 1)], [(5, 2), (1, 30), (19, 0), (6, 2), (25, 0), (24, 3), (3, 1), (1, 2), (9, 0), (4, 1), (25, 0), (23, 0)]], [⟨2, 40, 30, 0, 1, 1⟩, ⟨1, 100, 90, 0, 1, 2⟩], [true, false, false, false, false, false, false, false]⟩
theorem demo_le : demoP.le 1048576 := ⟨by decide, by decide, by decide, by decide, by decide⟩
theorem demo_sum : sumP demoP.rs demoP.rs.length ≤ 1048576 := by decide
def DemoPost (w : World) (e : Ending) (w' : World) : Prop := ∃ h : PH, e = .returned (pV h demoP) ∧ POwn w.heap.size w'.heap.size h demoP w' ∧ Below w.heap.size w w'
theorem lit_own {X : World} {B g : Nat} (cs : Array Value) (e : TypeId) (n size : Nat) (hg : X.heap.size = g) (hB : B ≤ g) (hm : n ≤ maxLen) (hs : cs.size = n * size) :
    (X.alloc (.cells cs e)).ownsRow B e size (.slice (some ⟨g, 0, none⟩) n n) n cs.toList := by
  subst hg
  exact World.ownsRow_lit X cs n hB hm hs
theorem oa {X : World} {B size n : Nat} {e : TypeId} {v : Value} {xs : List Value} (h : X.ownsRow B e size v n xs) (O : Obj) : (X.alloc O).ownsRow B e size v n xs := own_bl h (dbox X O)
theorem sa {X : World} {g : Nat} (h : X.heap.size = g) (O : Obj) : (X.alloc O).heap.size = g + 1 := by rw [← h]; simp
abbrev oK : Obj := .cells #[.int .i64 1, .int .i64 2] 3
abbrev oC1 : Obj := .cells #[.int .i64 3, .int .i64 0, .int .i64 1, .int .i64 1, .int .i64 9, .int .i64 0, .int .i64 4, .int .i64 0] 41
abbrev oC2 : Obj := .cells #[.int .i64 26, .int .i64 0, .int .i64 5, .int .i64 1, .int .i64 8, .int .i64 1] 41
abbrev oC3 : Obj := .cells #[.int .i64 5, .int .i64 2, .int .i64 1, .int .i64 30, .int .i64 19, .int .i64 0, .int .i64 6, .int .i64 2, .int .i64 25, .int .i64 0, .int .i64 24, .int .i64 3, .int .i64 3, .int .i64 1, .int .i64 1, .int .i64 2, .int .i64 9, .int .i64 0, .int .i64 4, .int .i64 1, .int .i64 25, .int .i64 0, .int .i64 23, .int .i64 0] 41
abbrev oR (b : Nat) : Obj := .cells #[.slice (some ⟨b + 1, 0, none⟩) 4 4, .slice (some ⟨b + 1 + 1, 0, none⟩) 3 3, .slice (some ⟨b + 1 + 1 + 1, 0, none⟩) 12 12] 44
abbrev oT : Obj := .cells #[.int .i64 2, .int .i64 40, .int .i64 30, .int .i64 0, .int .i64 1, .int .i64 1, .int .i64 1, .int .i64 100, .int .i64 90, .int .i64 0, .int .i64 1, .int .i64 2] 25
abbrev oS : Obj := .cells #[.bool true, .bool false, .bool false, .bool false, .bool false, .bool false, .bool false, .bool false] 4
abbrev six (X : World) (b : Nat) : World := (((((X.alloc oK).alloc oC1).alloc oC2).alloc oC3).alloc (oR b)).alloc oT
def demoH (b s : Nat) : PH := ⟨some ⟨b, 0, none⟩, some ⟨b + 4, 0, none⟩, some ⟨b + 5, 0, none⟩, some ⟨s, 0, none⟩, 2, 3, 2, 8⟩
theorem lt_of {hi g : Nat} (h : g < hi) : Lt hi (some ⟨g, 0, none⟩) := fun x e => by cases e; exact h
theorem six_rows {X : World} {B b hi : Nat} (hb : X.heap.size = b) (hB : B ≤ b) (hh : b + 6 ≤ hi) :
    (six X b).ownsRow B 3 1 (.slice (some ⟨b, 0, none⟩) 2 2) 2 (kC demoP.ks) ∧ RG B hi (some ⟨b + 4, 0, none⟩) 3 demoP.rs (six X b) ∧ (six X b).ownsRow B 25 6 (.slice (some ⟨b + 5, 0, none⟩) 2 2) 2 (flat tC demoP.ts) ∧ (six X b).heap.size = b + 6 ∧ Below X.heap.size X (six X b) := by
  have s1 := sa hb oK
  have s2 := sa s1 oC1
  have s3 := sa s2 oC2
  have s4 := sa s3 oC3
  have s5 := sa s4 (oR b)
  have s6 := sa s5 oT
  have k1 := lit_own (B := B) #[.int .i64 1, .int .i64 2] 3 2 1 hb hB (by decide) rfl
  have c1 := lit_own (B := B) #[.int .i64 3, .int .i64 0, .int .i64 1, .int .i64 1, .int .i64 9, .int .i64 0, .int .i64 4, .int .i64 0] 41 4 2 s1 (by omega) (by decide) rfl
  have c2 := lit_own (B := B) #[.int .i64 26, .int .i64 0, .int .i64 5, .int .i64 1, .int .i64 8, .int .i64 1] 41 3 2 s2 (by omega) (by decide) rfl
  have c3 := lit_own (B := B) #[.int .i64 5, .int .i64 2, .int .i64 1, .int .i64 30, .int .i64 19, .int .i64 0, .int .i64 6, .int .i64 2, .int .i64 25, .int .i64 0, .int .i64 24, .int .i64 3, .int .i64 3, .int .i64 1, .int .i64 1, .int .i64 2, .int .i64 9, .int .i64 0, .int .i64 4, .int .i64 1, .int .i64 25, .int .i64 0, .int .i64 23, .int .i64 0] 41 12 2 s3 (by omega) (by decide) rfl
  have r1 := lit_own (B := B) #[.slice (some ⟨b + 1, 0, none⟩) 4 4, .slice (some ⟨b + 1 + 1, 0, none⟩) 3 3, .slice (some ⟨b + 1 + 1 + 1, 0, none⟩) 12 12] 44 3 1 s4 (by omega) (by decide) rfl
  have t1 := lit_own (B := B) #[.int .i64 2, .int .i64 40, .int .i64 30, .int .i64 0, .int .i64 1, .int .i64 1, .int .i64 1, .int .i64 100, .int .i64 90, .int .i64 0, .int .i64 1, .int .i64 2] 25 2 6 s5 (by omega) (by decide) rfl
  refine ⟨oa (oa (oa (oa (oa k1 _) _) _) _) _, ⟨[(some ⟨b + 1, 0, none⟩, 4, 4), (some ⟨b + 1 + 1, 0, none⟩, 3, 3), (some ⟨b + 1 + 1 + 1, 0, none⟩, 12, 12)], rfl, oa r1 _, lt_of (by omega), ?_, ?_⟩, t1, s6, ?_⟩
  · intro j hj
    have hj3 : j < 3 := hj
    obtain rfl | rfl | rfl : j = 0 ∨ j = 1 ∨ j = 2 := by omega
    · exact ⟨rfl, oa (oa (oa (oa c1 _) _) _) _, lt_of (by omega)⟩
    · exact ⟨rfl, oa (oa (oa c2 _) _) _, lt_of (by omega)⟩
    · exact ⟨rfl, oa (oa c3 _) _, lt_of (by omega)⟩
  · intro i j hij hj
    have hj3 : j < 3 := hj
    obtain ⟨rfl, rfl⟩ | ⟨rfl, rfl⟩ | ⟨rfl, rfl⟩ : (i = 0 ∧ j = 1) ∨ (i = 0 ∧ j = 2) ∨ (i = 1 ∧ j = 2) := by omega
    all_goals
      intro x y hx hy
      simp only [List.getD, List.getElem?_cons_zero, List.getElem?_cons_succ, Option.getD_some, Option.some.injEq] at hx hy
      subst hx hy
      simp only
      omega
  · exact ((((((Below.refl X.heap.size X).alloc (Nat.le_refl _) _).alloc (by omega) _).alloc (by omega) _).alloc (by omega) _).alloc (by omega) _).alloc (by omega) _
set_option maxHeartbeats 4000000 in
theorem specDemo_any (w : World) : Calls Try.prog 8 #[] w (DemoPost w) := by
  have HP : Hid (∀ O, DemoPost w (.returned (.agg #[.slice (some ⟨w.heap.size + 1, 0, none⟩) 2 2, .slice (some ⟨w.heap.size + 1 + 1 + 1 + 1 + 1, 0, none⟩) 3 3, .slice (some ⟨w.heap.size + 1 + 1 + 1 + 1 + 1 + 1, 0, none⟩) 2 2, .slice (some ⟨w.heap.size + 1 + 1 + 1 + 1 + 1 + 1 + 1, 0, none⟩) 8 8])) ((six (w.alloc O) (w.heap.size + 1)).alloc oS)) := Lib.hid (fun O => by
    have h0 : (w.alloc O).heap.size = w.heap.size + 1 := by simp
    obtain ⟨h1, h2, h3, h4, h5⟩ := six_rows (X := w.alloc O) (B := w.heap.size) (b := w.heap.size + 1) (hi := w.heap.size + 8) h0 (by omega) (by omega)
    have s1 := lit_own (B := w.heap.size) #[.bool true, .bool false, .bool false, .bool false, .bool false, .bool false, .bool false, .bool false] 4 8 1 h4 (by omega) (by decide) rfl
    have hz := sa h4 oS
    refine ⟨demoH (w.heap.size + 1) (w.heap.size + 7), rfl, ?_, (dbox w O).trans (((h5.mono (by omega))).trans ((dbox _ oS).mono (by omega)))⟩
    rw [hz]
    exact ⟨oa h1 _, h2.bel (dbox _ oS), oa h3 _, s1, lt_of (by omega), lt_of (by omega), lt_of (by omega)⟩)
  generalize DemoPost w = POST at *
  go_enter Try.func8, Try.ntmps8
  go_wp2
  refine bodyPost_ret (v := .agg #[.slice (some ⟨w.heap.size + 1, 0, none⟩) 2 2, .slice (some ⟨w.heap.size + 1 + 1 + 1 + 1 + 1, 0, none⟩) 3 3, .slice (some ⟨w.heap.size + 1 + 1 + 1 + 1 + 1 + 1, 0, none⟩) 2 2, .slice (some ⟨w.heap.size + 1 + 1 + 1 + 1 + 1 + 1 + 1, 0, none⟩) 8 8]) (by simp [results, Try.results8, go_sem]) rfl ?_
  exact HP.out _
theorem RG.far {B hi c p i : Nat} {a : Option Addr} {ls : List (List (Int × Int))} {w : World} (h : RG B hi a c ls w) (hp : p < B) (u : Value) : RG B hi a c ls (w.setCell ⟨p, i, none⟩ u) := by
  obtain ⟨rs, h1, h2, h3, h4, h5⟩ := h.rows
  exact ⟨rs, h1, own_far h2 hp u, h3, fun j hj => ⟨(h4 j hj).len, own_far (h4 j hj).own hp u, (h4 j hj).lt⟩, h5⟩
theorem RG.base {B B' hi c : Nat} {a : Option Addr} {ls : List (List (Int × Int))} {w : World} (h : RG B hi a c ls w) (hB : B' ≤ B) : RG B' hi a c ls w := by
  obtain ⟨rs, h1, h2, h3, h4, h5⟩ := h.rows
  exact ⟨rs, h1, own_base h2 hB, h3, fun j hj => ⟨(h4 j hj).len, own_base (h4 j hj).own hB, (h4 j hj).lt⟩, h5⟩
theorem POwn.far {B hi p i : Nat} {h : PH} {D : Pgm} {w : World} (o : POwn B hi h D w) (hp : p < B) (u : Value) : POwn B hi h D (w.setCell ⟨p, i, none⟩ u) :=
  ⟨own_far o.ks hp u, o.rs.far hp u, own_far o.ts hp u, own_far o.sa hp u, o.l0, o.l2, o.l3⟩
theorem POwn.base {B B' hi : Nat} {h : PH} {D : Pgm} {w : World} (o : POwn B hi h D w) (hB : B' ≤ B) : POwn B' hi h D w :=
  ⟨own_base o.ks hB, o.rs.base hB, own_base o.ts hB, own_base o.sa hB, o.l0, o.l2, o.l3⟩
abbrev four (X : World) (p : Nat) (u0 u1 u2 u3 : Value) : World := (((X.setCell ⟨p, 0, none⟩ u0).setCell ⟨p, 1, none⟩ u1).setCell ⟨p, 2, none⟩ u2).setCell ⟨p, 3, none⟩ u3
theorem four_size (X : World) (p : Nat) (u0 u1 u2 u3 : Value) : (four X p u0 u1 u2 u3).heap.size = X.heap.size := by simp [four, World.setCell]
abbrev oF : Obj := .cells #[.bool false, .bool false, .bool false, .bool false, .bool false, .bool false, .bool false, .bool false] 4
theorem wpList_make_run {P : Program} (w : World) {ops : Array Oper} {rest : List Oper} {o : Oper} {a : Act} {Q : Exit → Act → World → Prop}
    (hg : o.guard = none) (l c : Operand) (t : TypeId) (hop : o.op = Op.makeSlice t l c) (x y v : Value) (w' : World) (hx : a.eval l = x) (hy : a.eval c = y) (hrun : (Instr.makeSlice t x y).run P w = .ok v w')
    (hK : wpList P ops Q rest (a.put o.dst v) w') : wpList P ops Q (o :: rest) a w := by
  refine wpList_plain hg fun K hK' => ?_
  unfold Oper.wp
  simp [execOp, hop, hx, hy, hrun, Result.andThen]
  exact hK' _ _ hK
theorem run_eight (w : World) : (Instr.makeSlice 31 (.int .i64 8) (.int .i64 8)).run Try.prog w = .ok (.slice (some ⟨w.heap.size, 0, none⟩) 8 8) (w.alloc oF) := by
  obtain ⟨i0, hi, hz0, hz1, hz2⟩ := info_parts (show (Try.prog.info? 4).map (fun i => (i.zero, i.size, i.bytes)) = some (some (.bool false), 1, 1) by kernel_rfl)
  have h := run_make (P := Try.prog) (w := w) 31 4 i0 _ Try.underlying31 hi hz0 .i64 .i64 8 8 (by decide) (by decide) (by rw [hz2]; decide) (by decide)
  have e : madeCells (Value.bool false).cells (Int.toNat 8 * 1) = #[.bool false, .bool false, .bool false, .bool false, .bool false, .bool false, .bool false, .bool false] := by kernel_rfl
  rw [hz1, e] at h
  exact h
theorem impl_own (w : World) (O : Obj) : DemoPost w (.returned (.agg #[.slice (some ⟨w.heap.size + 1 + 1, 0, none⟩) 2 2, .slice (some ⟨w.heap.size + 1 + 1 + 1 + 1 + 1 + 1, 0, none⟩) 3 3, .slice (some ⟨w.heap.size + 1 + 1 + 1 + 1 + 1 + 1 + 1, 0, none⟩) 2 2, .slice (some ⟨w.heap.size + 1, 0, none⟩) 8 8])) (six ((w.alloc O).alloc oS) (w.heap.size + 1 + 1)) := by
  have h0 := sa (rfl : w.heap.size = w.heap.size) O
  have h1 := sa h0 oS
  have s1 := lit_own (B := w.heap.size) #[.bool true, .bool false, .bool false, .bool false, .bool false, .bool false, .bool false, .bool false] 4 8 1 h0 (by omega) (by decide) rfl
  obtain ⟨g1, g2, g3, g4, g5⟩ := six_rows (X := (w.alloc O).alloc oS) (B := w.heap.size) (b := w.heap.size + 1 + 1) (hi := w.heap.size + 1 + 1 + 6) h1 (by omega) (by omega)
  refine ⟨demoH (w.heap.size + 1 + 1) (w.heap.size + 1), rfl, ?_, ((dbox w O).trans ((dbox _ oS).mono (by omega))).trans (g5.mono (by omega))⟩
  rw [g4]
  exact ⟨g1, g2, g3, own_bl s1 g5, lt_of (by omega), lt_of (by omega), lt_of (by omega)⟩
set_option maxHeartbeats 4000000 in
theorem implDemo_any (w : World) : Calls Try.prog 9 #[] w (DemoPost w) := by
  have HP := Lib.hid (fun O => impl_own w O)
  generalize DemoPost w = POST at *
  go_enter Try.func9, Try.ntmps9
  go_wp2_with (at_make; go_must (refine wpList_make_run _ rfl _ _ 31 rfl (.int .i64 8) (.int .i64 8) _ _ rfl rfl (run_eight _) ?_))
  refine bodyPost_ret (v := .agg #[.slice (some ⟨w.heap.size + 1 + 1, 0, none⟩) 2 2, .slice (some ⟨w.heap.size + 1 + 1 + 1 + 1 + 1 + 1, 0, none⟩) 3 3, .slice (some ⟨w.heap.size + 1 + 1 + 1 + 1 + 1 + 1 + 1, 0, none⟩) 2 2, .slice (some ⟨w.heap.size + 1, 0, none⟩) 8 8]) (by simp [results, Try.results9, go_sem]) rfl ?_
  exact HP.out _
end Go.Proofs.Ytpdnkcfphjbbfaa
