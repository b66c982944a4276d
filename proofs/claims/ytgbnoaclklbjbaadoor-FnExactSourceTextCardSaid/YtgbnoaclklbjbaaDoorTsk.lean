/- Tasks: lists of six numbers each; the laws' copies, comparisons, sizes, marks. (Written by tools/gen_tsk.py.) -/
import Derived.Test.YtgbnoaclklbjbaaDoorGen
import Derived.Test.YtgbnoaclklbjbaaDoorHeld
namespace Go.Proofs.YtgbnoaclklbjbaaDoor
open Go.ChangeShapes Go.WideShapes Go.ChangeAt Go.RowKit
set_option linter.unusedVariables false
structure TT where
  k : Int
  p : Int
  d : Int
  i : Int
  q : Int
  r : Int
def tC (z : TT) : List Value := [.int .i64 z.k, .int .i64 z.p, .int .i64 z.d, .int .i64 z.i, .int .i64 z.q, .int .i64 z.r]
theorem tC_len (z : TT) : (tC z).length = 6 := rfl
abbrev tV (z : TT) : Value := .agg #[.int .i64 z.k, .int .i64 z.p, .int .i64 z.d, .int .i64 z.i, .int .i64 z.q, .int .i64 z.r]
abbrev tO (z : TT) (t : TypeId) : Obj := .cells #[.int .i64 z.k, .int .i64 z.p, .int .i64 z.d, .int .i64 z.i, .int .i64 z.q, .int .i64 z.r] t
def t0 : TT := ⟨0, 0, 0, 0, 0, 0⟩
abbrev C6 (b o : Nat) (u : TT) (X : World) : Prop := X.cell? ⟨b, o, none⟩ = some (.int .i64 u.k) ∧ X.cell? ⟨b, o + 1, none⟩ = some (.int .i64 u.p) ∧ X.cell? ⟨b, o + 2, none⟩ = some (.int .i64 u.d) ∧ X.cell? ⟨b, o + 3, none⟩ = some (.int .i64 u.i) ∧ X.cell? ⟨b, o + 4, none⟩ = some (.int .i64 u.q) ∧ X.cell? ⟨b, o + 5, none⟩ = some (.int .i64 u.r)
theorem C6.bel {b o B : Nat} {u : TT} {X Y : World} (h : C6 b o u X) (hb : Below B X Y) (hl : b < B) : C6 b o u Y :=
  ⟨(hb.cell (p := ⟨b, o, none⟩) hl).trans h.1, (hb.cell (p := ⟨b, o + 1, none⟩) hl).trans h.2.1, (hb.cell (p := ⟨b, o + 2, none⟩) hl).trans h.2.2.1, (hb.cell (p := ⟨b, o + 3, none⟩) hl).trans h.2.2.2.1, (hb.cell (p := ⟨b, o + 4, none⟩) hl).trans h.2.2.2.2.1, (hb.cell (p := ⟨b, o + 5, none⟩) hl).trans h.2.2.2.2.2⟩
theorem tt_at {w : World} {b o : Nat} {ts : List TT} (h : ∀ (j : Nat) v, (flat tC ts)[j]? = some v → w.cell? ⟨b, o + j, none⟩ = some v) {i : Nat} (hi : i < ts.length) : C6 b (o + i * 6) (ts.getD i t0) w := by
  have hx : ts[i]? = some (ts.getD i t0) := by simp [List.getD, hi]
  exact ⟨h (i * 6) _ (flat_at tC_len hx (j := 0) (by omega)), h (i * 6 + 1) _ (flat_at tC_len hx (j := 1) (by omega)), h (i * 6 + 2) _ (flat_at tC_len hx (j := 2) (by omega)), h (i * 6 + 3) _ (flat_at tC_len hx (j := 3) (by omega)), h (i * 6 + 4) _ (flat_at tC_len hx (j := 4) (by omega)), h (i * 6 + 5) _ (flat_at tC_len hx (j := 5) (by omega))⟩
theorem six_of {α : Type} {l : List α} (h : l.length = 6) : ∃ x0 x1 x2 x3 x4 x5, l = [x0, x1, x2, x3, x4, x5] := by
  match l, h with
  | [x0, x1, x2, x3, x4, x5], _ => exact ⟨x0, x1, x2, x3, x4, x5, rfl⟩
theorem cTsk : Tryd.prog.cellsOf 26 = 6 := by kernel_rfl
theorem cTInt : Tryd.prog.cellsOf 3 = 1 := by kernel_rfl
theorem came_tt {W : World} {cs : List Value} (h : Came Tryd.prog W 26 cs) : ∃ z : TT, cs = tC z := by
  obtain ⟨hl, hf⟩ := came_struct Tryd.underlying26 h
  obtain ⟨x0, x1, x2, x3, x4, x5, rfl⟩ := six_of (hl.trans cTsk)
  have h0 := hf 0 _ rfl
  have w0 : (([x0, x1, x2, x3, x4, x5] : List Value).drop 0).take (Tryd.prog.cellsOf 3) = [x0] := (congrArg (fun k => (([x0, x1, x2, x3, x4, x5] : List Value).drop 0).take k) cTInt).trans rfl
  have h0' : Came Tryd.prog W 3 [x0] := w0 ▸ h0
  obtain ⟨k0, e0, _⟩ := came_int Tryd.underlying3 h0'
  have h1 := hf 1 _ rfl
  have w1 : (([x0, x1, x2, x3, x4, x5] : List Value).drop 1).take (Tryd.prog.cellsOf 3) = [x1] := (congrArg (fun k => (([x0, x1, x2, x3, x4, x5] : List Value).drop 1).take k) cTInt).trans rfl
  have h1' : Came Tryd.prog W 3 [x1] := w1 ▸ h1
  obtain ⟨k1, e1, _⟩ := came_int Tryd.underlying3 h1'
  have h2 := hf 2 _ rfl
  have w2 : (([x0, x1, x2, x3, x4, x5] : List Value).drop 2).take (Tryd.prog.cellsOf 3) = [x2] := (congrArg (fun k => (([x0, x1, x2, x3, x4, x5] : List Value).drop 2).take k) cTInt).trans rfl
  have h2' : Came Tryd.prog W 3 [x2] := w2 ▸ h2
  obtain ⟨k2, e2, _⟩ := came_int Tryd.underlying3 h2'
  have h3 := hf 3 _ rfl
  have w3 : (([x0, x1, x2, x3, x4, x5] : List Value).drop 3).take (Tryd.prog.cellsOf 3) = [x3] := (congrArg (fun k => (([x0, x1, x2, x3, x4, x5] : List Value).drop 3).take k) cTInt).trans rfl
  have h3' : Came Tryd.prog W 3 [x3] := w3 ▸ h3
  obtain ⟨k3, e3, _⟩ := came_int Tryd.underlying3 h3'
  have h4 := hf 4 _ rfl
  have w4 : (([x0, x1, x2, x3, x4, x5] : List Value).drop 4).take (Tryd.prog.cellsOf 3) = [x4] := (congrArg (fun k => (([x0, x1, x2, x3, x4, x5] : List Value).drop 4).take k) cTInt).trans rfl
  have h4' : Came Tryd.prog W 3 [x4] := w4 ▸ h4
  obtain ⟨k4, e4, _⟩ := came_int Tryd.underlying3 h4'
  have h5 := hf 5 _ rfl
  have w5 : (([x0, x1, x2, x3, x4, x5] : List Value).drop 5).take (Tryd.prog.cellsOf 3) = [x5] := (congrArg (fun k => (([x0, x1, x2, x3, x4, x5] : List Value).drop 5).take k) cTInt).trans rfl
  have h5' : Came Tryd.prog W 3 [x5] := w5 ▸ h5
  obtain ⟨k5, e5, _⟩ := came_int Tryd.underlying3 h5'
  simp only [List.cons.injEq, and_true] at e0 e1 e2 e3 e4 e5
  subst e0 e1 e2 e3 e4 e5
  exact ⟨⟨k0, k1, k2, k3, k4, k5⟩, rfl⟩
theorem toTask_cp (z : TT) (w : World) : Calls Tryd.prog 8 #[tV z] w fun e w' => e = .returned (tV z) ∧ Below w.heap.size w w' := by
  obtain ⟨k, p, d, i, q, r⟩ := z
  go_enter Tryd.func8, Tryd.ntmps8
  go_wp2
  refine bodyPost_ret (v := .agg #[.int .i64 k, .int .i64 p, .int .i64 d, .int .i64 i, .int .i64 q, .int .i64 r]) (by simp [results, Tryd.results8, go_sem]) rfl ⟨rfl, ?_⟩
  exact (((Below.refl w.heap.size w).alloc (Nat.le_refl _) _).alloc (by simp) _).alloc (by simp; omega) _
def mkT (m : Int) (k : Nat) : TT := ⟨m + 6 * k, m + 6 * k + 1, m + 6 * k + 1 + 1, m + 6 * k + 1 + 1 + 1, m + 6 * k + 1 + 1 + 1 + 1, m + 6 * k + 1 + 1 + 1 + 1 + 1⟩
def marksT (m : Int) : Nat → List TT
  | 0 => []
  | k + 1 => marksT m k ++ [mkT m k]
theorem marksT_len (m : Int) (k : Nat) : (marksT m k).length = k := by
  induction k with
  | zero => rfl
  | succ k ih => simp [marksT, ih]
theorem marksT_at (m : Int) : ∀ (n k : Nat), k < n → (marksT m n)[k]? = some (mkT m k)
  | 0, k, h => by omega
  | n + 1, k, h => by
    by_cases e : k < n
    · rw [marksT, List.getElem?_append_left (by rw [marksT_len]; exact e)]
      exact marksT_at m n k e
    · obtain rfl : k = n := by omega
      rw [marksT, List.getElem?_append_right (by rw [marksT_len]; omega), marksT_len]
      simp
def MarkTPost (B n : Nat) (v : Value) (m : Int) (w : World) (e : Ending) (w' : World) : Prop :=
  e = .returned (.int .i64 (m + 6 * n)) ∧ w'.ownsRow B 32 6 v n (flat tC (marksT m n)) ∧ w.grownBy w' v.ownBlock
end Go.Proofs.YtgbnoaclklbjbaaDoor
