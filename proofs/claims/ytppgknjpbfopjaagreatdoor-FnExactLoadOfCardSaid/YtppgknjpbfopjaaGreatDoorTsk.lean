/- Tasks: lists of six numbers each; the laws' copies, comparisons, sizes, marks. (Written by tools/gen_tsk.py.) -/
import Derived.Test.YtppgknjpbfopjaaGreatDoorGen
import Derived.Test.YtppgknjpbfopjaaGreatDoorHeld
namespace Go.Proofs.YtppgknjpbfopjaaGreatDoor
open Go.ChangeShapes Go.WideShapes Go.ChangeAt Go.RowKit
set_option linter.unusedVariables false
structure TT where
  k : Int
  p : Int
  d : Int
  i : Int
  q : Int
  r : Int
def tC (z : TT) : List Value := [.int .i64 z.k, .int .i64 z.p, .int .i64 z.d, .int .i64 z.i, .int .i64 z.q, .int .i64 z.r]
theorem tC_len (z : TT) : (tC z).length = 6 := rfl
abbrev tV (z : TT) : Value := .agg #[.int .i64 z.k, .int .i64 z.p, .int .i64 z.d, .int .i64 z.i, .int .i64 z.q, .int .i64 z.r]
abbrev tO (z : TT) (t : TypeId) : Obj := .cells #[.int .i64 z.k, .int .i64 z.p, .int .i64 z.d, .int .i64 z.i, .int .i64 z.q, .int .i64 z.r] t
def t0 : TT := ⟨0, 0, 0, 0, 0, 0⟩
abbrev C6 (b o : Nat) (u : TT) (X : World) : Prop := X.cell? ⟨b, o, none⟩ = some (.int .i64 u.k) ∧ X.cell? ⟨b, o + 1, none⟩ = some (.int .i64 u.p) ∧ X.cell? ⟨b, o + 2, none⟩ = some (.int .i64 u.d) ∧ X.cell? ⟨b, o + 3, none⟩ = some (.int .i64 u.i) ∧ X.cell? ⟨b, o + 4, none⟩ = some (.int .i64 u.q) ∧ X.cell? ⟨b, o + 5, none⟩ = some (.int .i64 u.r)
theorem C6.bel {b o B : Nat} {u : TT} {X Y : World} (h : C6 b o u X) (hb : Below B X Y) (hl : b < B) : C6 b o u Y :=
  ⟨(hb.cell (p := ⟨b, o, none⟩) hl).trans h.1, (hb.cell (p := ⟨b, o + 1, none⟩) hl).trans h.2.1, (hb.cell (p := ⟨b, o + 2, none⟩) hl).trans h.2.2.1, (hb.cell (p := ⟨b, o + 3, none⟩) hl).trans h.2.2.2.1, (hb.cell (p := ⟨b, o + 4, none⟩) hl).trans h.2.2.2.2.1, (hb.cell (p := ⟨b, o + 5, none⟩) hl).trans h.2.2.2.2.2⟩
theorem tt_at {w : World} {b o : Nat} {ts : List TT} (h : ∀ (j : Nat) v, (flat tC ts)[j]? = some v → w.cell? ⟨b, o + j, none⟩ = some v) {i : Nat} (hi : i < ts.length) : C6 b (o + i * 6) (ts.getD i t0) w := by
  have hx : ts[i]? = some (ts.getD i t0) := by simp [List.getD, hi]
  exact ⟨h (i * 6) _ (flat_at tC_len hx (j := 0) (by omega)), h (i * 6 + 1) _ (flat_at tC_len hx (j := 1) (by omega)), h (i * 6 + 2) _ (flat_at tC_len hx (j := 2) (by omega)), h (i * 6 + 3) _ (flat_at tC_len hx (j := 3) (by omega)), h (i * 6 + 4) _ (flat_at tC_len hx (j := 4) (by omega)), h (i * 6 + 5) _ (flat_at tC_len hx (j := 5) (by omega))⟩
theorem six_of {α : Type} {l : List α} (h : l.length = 6) : ∃ x0 x1 x2 x3 x4 x5, l = [x0, x1, x2, x3, x4, x5] := by
  match l, h with
  | [x0, x1, x2, x3, x4, x5], _ => exact ⟨x0, x1, x2, x3, x4, x5, rfl⟩
theorem cTsk : Tryz.prog.cellsOf 119 = 6 := by kernel_rfl
theorem cTInt : Tryz.prog.cellsOf 3 = 1 := by kernel_rfl
theorem came_tt {W : World} {cs : List Value} (h : Came Tryz.prog W 119 cs) : ∃ z : TT, cs = tC z := by
  obtain ⟨hl, hf⟩ := came_struct Tryz.underlying119 h
  obtain ⟨x0, x1, x2, x3, x4, x5, rfl⟩ := six_of (hl.trans cTsk)
  have h0 := hf 0 _ rfl
  have w0 : (([x0, x1, x2, x3, x4, x5] : List Value).drop 0).take (Tryz.prog.cellsOf 3) = [x0] := (congrArg (fun k => (([x0, x1, x2, x3, x4, x5] : List Value).drop 0).take k) cTInt).trans rfl
  have h0' : Came Tryz.prog W 3 [x0] := w0 ▸ h0
  obtain ⟨k0, e0, _⟩ := came_int Tryz.underlying3 h0'
  have h1 := hf 1 _ rfl
  have w1 : (([x0, x1, x2, x3, x4, x5] : List Value).drop 1).take (Tryz.prog.cellsOf 3) = [x1] := (congrArg (fun k => (([x0, x1, x2, x3, x4, x5] : List Value).drop 1).take k) cTInt).trans rfl
  have h1' : Came Tryz.prog W 3 [x1] := w1 ▸ h1
  obtain ⟨k1, e1, _⟩ := came_int Tryz.underlying3 h1'
  have h2 := hf 2 _ rfl
  have w2 : (([x0, x1, x2, x3, x4, x5] : List Value).drop 2).take (Tryz.prog.cellsOf 3) = [x2] := (congrArg (fun k => (([x0, x1, x2, x3, x4, x5] : List Value).drop 2).take k) cTInt).trans rfl
  have h2' : Came Tryz.prog W 3 [x2] := w2 ▸ h2
  obtain ⟨k2, e2, _⟩ := came_int Tryz.underlying3 h2'
  have h3 := hf 3 _ rfl
  have w3 : (([x0, x1, x2, x3, x4, x5] : List Value).drop 3).take (Tryz.prog.cellsOf 3) = [x3] := (congrArg (fun k => (([x0, x1, x2, x3, x4, x5] : List Value).drop 3).take k) cTInt).trans rfl
  have h3' : Came Tryz.prog W 3 [x3] := w3 ▸ h3
  obtain ⟨k3, e3, _⟩ := came_int Tryz.underlying3 h3'
  have h4 := hf 4 _ rfl
  have w4 : (([x0, x1, x2, x3, x4, x5] : List Value).drop 4).take (Tryz.prog.cellsOf 3) = [x4] := (congrArg (fun k => (([x0, x1, x2, x3, x4, x5] : List Value).drop 4).take k) cTInt).trans rfl
  have h4' : Came Tryz.prog W 3 [x4] := w4 ▸ h4
  obtain ⟨k4, e4, _⟩ := came_int Tryz.underlying3 h4'
  have h5 := hf 5 _ rfl
  have w5 : (([x0, x1, x2, x3, x4, x5] : List Value).drop 5).take (Tryz.prog.cellsOf 3) = [x5] := (congrArg (fun k => (([x0, x1, x2, x3, x4, x5] : List Value).drop 5).take k) cTInt).trans rfl
  have h5' : Came Tryz.prog W 3 [x5] := w5 ▸ h5
  obtain ⟨k5, e5, _⟩ := came_int Tryz.underlying3 h5'
  simp only [List.cons.injEq, and_true] at e0 e1 e2 e3 e4 e5
  subst e0 e1 e2 e3 e4 e5
  exact ⟨⟨k0, k1, k2, k3, k4, k5⟩, rfl⟩
theorem came_tts {W : World} {a : Option Addr} {n c : Nat} (h : Came Tryz.prog W 24 [.slice a n c]) : n ≤ maxLen ∧ n ≤ c ∧ ∃ ts : List TT, ts.length = n ∧ Lies W a (flat tC ts) :=
  lies_came tC tC_len (by decide) Tryz.underlying24 cTsk (fun es g => came_tt g) h
theorem szTaskS_ok (a : Option Addr) (n c : Nat) (left : Int) (h : (n : Int) ≤ left) (hl : left ≤ 1048576) (w : World) : Calls Tryz.prog 31 #[.slice a n c, .int .i64 left] w fun e w' => e = .returned (.int .i64 (left - n)) ∧ w = w' := by
  go_enter Tryz.func31, Tryz.ntmps31
  go_wp2
  go_ret
  exact ⟨rfl, rfl⟩
theorem szTaskS_no (a : Option Addr) (n c : Nat) (left : Int) (hn : n ≤ maxLen) (h : left < (n : Int)) (hl : 0 ≤ left) (w : World) : Calls Tryz.prog 31 #[.slice a n c, .int .i64 left] w fun e w' => e = .returned (.int .i64 (-1)) ∧ w = w' := by
  unfold maxLen at hn
  go_enter Tryz.func31, Tryz.ntmps31
  go_wp2
  go_ret
  exact ⟨rfl, rfl⟩
theorem toTask_cp (z : TT) (w : World) : Calls Tryz.prog 85 #[tV z] w fun e w' => e = .returned (tV z) ∧ Below w.heap.size w w' := by
  obtain ⟨k, p, d, i, q, r⟩ := z
  go_enter Tryz.func85, Tryz.ntmps85
  go_wp2
  refine bodyPost_ret (v := .agg #[.int .i64 k, .int .i64 p, .int .i64 d, .int .i64 i, .int .i64 q, .int .i64 r]) (by simp [results, Tryz.results85, go_sem]) rfl ⟨rfl, ?_⟩
  exact (((Below.refl w.heap.size w).alloc (Nat.le_refl _) _).alloc (by simp) _).alloc (by simp; omega) _
set_option maxHeartbeats 1000000 in
theorem toTaskS_any (ts : List TT) (a : Option Addr) (c : Nat) (hn : ts.length ≤ 1048576) (w : World) (hz : Lies w a (flat tC ts)) :
    Calls Tryz.prog 37 #[.slice a ts.length c] w fun e w' => e = .returned (.slice (some ⟨w.heap.size, 0, none⟩) ts.length ts.length) ∧ w'.ownsRow w.heap.size 77 6 (.slice (some ⟨w.heap.size, 0, none⟩) ts.length ts.length) ts.length (flat tC ts) ∧ Below w.heap.size w w' := by
  obtain ⟨i0, hi, hz0, hz1, hz2⟩ := info_parts (show (Tryz.prog.info? 77).map (fun i => (i.zero, i.size, i.bytes)) = some (some (.agg #[.int .i64 0, .int .i64 0, .int .i64 0, .int .i64 0, .int .i64 0, .int .i64 0]), 6, 48) by kernel_rfl)
  have HI := Lib.hid (And.intro hi (And.intro hz0 (And.intro hz1 hz2)))
  clear hi hz0 hz1 hz2
  have Hz := Lib.hid hz
  clear hz
  generalize hL : ts.length = n at *
  have HL := Lib.hid hL
  clear hL
  go_enter Tryz.func37, Tryz.ntmps37
  go_wp2_with (at_make; go_must (refine wpList_make_full _ rfl _ _ _ rfl w.heap.size 77 i0 _ 6 Tryz.underlying33 HI.out.1 HI.out.2.1 HI.out.2.2.1 .i64 .i64 _ _ n rfl rfl rfl rfl (by rw [HI.out.2.2.2]; omega) (by unfold maxLen; omega) (Nat.le_refl _) ?_); intro w1 hown1 hgrow1)
  have Ho1 := Lib.hid (Filled.zero (enc := tC) (zs := ts) hown1)
  have Hb1 := Lib.hid ((Below.refl w.heap.size w).grown hgrow1 (Nat.le_refl _) (by intro k hk; cases hk))
  clear hown1 hgrow1
  go_loopw [4] (fun i wr => ∃ k : Nat, k ≤ n ∧ i = .int .i64 k ∧ Hid (Filled tC 6 wr w.heap.size 77 w.heap.size n n ts k) ∧ Hid (Below w.heap.size w wr)) (fun i _ => n - (intOf i).toNat)
  case atStart => exact ⟨0, Nat.zero_le _, rfl, Ho1, Hb1⟩
  case round =>
    obtain ⟨k, hk, rfl, ho, hb⟩ := hrel
    by_cases hlt : k < n
    · obtain ⟨b, o, rfl, hbl, hcs⟩ := Hz.out.open (by rw [flat_len tC_len, HL.out]; omega)
      have e0 : C6 b (o + k * 6) (ts.getD k t0) wr := C6.bel (tt_at hcs (by rw [HL.out]; exact hlt)) hb.out hbl
      have HX : Hid (ts[k]? = some (ts.getD k t0)) := Lib.hid (by simp [List.getD, HL.out, hlt])
      clear hcs
      generalize ts.getD k t0 = z at *
      have hT := Lib.hid (toTask_cp z wr)
      obtain ⟨q0, q1, q2, q3, q4, q5⟩ := e0
      go_wp2_with fail
      refine Calls.mono hT.out ?_
      rintro e w2 ⟨rfl, hb2⟩
      have ho2 := ho.out.below hb2
      have Hb2 := Lib.hid (hb.out.trans (hb2.mono hb.out.size))
      have hlB : w.heap.size < w2.heap.size := by
        obtain ⟨tl, _, h3⟩ := ho2
        exact (h3.lt w.heap.size rfl).2
      clear hb2 hT q0 q1 q2 q3 q4 q5
      obtain ⟨v0, u0⟩ := ho2.there hlt 0 (by omega)
      obtain ⟨v1, u1⟩ := ho2.there hlt 1 (by omega)
      obtain ⟨v2, u2⟩ := ho2.there hlt 2 (by omega)
      obtain ⟨v3, u3⟩ := ho2.there hlt 3 (by omega)
      obtain ⟨v4, u4⟩ := ho2.there hlt 4 (by omega)
      obtain ⟨v5, u5⟩ := ho2.there hlt 5 (by omega)
      have g0 := ho2.free (k * 6)
      have g1 := ho2.free (k * 6 + 1)
      have g2 := ho2.free (k * 6 + 2)
      have g3 := ho2.free (k * 6 + 3)
      have g4 := ho2.free (k * 6 + 4)
      have g5 := ho2.free (k * 6 + 5)
      obtain ⟨hs, _⟩ := ho2.store tC_len HL.out HX.out
      have Hs : Hid (Filled tC 6 ((((((w2.setCell ⟨w.heap.size, k * 6, none⟩ (.int .i64 z.k)).setCell ⟨w.heap.size, k * 6 + 1, none⟩ (.int .i64 z.p)).setCell ⟨w.heap.size, k * 6 + 2, none⟩ (.int .i64 z.d)).setCell ⟨w.heap.size, k * 6 + 3, none⟩ (.int .i64 z.i)).setCell ⟨w.heap.size, k * 6 + 4, none⟩ (.int .i64 z.q)).setCell ⟨w.heap.size, k * 6 + 5, none⟩ (.int .i64 z.r)) w.heap.size 77 w.heap.size n n ts (k + 1)) := Lib.hid hs
      have Hg : Hid (Below w.heap.size w ((((((w2.setCell ⟨w.heap.size, k * 6, none⟩ (.int .i64 z.k)).setCell ⟨w.heap.size, k * 6 + 1, none⟩ (.int .i64 z.p)).setCell ⟨w.heap.size, k * 6 + 2, none⟩ (.int .i64 z.d)).setCell ⟨w.heap.size, k * 6 + 3, none⟩ (.int .i64 z.i)).setCell ⟨w.heap.size, k * 6 + 4, none⟩ (.int .i64 z.q)).setCell ⟨w.heap.size, k * 6 + 5, none⟩ (.int .i64 z.r))) := Lib.hid ((((((Hb2.out.setCell (p := ⟨w.heap.size, k * 6, none⟩) (Nat.le_refl _) (.int .i64 z.k)).setCell (p := ⟨w.heap.size, k * 6 + 1, none⟩) (Nat.le_refl _) (.int .i64 z.p)).setCell (p := ⟨w.heap.size, k * 6 + 2, none⟩) (Nat.le_refl _) (.int .i64 z.d)).setCell (p := ⟨w.heap.size, k * 6 + 3, none⟩) (Nat.le_refl _) (.int .i64 z.i)).setCell (p := ⟨w.heap.size, k * 6 + 4, none⟩) (Nat.le_refl _) (.int .i64 z.q)).setCell (p := ⟨w.heap.size, k * 6 + 5, none⟩) (Nat.le_refl _) (.int .i64 z.r))
      clear hs ho2
      rw [Nat.add_zero] at u0
      go_wp2
      go_roundw
      case rel => exact ⟨k + 1, by omega, by go_num, Hs, Hg⟩
      case measure => simp [intOf]; omega
    · obtain rfl : k = n := by omega
      go_wp2
      go_ret
      exact ⟨rfl, ho.out.full HL.out, hb.out⟩
theorem eqTask_same (z : TT) (w : World) : Calls Tryz.prog 91 #[tV z, tV z] w fun e w' => e = .returned (.bool true) ∧ Below w.heap.size w w' := by
  obtain ⟨k, p, d, i, q, r⟩ := z
  have h0 : (k != k) = false := by simp
  have h1 : (p != p) = false := by simp
  have h2 : (d != d) = false := by simp
  have h3 : (i != i) = false := by simp
  have h4 : (q != q) = false := by simp
  have h5 : (r != r) = false := by simp
  go_enter Tryz.func91, Tryz.ntmps91
  go_wp2
  go_ret
  exact ⟨rfl, ((Below.refl w.heap.size w).alloc (Nat.le_refl _) _).alloc (by simp) _⟩
set_option maxRecDepth 100000 in
set_option maxHeartbeats 1000000 in
theorem eqTaskS_same (l : List TT) (a b : Option Addr) (c d : Nat) (hn : l.length ≤ 1048576) (w : World) (hz : Lies w a (flat tC l)) (hy : Lies w b (flat tC l)) :
    Calls Tryz.prog 43 #[.slice a l.length c, .slice b l.length d] w fun e w' => e = .returned (.bool true) ∧ Below w.heap.size w w' := by
  have Hz := Lib.hid hz
  have Hy := Lib.hid hy
  clear hz hy
  generalize hL : l.length = n at *
  have HL := Lib.hid hL
  clear hL
  have hs : ((n : Int) != n) = false := by simp
  go_enter Tryz.func43, Tryz.ntmps43
  go_wp2
  go_loopw [5] (fun i wr => ∃ k : Nat, k ≤ n ∧ i = .int .i64 k ∧ Hid (Below w.heap.size w wr)) (fun i _ => n - (intOf i).toNat)
  case atStart => exact ⟨0, Nat.zero_le _, rfl, Lib.hid (Below.refl _ _)⟩
  case round =>
    obtain ⟨k, hk, rfl, hb⟩ := hrel
    by_cases hlt : k < n
    · obtain ⟨b1, o1, rfl, hb1, hc1⟩ := Hz.out.open (by rw [flat_len tC_len, HL.out]; omega)
      obtain ⟨b2, o2, rfl, hb2, hc2⟩ := Hy.out.open (by rw [flat_len tC_len, HL.out]; omega)
      have e1 : C6 b1 (o1 + k * 6) (l.getD k t0) w := tt_at hc1 (by rw [HL.out]; exact hlt)
      have e2 : C6 b2 (o2 + k * 6) (l.getD k t0) w := tt_at hc2 (by rw [HL.out]; exact hlt)
      clear hc1 hc2
      generalize l.getD k t0 = u at *
      have HE := Lib.hid (fun w => eqTask_same u w)
      have HSW := Lib.hid (show C6 b1 (o1 + k * 6) u wr.drew ∧ C6 b2 (o2 + k * 6) u wr.drew from ⟨e1.bel (hb.out.drew) hb1, e2.bel (hb.out.drew) hb2⟩)
      clear e1 e2
      go_wp2_with fail
      refine wp_region_hl 9 (fun X => C6 b1 (o1 + k * 6) u X ∧ C6 b2 (o2 + k * 6) u X) (by kernel_rfl) rfl rfl (by kernel_rfl) ?_
      refine hl_take (v := ?v0) 0 rfl (by kernel_rfl) (fun _ _ _ h => h) (Or.inl ⟨by rfl, ?hy0⟩) HSW.out ?rest0
      case hy0 =>
        intro w hSw
        obtain ⟨⟨c0, c1, c2, c3, c4, c5⟩, d0, d1, d2, d3, d4, d5⟩ := hSw
        go_simp <;> with_reducible rfl
      try simp only [Act.put, List.setIfInBounds_toArray, List.set_cons_zero, List.set_cons_succ]
      refine hl_take (v := ?v1) 1 rfl (by kernel_rfl) (fun _ _ _ h => h) (Or.inl ⟨by rfl, ?hy1⟩) HSW.out ?rest1
      case hy1 =>
        intro w hSw
        obtain ⟨⟨c0, c1, c2, c3, c4, c5⟩, d0, d1, d2, d3, d4, d5⟩ := hSw
        go_simp <;> with_reducible rfl
      try simp only [Act.put, List.setIfInBounds_toArray, List.set_cons_zero, List.set_cons_succ]
      refine hl_take (v := ?v2) 2 rfl (by kernel_rfl) (fun _ _ _ h => h) (Or.inl ⟨by rfl, ?hy2⟩) HSW.out ?rest2
      case hy2 =>
        intro w hSw
        obtain ⟨⟨c0, c1, c2, c3, c4, c5⟩, d0, d1, d2, d3, d4, d5⟩ := hSw
        go_simp <;> with_reducible rfl
      try simp only [Act.put, List.setIfInBounds_toArray, List.set_cons_zero, List.set_cons_succ]
      refine hl_take (v := ?v3) 3 rfl (by kernel_rfl) (fun _ _ _ h => h) (Or.inl ⟨by rfl, ?hy3⟩) HSW.out ?rest3
      case hy3 =>
        intro w hSw
        obtain ⟨⟨c0, c1, c2, c3, c4, c5⟩, d0, d1, d2, d3, d4, d5⟩ := hSw
        go_simp <;> with_reducible rfl
      try simp only [Act.put, List.setIfInBounds_toArray, List.set_cons_zero, List.set_cons_succ]
      refine hl_take (v := ?v4) 4 rfl (by kernel_rfl) (fun _ _ _ h => h) (Or.inl ⟨by rfl, ?hy4⟩) HSW.out ?rest4
      case hy4 =>
        intro w hSw
        obtain ⟨⟨c0, c1, c2, c3, c4, c5⟩, d0, d1, d2, d3, d4, d5⟩ := hSw
        go_simp <;> with_reducible rfl
      try simp only [Act.put, List.setIfInBounds_toArray, List.set_cons_zero, List.set_cons_succ]
      refine hl_take (v := ?v5) 5 rfl (by kernel_rfl) (fun _ _ _ h => h) (Or.inl ⟨by rfl, ?hy5⟩) HSW.out ?rest5
      case hy5 =>
        intro w hSw
        obtain ⟨⟨c0, c1, c2, c3, c4, c5⟩, d0, d1, d2, d3, d4, d5⟩ := hSw
        go_simp <;> with_reducible rfl
      try simp only [Act.put, List.setIfInBounds_toArray, List.set_cons_zero, List.set_cons_succ]
      refine hl_take (v := ?v6) 6 rfl (by kernel_rfl) (fun _ _ _ h => h) (Or.inl ⟨by rfl, ?hy6⟩) HSW.out ?rest6
      case hy6 =>
        intro w hSw
        obtain ⟨⟨c0, c1, c2, c3, c4, c5⟩, d0, d1, d2, d3, d4, d5⟩ := hSw
        go_simp <;> with_reducible rfl
      try simp only [Act.put, List.setIfInBounds_toArray, List.set_cons_zero, List.set_cons_succ]
      refine hl_take (v := ?v7) 7 rfl (by kernel_rfl) (fun _ _ _ h => h) (Or.inl ⟨by rfl, ?hy7⟩) HSW.out ?rest7
      case hy7 =>
        intro w hSw
        obtain ⟨⟨c0, c1, c2, c3, c4, c5⟩, d0, d1, d2, d3, d4, d5⟩ := hSw
        go_simp <;> with_reducible rfl
      try simp only [Act.put, List.setIfInBounds_toArray, List.set_cons_zero, List.set_cons_succ]
      refine hl_one 8 rfl (by kernel_rfl) (fun K hK => ?_)
      go_simp
      refine Calls.mono (HE.out _) ?_
      rintro e w2 ⟨rfl, hb3⟩
      have hwd : w.heap.size ≤ wr.drew.heap.size := hb.out.size
      refine hK.out _ _ ⟨HSW.out.1.bel hb3 (by omega), HSW.out.2.bel hb3 (by omega)⟩ ?_
      have Hb3 := Lib.hid ((hb.out.drew).trans (hb3.mono hwd))
      clear hK hb3
      try simp only [Act.put, List.setIfInBounds_toArray, List.set_cons_zero, List.set_cons_succ]
      refine hl_done (by kernel_rfl) ?_
      go_simp
      go_wp2
      go_roundw
      all_goals first | exact ⟨k + 1, by omega, by go_num, Hb3⟩ | (simp [intOf]; omega)
    · obtain rfl : k = n := by omega
      go_wp2
      go_ret
      exact ⟨rfl, hb.out⟩
def mkT (m : Int) (k : Nat) : TT := ⟨m + 6 * k, m + 6 * k + 1, m + 6 * k + 1 + 1, m + 6 * k + 1 + 1 + 1, m + 6 * k + 1 + 1 + 1 + 1, m + 6 * k + 1 + 1 + 1 + 1 + 1⟩
def marksT (m : Int) : Nat → List TT
  | 0 => []
  | k + 1 => marksT m k ++ [mkT m k]
theorem marksT_len (m : Int) (k : Nat) : (marksT m k).length = k := by
  induction k with
  | zero => rfl
  | succ k ih => simp [marksT, ih]
theorem marksT_at (m : Int) : ∀ (n k : Nat), k < n → (marksT m n)[k]? = some (mkT m k)
  | 0, k, h => by omega
  | n + 1, k, h => by
    by_cases e : k < n
    · rw [marksT, List.getElem?_append_left (by rw [marksT_len]; exact e)]
      exact marksT_at m n k e
    · obtain rfl : k = n := by omega
      rw [marksT, List.getElem?_append_right (by rw [marksT_len]; omega), marksT_len]
      simp
set_option maxHeartbeats 1000000 in
theorem markTaskS_any (B g n cap : Nat) (xs : List Value) (m : Int) (hm : 0 ≤ m ∧ m ≤ 1000000000) (hn : n ≤ 1048576) (w : World) (ho : w.ownsRow B 77 6 (.slice (some ⟨g, 0, none⟩) n cap) n xs) :
    Calls Tryz.prog 47 #[.slice (some ⟨g, 0, none⟩) n cap, .int .i64 m] w fun e w' => e = .returned (.int .i64 (m + 6 * n)) ∧ w'.ownsRow B 77 6 (.slice (some ⟨g, 0, none⟩) n cap) n (flat tC (marksT m n)) ∧ w.grownBy w' (some g) := by
  have Ho : Hid (Filled tC 6 w B 77 g n cap (marksT m n) 0) := Lib.hid (Filled.zero ho)
  have Hg := Lib.hid (World.grownBy.refl w (some g))
  clear ho
  go_enter Tryz.func47, Tryz.ntmps47
  go_wp2
  go_loopw [1, 5] (fun q i wr => ∃ k : Nat, k ≤ n ∧ i = .int .i64 k ∧ q = .int .i64 (m + 6 * k) ∧ Hid (Filled tC 6 wr B 77 g n cap (marksT m n) k) ∧ Hid (w.grownBy wr (some g))) (fun _ i _ => n - (intOf i).toNat)
  case atStart => exact ⟨0, Nat.zero_le _, rfl, by go_num, Ho, Hg⟩
  case round =>
    obtain ⟨k, hk, rfl, rfl, ho, hg⟩ := hrel
    by_cases hlt : k < n
    · obtain ⟨v0, e0⟩ := ho.out.there hlt 0 (by omega)
      obtain ⟨v1, e1⟩ := ho.out.there hlt 1 (by omega)
      obtain ⟨v2, e2⟩ := ho.out.there hlt 2 (by omega)
      obtain ⟨v3, e3⟩ := ho.out.there hlt 3 (by omega)
      obtain ⟨v4, e4⟩ := ho.out.there hlt 4 (by omega)
      obtain ⟨v5, e5⟩ := ho.out.there hlt 5 (by omega)
      have g0 := ho.out.free (k * 6)
      have g1 := ho.out.free (k * 6 + 1)
      have g2 := ho.out.free (k * 6 + 2)
      have g3 := ho.out.free (k * 6 + 3)
      have g4 := ho.out.free (k * 6 + 4)
      have g5 := ho.out.free (k * 6 + 5)
      obtain ⟨hs, hg2⟩ := ho.out.store tC_len (marksT_len m n) (marksT_at m n k hlt)
      have Hs : Hid (Filled tC 6 ((((((wr.setCell ⟨g, k * 6, none⟩ (.int .i64 (m + 6 * k))).setCell ⟨g, k * 6 + 1, none⟩ (.int .i64 (m + 6 * k + 1))).setCell ⟨g, k * 6 + 2, none⟩ (.int .i64 (m + 6 * k + 1 + 1))).setCell ⟨g, k * 6 + 3, none⟩ (.int .i64 (m + 6 * k + 1 + 1 + 1))).setCell ⟨g, k * 6 + 4, none⟩ (.int .i64 (m + 6 * k + 1 + 1 + 1 + 1))).setCell ⟨g, k * 6 + 5, none⟩ (.int .i64 (m + 6 * k + 1 + 1 + 1 + 1 + 1))) B 77 g n cap (marksT m n) (k + 1)) := Lib.hid hs
      have Hg : Hid (w.grownBy ((((((wr.setCell ⟨g, k * 6, none⟩ (.int .i64 (m + 6 * k))).setCell ⟨g, k * 6 + 1, none⟩ (.int .i64 (m + 6 * k + 1))).setCell ⟨g, k * 6 + 2, none⟩ (.int .i64 (m + 6 * k + 1 + 1))).setCell ⟨g, k * 6 + 3, none⟩ (.int .i64 (m + 6 * k + 1 + 1 + 1))).setCell ⟨g, k * 6 + 4, none⟩ (.int .i64 (m + 6 * k + 1 + 1 + 1 + 1))).setCell ⟨g, k * 6 + 5, none⟩ (.int .i64 (m + 6 * k + 1 + 1 + 1 + 1 + 1))) (some g)) := Lib.hid (row_tr hg.out hg2)
      clear hs hg2
      rw [Nat.add_zero] at e0
      go_wp2
      go_roundw
      case rel => exact ⟨k + 1, by omega, by go_num, by go_num, Hs, Hg⟩
      case measure => simp [intOf]; omega
    · obtain rfl : k = n := by omega
      go_wp2
      go_ret
      exact ⟨rfl, ho.out.full (marksT_len m k), hg.out⟩
def MarkTPost (B n : Nat) (v : Value) (m : Int) (w : World) (e : Ending) (w' : World) : Prop :=
  e = .returned (.int .i64 (m + 6 * n)) ∧ w'.ownsRow B 77 6 v n (flat tC (marksT m n)) ∧ w.grownBy w' v.ownBlock
theorem markTaskS_own (B n c : Nat) (a : Option Addr) (xs : List Value) (m : Int) (hm : 0 ≤ m ∧ m ≤ 1000000000) (hn : n ≤ 1048576) (w : World) (ho : w.ownsRow B 77 6 (.slice a n c) n xs) :
    Calls Tryz.prog 47 #[.slice a n c, .int .i64 m] w (MarkTPost B n (.slice a n c) m w) := by
  rcases own_form ho with ⟨hv, rfl⟩ | ⟨g, c', hv⟩
  · simp only [Value.slice.injEq] at hv
    obtain ⟨rfl, _, rfl⟩ := hv
    clear ho
    go_enter Tryz.func47, Tryz.ntmps47
    go_wp2
    go_loop [1, 5] (fun q i => q = .int .i64 m ∧ i = .int .i64 0) (fun _ i => 0)
    case atStart => exact ⟨rfl, rfl⟩
    case round =>
      obtain ⟨rfl, rfl⟩ := hrel
      go_wp2
      go_ret
      exact ⟨by simp, World.ownsRow_nil _ _ _ _, World.grownBy.refl _ _⟩
  · simp only [Value.slice.injEq] at hv
    obtain ⟨rfl, _, rfl⟩ := hv
    exact (markTaskS_any B g n c xs m hm hn w ho).mono fun _ _ h => h
end Go.Proofs.YtppgknjpbfopjaaGreatDoor
