/- The exact laws of Behind and Either. -/
import Derived.Test.YthlbcjjfnmnpiaaCst4
namespace Go.Proofs.Ythlbcjjfnmnpiaa
open Go.ChangeShapes Go.WideShapes Go.ChangeAt Go.RowKit
set_option linter.unusedVariables false
/-- Two boxes are there, cell for cell. -/
theorem two_in {v X : World} {p : Nat} {a b : SM} (h1 : X.heap[p]? = some (lsO a)) (h2 : X.heap[p + 1]? = some (lsO b)) (h3 : Below v.heap.size v X) :
    X.heap[p]? = some (lsO a) ∧ X.heap[p + 1]? = some (lsO b) ∧ Below v.heap.size v X ∧ X.cell? ⟨p, 0, none⟩ = some (.int .i64 a.t) ∧ X.cell? ⟨p, 1, none⟩ = some (.int .i64 a.n) ∧ X.cell? ⟨p, 2, none⟩ = some (.int .i64 a.h) ∧ X.cell? ⟨p, 3, none⟩ = some (.int .i64 a.l) ∧ X.cell? ⟨p, 4, none⟩ = some (.int .i64 a.i) ∧ X.cell? ⟨p + 1, 0, none⟩ = some (.int .i64 b.t) ∧ X.cell? ⟨p + 1, 1, none⟩ = some (.int .i64 b.n) ∧ X.cell? ⟨p + 1, 2, none⟩ = some (.int .i64 b.h) ∧ X.cell? ⟨p + 1, 3, none⟩ = some (.int .i64 b.l) ∧ X.cell? ⟨p + 1, 4, none⟩ = some (.int .i64 b.i) := by
  obtain ⟨⟨c0, c1, c2, c3, c4⟩, -, -⟩ := sm_cells h1
  obtain ⟨⟨d0, d1, d2, d3, d4⟩, -, -⟩ := sm_cells h2
  exact ⟨h1, h2, h3, c0, c1, c2, c3, c4, d0, d1, d2, d3, d4⟩
theorem dr_h {X : World} {k : Nat} {Q : Obj} (h : X.heap[k]? = some Q) : X.drew.heap[k]? = some Q := h
theorem two_next {v X wn : World} {p : Nat} {a b : SM} (h1 : X.heap[p]? = some (lsO a)) (h2 : X.heap[p + 1]? = some (lsO b)) (h3 : Below v.heap.size v X) (hb : Below X.heap.size X wn) :
    wn.heap[p]? = some (lsO a) ∧ wn.heap[p + 1]? = some (lsO b) ∧ Below v.heap.size v wn := ⟨blk_bel h1 hb, blk_bel h2 hb, h3.trans (hb.mono h3.size)⟩
theorem ne_blk {X : World} {k g : Nat} {a q : SM} (h : X.heap[k]? = some (lsO a)) (h' : X.heap[g]? = some (smO q)) : k ≠ g := by
  rintro rfl
  rw [h] at h'
  simp at h'
/-- A new summary of zeros, as it lies behind later calls. -/
def K5 (v : World) (g : Nat) (X : World) : Prop := X.heap[g]? = some (smO sm0) ∧ v.heap.size ≤ g
theorem k5_new {v Y wn : World} (h : Below v.heap.size v Y) (hb : Below (Y.alloc (smO sm0)).heap.size (Y.alloc (smO sm0)) wn) : K5 v Y.heap.size wn :=
  ⟨blk_bel (heap_alloc_new Y (smO sm0)) hb, h.size⟩
theorem k5_newd {v Y wn : World} (h : Below v.heap.size v Y) (hb : Below (Y.alloc (smO sm0)).drew.heap.size (Y.alloc (smO sm0)).drew wn) : K5 v Y.heap.size wn :=
  ⟨blk_bel (w1 := (Y.alloc (smO sm0)).drew) (heap_alloc_new Y (smO sm0)) hb, h.size⟩
theorem k5_carry {v X wn : World} {g : Nat} (hb : Below X.heap.size X wn) (h : K5 v g X) : K5 v g wn := ⟨blk_bel h.1 hb, h.2⟩
theorem k5_put {v X : World} {g : Nat} (k : K5 v g X) (q : SM) : (set5 X g q).heap[g]? = some (smO q) := sm_put5 k.1 q
theorem two_set {v X : World} {p : Nat} {a b : SM} {g : Nat} (k : K5 v g X) (h1 : X.heap[p]? = some (lsO a)) (h2 : X.heap[p + 1]? = some (lsO b)) (h3 : Below v.heap.size v X) (q : SM) :
    (set5 X g q).heap[p]? = some (lsO a) ∧ (set5 X g q).heap[p + 1]? = some (lsO b) ∧ Below v.heap.size v (set5 X g q) ∧ (set5 X g q).cell? ⟨p, 0, none⟩ = some (.int .i64 a.t) ∧ (set5 X g q).cell? ⟨p, 1, none⟩ = some (.int .i64 a.n) ∧ (set5 X g q).cell? ⟨p, 2, none⟩ = some (.int .i64 a.h) ∧ (set5 X g q).cell? ⟨p, 3, none⟩ = some (.int .i64 a.l) ∧ (set5 X g q).cell? ⟨p, 4, none⟩ = some (.int .i64 a.i) ∧ (set5 X g q).cell? ⟨p + 1, 0, none⟩ = some (.int .i64 b.t) ∧ (set5 X g q).cell? ⟨p + 1, 1, none⟩ = some (.int .i64 b.n) ∧ (set5 X g q).cell? ⟨p + 1, 2, none⟩ = some (.int .i64 b.h) ∧ (set5 X g q).cell? ⟨p + 1, 3, none⟩ = some (.int .i64 b.l) ∧ (set5 X g q).cell? ⟨p + 1, 4, none⟩ = some (.int .i64 b.i) :=
  two_in (bl_set5 h1 g (ne_blk h1 k.1) q) (bl_set5 h2 g (ne_blk h2 k.1) q) (sm_set5 h3 g k.2 q)
theorem bel_al1 {B : Nat} {w X : World} (h : Below B w X) (O : Obj) (hB : B ≤ X.heap.size) : Below B w (X.alloc O) := h.alloc hB O
set_option maxHeartbeats 1000000 in
theorem FnExactBehind_walk (a b : SM) (w : World) : Calls Try.prog 6 #[smV a, smV b] w fun e w' => e = .returned (.bool true) ∧ Below w.heap.size w w' := by
  have HI := Lib.hid (fun w => Behind_any a b w)
  have HS := Lib.hid (fun w => specBehind_any a b w)
  generalize behF a b = R at *
  obtain ⟨q, r⟩ := R
  have e2 : (r != r) = false := by simp
  have HQ : Hid (((w.alloc (lsO a)).alloc (lsO b)).heap[w.heap.size]? = some (lsO a) ∧ ((w.alloc (lsO a)).alloc (lsO b)).heap[w.heap.size + 1]? = some (lsO b) ∧ Below w.heap.size w ((w.alloc (lsO a)).alloc (lsO b))) :=
    Lib.hid ⟨bl_al (heap_alloc_new w _) _, by have := heap_alloc_new (w.alloc (lsO a)) (lsO b); simpa using this, sm_al2 w _ _⟩
  go_enter Try.func6, Try.ntmps6
  go_upto_region 1 with (fail)
  generalize (w.alloc (lsO a)).alloc (lsO b) = W at *
  go_cut [5, 6] (fun s5 s6 wx => ∃ g : Nat, s5 = .pointer (some ⟨g, 0, none⟩) ∧ s6 = .int .i64 r ∧ Hid (wx.heap[g]? = some (smO q) ∧ wx.heap[w.heap.size]? = some (lsO a) ∧ wx.heap[w.heap.size + 1]? = some (lsO b) ∧ Below w.heap.size w wx))
  case first =>
    have hS := two_in (v := w) (p := w.heap.size) HQ.out.1 HQ.out.2.1 HQ.out.2.2
    go_split_ands
    go_region_held3 (fun w' => w'.heap[w.heap.size]? = some (lsO a) ∧ w'.heap[w.heap.size + 1]? = some (lsO b) ∧ Below w.heap.size w w' ∧ w'.cell? ⟨w.heap.size, 0, none⟩ = some (.int .i64 a.t) ∧ w'.cell? ⟨w.heap.size, 1, none⟩ = some (.int .i64 a.n) ∧ w'.cell? ⟨w.heap.size, 2, none⟩ = some (.int .i64 a.h) ∧ w'.cell? ⟨w.heap.size, 3, none⟩ = some (.int .i64 a.l) ∧ w'.cell? ⟨w.heap.size, 4, none⟩ = some (.int .i64 a.i) ∧ w'.cell? ⟨w.heap.size + 1, 0, none⟩ = some (.int .i64 b.t) ∧ w'.cell? ⟨w.heap.size + 1, 1, none⟩ = some (.int .i64 b.n) ∧ w'.cell? ⟨w.heap.size + 1, 2, none⟩ = some (.int .i64 b.h) ∧ w'.cell? ⟨w.heap.size + 1, 3, none⟩ = some (.int .i64 b.l) ∧ w'.cell? ⟨w.heap.size + 1, 4, none⟩ = some (.int .i64 b.i))
      (first
        | (with_reducible exact two_in (by assumption) (by assumption) (by assumption))
        | (with_reducible exact two_set k5 (by assumption) (by assumption) (by assumption) q)
        | (with_reducible exact two_in (dr_h (by assumption)) (dr_h (by assumption)) (sm_dr (by assumption)))
        | (with_reducible exact two_in (bl_al (by assumption) _) (bl_al (by assumption) _) (bel_al1 (by assumption) _ (Below.size (by assumption))))
        | (with_reducible exact two_in (dr_h (bl_al (by assumption) _)) (dr_h (bl_al (by assumption) _)) (sm_dr (bel_al1 (by assumption) _ (Below.size (by assumption))))))
      (first
        | (go_at_call 20; go_split_ands; (with_reducible refine (toSummary_any _ _).mono ?_); rintro e wn ⟨rfl, hbn⟩; have kk := two_next (v := w) (p := w.heap.size) (a := a) (b := b) (by assumption) (by assumption) (by assumption) hbn; go_split_ands; (first | (with_reducible (have k5 := k5_carry hbn k5)) | (with_reducible (have k5 := k5_new (v := w) (by assumption) hbn)) | (with_reducible (have k5 := k5_newd (v := w) (by assumption) hbn)) | skip); (first | (have f5 := sm_cells k5.1; go_split_ands) | skip))
        | (go_at_call 12; go_split_ands; (with_reducible refine (HS.out _).mono ?_); rintro e wn ⟨rfl, hbn⟩; have kk := two_next (v := w) (p := w.heap.size) (a := a) (b := b) (by assumption) (by assumption) (by assumption) hbn; go_split_ands; (first | (with_reducible (have k5 := k5_carry hbn k5)) | (with_reducible (have k5 := k5_new (v := w) (by assumption) hbn)) | (with_reducible (have k5 := k5_newd (v := w) (by assumption) hbn)) | skip); (first | (have f5 := sm_cells k5.1; go_split_ands) | skip)))
    all_goals
      go_split_ands
      go_wp2_with fail
      go_meet
      refine ⟨_, rfl, rfl, Lib.hid ⟨?_, by with_reducible assumption, by with_reducible assumption, by with_reducible assumption⟩⟩
      first | (with_reducible exact k5_put k5 q) | (with_reducible exact heap_alloc_new _ (smO q))
  case rest =>
    obtain ⟨g, rfl, rfl, hc⟩ := hcut
    clear HQ
    have HB := Lib.hid hc.out.2.2.2
    have HQ := Lib.hid (And.intro hc.out.2.1 (And.intro hc.out.2.2.1 (Below.refl wc.heap.size wc)))
    have K0 := Lib.hid hc.out.1
    have hg : g < wc.heap.size := (Array.getElem?_eq_some_iff.1 hc.out.1).1
    clear hc
    go_upto_region 2 with (fail)
    go_cut [7, 8] (fun s7 s8 wx => ∃ g2 : Nat, s7 = .pointer (some ⟨g2, 0, none⟩) ∧ s8 = .int .i64 r ∧ Hid (wx.heap[g2]? = some (smO q) ∧ Below wc.heap.size wc wx))
    case first =>
      have hS := two_in (v := wc) (p := w.heap.size) HQ.out.1 HQ.out.2.1 HQ.out.2.2
      go_split_ands
      go_region_held3 (fun w' => w'.heap[w.heap.size]? = some (lsO a) ∧ w'.heap[w.heap.size + 1]? = some (lsO b) ∧ Below wc.heap.size wc w' ∧ w'.cell? ⟨w.heap.size, 0, none⟩ = some (.int .i64 a.t) ∧ w'.cell? ⟨w.heap.size, 1, none⟩ = some (.int .i64 a.n) ∧ w'.cell? ⟨w.heap.size, 2, none⟩ = some (.int .i64 a.h) ∧ w'.cell? ⟨w.heap.size, 3, none⟩ = some (.int .i64 a.l) ∧ w'.cell? ⟨w.heap.size, 4, none⟩ = some (.int .i64 a.i) ∧ w'.cell? ⟨w.heap.size + 1, 0, none⟩ = some (.int .i64 b.t) ∧ w'.cell? ⟨w.heap.size + 1, 1, none⟩ = some (.int .i64 b.n) ∧ w'.cell? ⟨w.heap.size + 1, 2, none⟩ = some (.int .i64 b.h) ∧ w'.cell? ⟨w.heap.size + 1, 3, none⟩ = some (.int .i64 b.l) ∧ w'.cell? ⟨w.heap.size + 1, 4, none⟩ = some (.int .i64 b.i))
        (first
          | (with_reducible exact two_in (by assumption) (by assumption) (by assumption))
          | (with_reducible exact two_set k5 (by assumption) (by assumption) (by assumption) q)
          | (with_reducible exact two_in (dr_h (by assumption)) (dr_h (by assumption)) (sm_dr (by assumption)))
          | (with_reducible exact two_in (bl_al (by assumption) _) (bl_al (by assumption) _) (bel_al1 (by assumption) _ (Below.size (by assumption))))
          | (with_reducible exact two_in (dr_h (bl_al (by assumption) _)) (dr_h (bl_al (by assumption) _)) (sm_dr (bel_al1 (by assumption) _ (Below.size (by assumption))))))
        (first
          | (go_at_call 20; go_split_ands; (with_reducible refine (toSummary_any _ _).mono ?_); rintro e wn ⟨rfl, hbn⟩; have kk := two_next (v := wc) (p := w.heap.size) (a := a) (b := b) (by assumption) (by assumption) (by assumption) hbn; go_split_ands; (first | (with_reducible (have k5 := k5_carry hbn k5)) | (with_reducible (have k5 := k5_new (v := wc) (by assumption) hbn)) | (with_reducible (have k5 := k5_newd (v := wc) (by assumption) hbn)) | skip); (first | (have f5 := sm_cells k5.1; go_split_ands) | skip))
          | (go_at_call 11; go_split_ands; (with_reducible refine (HI.out _).mono ?_); rintro e wn ⟨rfl, hbn⟩; have kk := two_next (v := wc) (p := w.heap.size) (a := a) (b := b) (by assumption) (by assumption) (by assumption) hbn; go_split_ands; (first | (with_reducible (have k5 := k5_carry hbn k5)) | (with_reducible (have k5 := k5_new (v := wc) (by assumption) hbn)) | (with_reducible (have k5 := k5_newd (v := wc) (by assumption) hbn)) | skip); (first | (have f5 := sm_cells k5.1; go_split_ands) | skip)))
      all_goals
        go_split_ands
        go_wp2_with fail
        go_meet
        refine ⟨_, rfl, rfl, Lib.hid ⟨?_, by with_reducible assumption⟩⟩
        first | (with_reducible exact k5_put k5 q) | (with_reducible exact heap_alloc_new _ (smO q))
    case rest =>
      obtain ⟨g2, rfl, rfl, hc⟩ := hcut
      have K1 := blk_bel K0.out hc.out.2
      obtain ⟨⟨c0, c1, c2, c3, c4⟩, -, hz⟩ := sm_cells K1
      obtain ⟨⟨d0, d1, d2, d3, d4⟩, -, hz'⟩ := sm_cells hc.out.1
      clear K1
      go_wp2_with fail
      refine Calls.mono (eqSummary_same _ _) ?_
      rintro e w5 ⟨rfl, hb5⟩
      have Hb5 := Lib.hid (HB.out.trans ((hc.out.2.trans (hb5.mono hc.out.2.size)).mono HB.out.size))
      clear hb5 c0 c1 c2 c3 c4 d0 d1 d2 d3 d4
      go_wp2
      go_ret
      exact ⟨rfl, Hb5.out⟩
theorem FnExactBehind_came (cs ds : Array Value) (W : World) (h : Came Try.prog W 33 cs.toList) (g : Came Try.prog W 33 ds.toList) : Calls Try.prog 6 #[.agg cs, .agg ds] W fun e w' => e = .returned (.bool true) ∧ Below W.heap.size W w' := by
  obtain ⟨a, e⟩ := came_sm h
  obtain ⟨b, e'⟩ := came_sm g
  rw [e, e']
  exact FnExactBehind_walk a b W
set_option maxHeartbeats 1000000 in
theorem FnExactEither_walk (a b : SM) (w : World) : Calls Try.prog 7 #[smV a, smV b] w fun e w' => e = .returned (.bool true) ∧ Below w.heap.size w w' := by
  have HI := Lib.hid (fun w => Either_any a b w)
  have HS := Lib.hid (fun w => specEither_any a b w)
  generalize eithF a b = R at *
  obtain ⟨q, r⟩ := R
  have e2 : (r != r) = false := by simp
  have HQ : Hid (((w.alloc (lsO a)).alloc (lsO b)).heap[w.heap.size]? = some (lsO a) ∧ ((w.alloc (lsO a)).alloc (lsO b)).heap[w.heap.size + 1]? = some (lsO b) ∧ Below w.heap.size w ((w.alloc (lsO a)).alloc (lsO b))) :=
    Lib.hid ⟨bl_al (heap_alloc_new w _) _, by have := heap_alloc_new (w.alloc (lsO a)) (lsO b); simpa using this, sm_al2 w _ _⟩
  go_enter Try.func7, Try.ntmps7
  go_upto_region 1 with (fail)
  generalize (w.alloc (lsO a)).alloc (lsO b) = W at *
  go_cut [5, 6] (fun s5 s6 wx => ∃ g : Nat, s5 = .pointer (some ⟨g, 0, none⟩) ∧ s6 = .int .i64 r ∧ Hid (wx.heap[g]? = some (smO q) ∧ wx.heap[w.heap.size]? = some (lsO a) ∧ wx.heap[w.heap.size + 1]? = some (lsO b) ∧ Below w.heap.size w wx))
  case first =>
    have hS := two_in (v := w) (p := w.heap.size) HQ.out.1 HQ.out.2.1 HQ.out.2.2
    go_split_ands
    go_region_held3 (fun w' => w'.heap[w.heap.size]? = some (lsO a) ∧ w'.heap[w.heap.size + 1]? = some (lsO b) ∧ Below w.heap.size w w' ∧ w'.cell? ⟨w.heap.size, 0, none⟩ = some (.int .i64 a.t) ∧ w'.cell? ⟨w.heap.size, 1, none⟩ = some (.int .i64 a.n) ∧ w'.cell? ⟨w.heap.size, 2, none⟩ = some (.int .i64 a.h) ∧ w'.cell? ⟨w.heap.size, 3, none⟩ = some (.int .i64 a.l) ∧ w'.cell? ⟨w.heap.size, 4, none⟩ = some (.int .i64 a.i) ∧ w'.cell? ⟨w.heap.size + 1, 0, none⟩ = some (.int .i64 b.t) ∧ w'.cell? ⟨w.heap.size + 1, 1, none⟩ = some (.int .i64 b.n) ∧ w'.cell? ⟨w.heap.size + 1, 2, none⟩ = some (.int .i64 b.h) ∧ w'.cell? ⟨w.heap.size + 1, 3, none⟩ = some (.int .i64 b.l) ∧ w'.cell? ⟨w.heap.size + 1, 4, none⟩ = some (.int .i64 b.i))
      (first
        | (with_reducible exact two_in (by assumption) (by assumption) (by assumption))
        | (with_reducible exact two_set k5 (by assumption) (by assumption) (by assumption) q)
        | (with_reducible exact two_in (dr_h (by assumption)) (dr_h (by assumption)) (sm_dr (by assumption)))
        | (with_reducible exact two_in (bl_al (by assumption) _) (bl_al (by assumption) _) (bel_al1 (by assumption) _ (Below.size (by assumption))))
        | (with_reducible exact two_in (dr_h (bl_al (by assumption) _)) (dr_h (bl_al (by assumption) _)) (sm_dr (bel_al1 (by assumption) _ (Below.size (by assumption))))))
      (first
        | (go_at_call 20; go_split_ands; (with_reducible refine (toSummary_any _ _).mono ?_); rintro e wn ⟨rfl, hbn⟩; have kk := two_next (v := w) (p := w.heap.size) (a := a) (b := b) (by assumption) (by assumption) (by assumption) hbn; go_split_ands; (first | (with_reducible (have k5 := k5_carry hbn k5)) | (with_reducible (have k5 := k5_new (v := w) (by assumption) hbn)) | (with_reducible (have k5 := k5_newd (v := w) (by assumption) hbn)) | skip); (first | (have f5 := sm_cells k5.1; go_split_ands) | skip))
        | (go_at_call 17; go_split_ands; (with_reducible refine (HS.out _).mono ?_); rintro e wn ⟨rfl, hbn⟩; have kk := two_next (v := w) (p := w.heap.size) (a := a) (b := b) (by assumption) (by assumption) (by assumption) hbn; go_split_ands; (first | (with_reducible (have k5 := k5_carry hbn k5)) | (with_reducible (have k5 := k5_new (v := w) (by assumption) hbn)) | (with_reducible (have k5 := k5_newd (v := w) (by assumption) hbn)) | skip); (first | (have f5 := sm_cells k5.1; go_split_ands) | skip)))
    all_goals
      go_split_ands
      go_wp2_with fail
      go_meet
      refine ⟨_, rfl, rfl, Lib.hid ⟨?_, by with_reducible assumption, by with_reducible assumption, by with_reducible assumption⟩⟩
      first | (with_reducible exact k5_put k5 q) | (with_reducible exact heap_alloc_new _ (smO q))
  case rest =>
    obtain ⟨g, rfl, rfl, hc⟩ := hcut
    clear HQ
    have HB := Lib.hid hc.out.2.2.2
    have HQ := Lib.hid (And.intro hc.out.2.1 (And.intro hc.out.2.2.1 (Below.refl wc.heap.size wc)))
    have K0 := Lib.hid hc.out.1
    have hg : g < wc.heap.size := (Array.getElem?_eq_some_iff.1 hc.out.1).1
    clear hc
    go_upto_region 2 with (fail)
    go_cut [7, 8] (fun s7 s8 wx => ∃ g2 : Nat, s7 = .pointer (some ⟨g2, 0, none⟩) ∧ s8 = .int .i64 r ∧ Hid (wx.heap[g2]? = some (smO q) ∧ Below wc.heap.size wc wx))
    case first =>
      have hS := two_in (v := wc) (p := w.heap.size) HQ.out.1 HQ.out.2.1 HQ.out.2.2
      go_split_ands
      go_region_held3 (fun w' => w'.heap[w.heap.size]? = some (lsO a) ∧ w'.heap[w.heap.size + 1]? = some (lsO b) ∧ Below wc.heap.size wc w' ∧ w'.cell? ⟨w.heap.size, 0, none⟩ = some (.int .i64 a.t) ∧ w'.cell? ⟨w.heap.size, 1, none⟩ = some (.int .i64 a.n) ∧ w'.cell? ⟨w.heap.size, 2, none⟩ = some (.int .i64 a.h) ∧ w'.cell? ⟨w.heap.size, 3, none⟩ = some (.int .i64 a.l) ∧ w'.cell? ⟨w.heap.size, 4, none⟩ = some (.int .i64 a.i) ∧ w'.cell? ⟨w.heap.size + 1, 0, none⟩ = some (.int .i64 b.t) ∧ w'.cell? ⟨w.heap.size + 1, 1, none⟩ = some (.int .i64 b.n) ∧ w'.cell? ⟨w.heap.size + 1, 2, none⟩ = some (.int .i64 b.h) ∧ w'.cell? ⟨w.heap.size + 1, 3, none⟩ = some (.int .i64 b.l) ∧ w'.cell? ⟨w.heap.size + 1, 4, none⟩ = some (.int .i64 b.i))
        (first
          | (with_reducible exact two_in (by assumption) (by assumption) (by assumption))
          | (with_reducible exact two_set k5 (by assumption) (by assumption) (by assumption) q)
          | (with_reducible exact two_in (dr_h (by assumption)) (dr_h (by assumption)) (sm_dr (by assumption)))
          | (with_reducible exact two_in (bl_al (by assumption) _) (bl_al (by assumption) _) (bel_al1 (by assumption) _ (Below.size (by assumption))))
          | (with_reducible exact two_in (dr_h (bl_al (by assumption) _)) (dr_h (bl_al (by assumption) _)) (sm_dr (bel_al1 (by assumption) _ (Below.size (by assumption))))))
        (first
          | (go_at_call 20; go_split_ands; (with_reducible refine (toSummary_any _ _).mono ?_); rintro e wn ⟨rfl, hbn⟩; have kk := two_next (v := wc) (p := w.heap.size) (a := a) (b := b) (by assumption) (by assumption) (by assumption) hbn; go_split_ands; (first | (with_reducible (have k5 := k5_carry hbn k5)) | (with_reducible (have k5 := k5_new (v := wc) (by assumption) hbn)) | (with_reducible (have k5 := k5_newd (v := wc) (by assumption) hbn)) | skip); (first | (have f5 := sm_cells k5.1; go_split_ands) | skip))
          | (go_at_call 16; go_split_ands; (with_reducible refine (HI.out _).mono ?_); rintro e wn ⟨rfl, hbn⟩; have kk := two_next (v := wc) (p := w.heap.size) (a := a) (b := b) (by assumption) (by assumption) (by assumption) hbn; go_split_ands; (first | (with_reducible (have k5 := k5_carry hbn k5)) | (with_reducible (have k5 := k5_new (v := wc) (by assumption) hbn)) | (with_reducible (have k5 := k5_newd (v := wc) (by assumption) hbn)) | skip); (first | (have f5 := sm_cells k5.1; go_split_ands) | skip)))
      all_goals
        go_split_ands
        go_wp2_with fail
        go_meet
        refine ⟨_, rfl, rfl, Lib.hid ⟨?_, by with_reducible assumption⟩⟩
        first | (with_reducible exact k5_put k5 q) | (with_reducible exact heap_alloc_new _ (smO q))
    case rest =>
      obtain ⟨g2, rfl, rfl, hc⟩ := hcut
      have K1 := blk_bel K0.out hc.out.2
      obtain ⟨⟨c0, c1, c2, c3, c4⟩, -, hz⟩ := sm_cells K1
      obtain ⟨⟨d0, d1, d2, d3, d4⟩, -, hz'⟩ := sm_cells hc.out.1
      clear K1
      go_wp2_with fail
      refine Calls.mono (eqSummary_same _ _) ?_
      rintro e w5 ⟨rfl, hb5⟩
      have Hb5 := Lib.hid (HB.out.trans ((hc.out.2.trans (hb5.mono hc.out.2.size)).mono HB.out.size))
      clear hb5 c0 c1 c2 c3 c4 d0 d1 d2 d3 d4
      go_wp2
      go_ret
      exact ⟨rfl, Hb5.out⟩
theorem FnExactEither_came (cs ds : Array Value) (W : World) (h : Came Try.prog W 33 cs.toList) (g : Came Try.prog W 33 ds.toList) : Calls Try.prog 7 #[.agg cs, .agg ds] W fun e w' => e = .returned (.bool true) ∧ Below W.heap.size W w' := by
  obtain ⟨a, e⟩ := came_sm h
  obtain ⟨b, e'⟩ := came_sm g
  rw [e, e']
  exact FnExactEither_walk a b W
end Go.Proofs.Ythlbcjjfnmnpiaa
