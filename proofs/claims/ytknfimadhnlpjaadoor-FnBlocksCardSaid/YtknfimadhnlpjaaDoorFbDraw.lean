/- Function blocks that are drawn are valid. -/
import Derived.Test.YtknfimadhnlpjaaDoorFbLaw
import Derived.Test.YtknfimadhnlpjaaDoorFbText
import Derived.Test.YtknfimadhnlpjaaDoorAt
import Derived.LoopTactic
import Derived.Deep.RegionWith
import Derived.Deep.RegionHeld3
namespace Go.Proofs.YtknfimadhnlpjaaDoor
open Go.ChangeShapes Go.WideShapes Go.ChangeAt Go.RowKit
/-- The source, what has been drawn from it, and a block of the call's own. -/
def DS (w0 : World) (B p b : Nat) (O : Obj) (w : World) (N : Nat) : Prop := Src w B p N ∧ w0.grownBy w (some p) ∧ w.heap[b]? = some O ∧ w0.heap.size ≤ b ∧ p < w0.heap.size
theorem DS.lt {w0 w : World} {B p b N : Nat} {O : Obj} (h : DS w0 B p b O w N) : b < w.heap.size := by
  rcases Nat.lt_or_ge b w.heap.size with h' | h'
  · exact h'
  · have := h.2.2.1; rw [Array.getElem?_eq_none h'] at this; cases this
theorem DS.step {w0 w w' : World} {B p b N M : Nat} {O : Obj} (h : DS w0 B p b O w N) (hS : Src w' B p M) (hg : w.grownBy w' (some p)) : DS w0 B p b O w' M :=
  ⟨hS, grown_tr h.2.1 hg, (hg.block b h.lt (by intro e; injection e with e; have := h.2.2.2.1; have := h.2.2.2.2; omega)).trans h.2.2.1, h.2.2.2⟩
theorem DS.below {w0 w w' : World} {B p b N : Nat} {O : Obj} (h : DS w0 B p b O w N) (hb : Below w.heap.size w w') : DS w0 B p b O w' N := by
  have g : w.grownBy w' none := ⟨hb.os, hb.tape, hb.output, hb.size, fun k hk _ => hb.block k hk⟩
  exact ⟨h.1.grown g (by intro e; cases e) (by intro k e; cases e), grown_new h.2.1 g (by intro k e; cases e), (hb.block b h.lt).trans h.2.2.1, h.2.2.2⟩
theorem DS.alloc {w0 w : World} {B p b N : Nat} {O : Obj} (h : DS w0 B p b O w N) (o : Obj) : DS w0 B p b O (w.alloc o) N := h.below ((Below.refl w.heap.size w).alloc (Nat.le_refl _) o)
theorem DS.drewN {w0 w : World} {B p b N : Nat} {O : Obj} (h : DS w0 B p b O w N) (q : Nat) : DS w0 B p b O (w.drewN q) N := h.below (fb_dn (Below.refl _ _) q)
theorem DS.more {w0 w : World} {B p b N M : Nat} {O : Obj} (h : DS w0 B p b O w N) (k : N ≤ M) : DS w0 B p b O w M := ⟨h.1.more k, h.2⟩
theorem DS.set4 {w0 w : World} {B p b N : Nat} {x0 x1 x2 x3 : Value} (y0 y1 y2 y3 : Value) {t : TypeId} (h : DS w0 B p b (.cells #[x0, x1, x2, x3] t (0, 0)) w N) :
    DS w0 B p b (.cells #[y0, y1, y2, y3] t (0, 0)) ((((w.setCell ⟨b, 0, none⟩ y0).setCell ⟨b, 1, none⟩ y1).setCell ⟨b, 2, none⟩ y2).setCell ⟨b, 3, none⟩ y3) N := by
  obtain ⟨h1, h2, h3, h4, h5⟩ := h
  have hne : some p ≠ some b := by intro e; injection e with e; omega
  have hB : ∀ k, some b = some k → B ≤ k := by intro k e; cases e; have := h1.1; omega
  have hw : ∀ k, some b = some k → w0.heap.size ≤ k := by intro k e; cases e; exact h4
  have s0 := h1.grown (fb_grown w b 0 y0) hne hB
  have s1 := s0.grown (fb_grown _ b 1 y1) hne hB
  have s2 := s1.grown (fb_grown _ b 2 y2) hne hB
  have s3 := s2.grown (fb_grown _ b 3 y3) hne hB
  exact ⟨s3, grown_new (grown_new (grown_new (grown_new h2 (fb_grown w b 0 y0) hw) (fb_grown _ b 1 y1) hw) (fb_grown _ b 2 y2) hw) (fb_grown _ b 3 y3) hw, fb_set (fb_set (fb_set (fb_set h3 0 y0) 1 y1) 2 y2) 3 y3, h4, h5⟩
theorem DS.plt {w0 w : World} {B p b N : Nat} {O : Obj} (h : DS w0 B p b O w N) : p < w.heap.size := Nat.lt_of_lt_of_le h.2.2.2.2 h.2.1.size
theorem DS.pz {w0 w : World} {B p b N : Nat} {O : Obj} (h : DS w0 B p b O w N) : p < w.heap.size ∧ w0.heap.size ≤ w.heap.size := ⟨h.plt, h.2.1.size⟩
/-- A block of zeros that the call made on its way. -/
def K5 (z p q : Nat) (w : World) : Prop := w.heap[q]? = some (fbO 0 false 0 0) ∧ p < q ∧ z ≤ q
theorem fb_new {w w' : World} {p z : Nat} (hg : (w.alloc (fbO 0 false 0 0)).grownBy w' (some p)) (h : p < w.heap.size ∧ z ≤ w.heap.size) : K5 z p w.heap.size w' :=
  ⟨(hg.block w.heap.size (by simp) (by intro e; injection e with e; omega)).trans (heap_alloc_new w _), h⟩
theorem fb_newd {w w' : World} {p z : Nat} (hg : (w.alloc (fbO 0 false 0 0)).drew.grownBy w' (some p)) (h : p < w.heap.size ∧ z ≤ w.heap.size) : K5 z p w.heap.size w' :=
  ⟨(hg.block w.heap.size (by show w.heap.size < (w.alloc (fbO 0 false 0 0)).heap.size; simp) (by intro e; injection e with e; omega)).trans (heap_alloc_new w (fbO 0 false 0 0)), h⟩
theorem fb_carry {w w' : World} {p q z : Nat} (hg : w.grownBy w' (some p)) (h : K5 z p q w) : K5 z p q w' := by
  have hq : q < w.heap.size := by
    rcases Nat.lt_or_ge q w.heap.size with h' | h'
    · exact h'
    · have := h.1; rw [Array.getElem?_eq_none h'] at this; cases this
  exact ⟨(hg.block q hq (by intro e; injection e with e; have := h.2.1; omega)).trans h.1, h.2⟩
theorem DS.setq {w0 w : World} {B p b q N i : Nat} {O : Obj} {u : Value} (h : DS w0 B p b O w N) (hp : p < q) (hz : w0.heap.size ≤ q) (hb : ¬ q = b) : DS w0 B p b O (w.setCell ⟨q, i, none⟩ u) N := by
  obtain ⟨h1, h2, h3, h4, h5⟩ := h
  exact ⟨h1.grown (fb_grown w q i u) (by intro e; injection e; omega) (by intro k e; cases e; have := h1.1; omega), grown_new h2 (fb_grown w q i u) (by intro k e; cases e; exact hz),
    (heap_setCell_other w ⟨q, i, none⟩ b u (fun e => hb e.symm)).trans h3, h4, h5⟩
theorem DS.setq4 {w0 w : World} {B p b q N : Nat} {O : Obj} {x0 x1 x2 x3 : Value} (h : DS w0 B p b O w N) (k : K5 w0.heap.size p q w) (hb : ¬ q = b) :
    DS w0 B p b O ((((w.setCell ⟨q, 0, none⟩ x0).setCell ⟨q, 1, none⟩ x1).setCell ⟨q, 2, none⟩ x2).setCell ⟨q, 3, none⟩ x3) N :=
  (((h.setq k.2.1 k.2.2 hb).setq k.2.1 k.2.2 hb).setq k.2.1 k.2.2 hb).setq k.2.1 k.2.2 hb
theorem fb_vi {a b : Int} (h : a = b) : Value.int .i64 a = Value.int .i64 b := by rw [h]
theorem next_ds {w0 : World} {B p b N : Nat} {O : Obj} (n : Int) (w : World) (h : DS w0 B p b O w N) (hN : N ≤ 1000000) (h1 : 2 ≤ n) (h2 : n ≤ 1000000000) :
    Calls Tryd.prog 40 #[.pointer (some ⟨p, 0, none⟩), .int .i64 n] w fun e w' => ∃ v : Int, e = .returned (.int .i64 v) ∧ 0 ≤ v ∧ v ≤ n - 1 ∧ DS w0 B p b O w' (N + 3) ∧ w.grownBy w' (some p) := by
  refine (next_any B p N n w h.1 (by omega) h1 h2).mono ?_
  rintro e w' ⟨v, rfl, v0, v1, hS, hg⟩
  exact ⟨v, rfl, v0, v1, h.step hS hg, hg⟩
theorem chance_ds {w0 : World} {B p b N : Nat} {O : Obj} (n : Int) (w : World) (h : DS w0 B p b O w N) (hN : N ≤ 1000000) (h1 : 2 ≤ n) (h2 : n ≤ 1000000000) :
    Calls Tryd.prog 41 #[.pointer (some ⟨p, 0, none⟩), .int .i64 n] w fun e w' => ∃ q : Bool, e = .returned (.bool q) ∧ DS w0 B p b O w' (N + 3) ∧ w.grownBy w' (some p) := by
  have H := Lib.hid h
  clear h
  go_enter Tryd.func41, Tryd.ntmps41
  go_wp2_with fail
  refine (next_ds n w H.out hN h1 h2).mono ?_
  rintro e w' ⟨v, rfl, v0, v1, hD, hg⟩
  have HD := Lib.hid (And.intro hD hg)
  clear hD hg
  go_wp2
  go_ret
  exact ⟨_, rfl, HD.out⟩
theorem stepV_ok {k : Int} {o : Bool} {s c : Int} {a b : Bool} {n now : Int} (h : fbOKB k o s c = true) (hw : 0 ≤ now ∧ now ≤ 2147483647) (hn : n ≤ 2147483647) :
    fbOKB (stepV k o s c a b n now).1.1 (stepV k o s c a b n now).1.2.1 (stepV k o s c a b n now).1.2.2.1 (stepV k o s c a b n now).1.2.2.2 = true := by
  rcases fb_kinds h with ⟨rfl, hs, hc⟩ | ⟨rfl, rfl, hc⟩ | ⟨rfl, rfl, rfl⟩ | ⟨rfl, rfl, rfl⟩
  · show fbOKB 1 a (tmS o a s now) (tmC o a s n now) = true
    rw [fbOK_1]
    cases a <;> cases o <;> simp [tmS, tmC, fbIn] <;> omega
  · show fbOKB 2 a 0 (ctC o a b c) = true
    rw [fbOK_2]
    cases a <;> cases o <;> cases b <;> simp [ctC, fbIn] <;> omega
  · rfl
  · rfl
/-- A step at arguments that were drawn. -/
theorem step_ds {w0 : World} {B p b N : Nat} {O : Obj} (k : Int) (o : Bool) (s c : Int) (x y : Bool) (n now : Int) (w : World) (h : DS w0 B p b O w N) (hv : fbOKB k o s c = true) (hn : 0 ≤ n ∧ n ≤ 19) (hw : 0 ≤ now ∧ now ≤ 49) :
    Calls Tryd.prog 38 #[fbE k o s c, .bool x, .bool y, .int .i64 n, .int .i64 now] w fun e w' => ∃ (k' : Int) (o' : Bool) (s' c' : Int) (q : Bool), e = .returned (.tuple #[fbE k' o' s' c', .bool q]) ∧ fbOKB k' o' s' c' = true ∧ DS w0 B p b O w' N ∧ w.grownBy w' (some p) := by
  refine (l03Step_any k o s c x y n now hv (by omega) (by omega) w).mono ?_
  rintro e w' ⟨rfl, hb⟩
  exact ⟨_, _, _, _, _, rfl, stepV_ok hv (by omega) (by omega), h.below hb, ⟨hb.os, hb.tape, hb.output, hb.size, fun k hk _ => hb.block k hk⟩⟩
theorem src_set1 {w wr : World} {B p q M i : Nat} {u : Value} (h : Src wr B p M ∧ w.grownBy wr (some p)) (hq : w.heap.size ≤ q) (hp : p < w.heap.size) : Src (wr.setCell ⟨q, i, none⟩ u) B p M ∧ w.grownBy (wr.setCell ⟨q, i, none⟩ u) (some p) :=
  ⟨h.1.grown (fb_grown wr q i u) (by intro e; injection e; omega) (by intro k e; cases e; have := h.1.1; omega), grown_new h.2 (fb_grown wr q i u) (by intro k e; cases e; exact hq)⟩
def FbPost (B p N : Nat) (w : World) (e : Ending) (w' : World) : Prop :=
  ∃ (k : Int) (o : Bool) (s c : Int), e = .returned (fbE k o s c) ∧ fbOKB k o s c = true ∧ Src w' B p N ∧ w.grownBy w' (some p)
set_option maxHeartbeats 2000000 in
theorem fb_draw (B p N : Nat) (w : World) (hS : Src w B p N) (hN : N ≤ 100000) :
    Calls Tryd.prog 31 #[.pointer (some ⟨p, 0, none⟩)] w (FbPost B p (N + 100) w) := by
  have hp := hS.2.1
  have hS0 := hS.alloc (fbO 0 false 0 0)
  have g0 := World.grownBy_alloc w (fbO 0 false 0 0) (some p)
  have K0 := Lib.hid (heap_alloc_new w (fbO 0 false 0 0))
  have hp0 : p < (w.alloc (fbO 0 false 0 0)).heap.size := by simp; omega
  have hz0 : w.heap.size < (w.alloc (fbO 0 false 0 0)).heap.size := by simp
  have HS0 := Lib.hid hS0
  have G0 := Lib.hid g0
  clear hS hS0 g0
  go_enter Tryd.func31, Tryd.ntmps31
  go_wp2_with fail
  generalize w.alloc (fbO 0 false 0 0) = w0 at *
  refine (next_any B p N 4 w0 HS0.out (by omega) (by omega) (by omega)).mono ?_
  rintro e w1 ⟨v, rfl, v0, v1, hS1, hg1⟩
  have hsz := hg1.size
  have H1 := Lib.hid (show DS w0 B p w1.heap.size (fbO (1 + v) false 0 0) (w1.alloc (fbO (1 + v) false 0 0)) (N + 3) from ⟨hS1.alloc _, grown_new hg1 (World.grownBy_alloc w1 _ none) (by intro k e; cases e), heap_alloc_new w1 _, by omega, hp0⟩)
  have hk : fbOKB (1 + v) false 0 0 = true := by
    have : v = 0 ∨ v = 1 ∨ v = 2 ∨ v = 3 := by omega
    rcases this with rfl | rfl | rfl | rfl <;> rfl
  have HK := Lib.hid hk
  clear hS1 hg1 hk
  go_wp2_with fail
  refine (next_ds 4 _ H1.out (by omega) (by omega) (by omega)).mono ?_
  rintro e w2 ⟨u, rfl, u0, u1, hD2, _⟩
  have Hi : Hid (∃ (k : Int) (o : Bool) (s c : Int) (M : Nat), fbOKB k o s c = true ∧ M + 12 * u.toNat ≤ N + 60 ∧ DS w0 B p w1.heap.size (fbO k o s c) w2 M) := Lib.hid ⟨1 + v, false, 0, 0, N + 3 + 3, HK.out, by omega, hD2⟩
  clear hD2 H1 HK
  obtain ⟨j, rfl⟩ := Int.eq_ofNat_of_zero_le u0
  rw [Int.toNat_natCast] at Hi
  generalize hb : w1.heap.size = b at *
  clear hb hsz
  go_wp2
  go_loopw [4] (fun i wr => ∃ j : Nat, j ≤ 3 ∧ i = .int .i64 j ∧ Hid (∃ (k : Int) (o : Bool) (s c : Int) (M : Nat), fbOKB k o s c = true ∧ M + 12 * j ≤ N + 60 ∧ DS w0 B p b (fbO k o s c) wr M)) (fun i _ => (intOf i).toNat)
  case atStart => exact ⟨j, by omega, rfl, Hi⟩
  case round =>
    obtain ⟨j, hj, rfl, ht⟩ := hrel
    obtain ⟨k, o, s, c, M, hok, hM, hD⟩ := ht.out
    have HOK := Lib.hid hok
    clear hok ht
    by_cases hlt : 0 < j
    · have HD := Lib.hid hD
      have hDd := hD.drewN 1
      obtain ⟨c0, c1, c2, c3⟩ := fb_cells hD.2.2.1
      clear hD
      go_wp2
      have hq : DS w0 B p b (fbO k o s c) wr.drew M := hDd
      have hq2 : ∀ O', DS w0 B p b (fbO k o s c) (wr.alloc O').drew M := fun O' => (HD.out.alloc O').drewN 1
      have hpr := HD.out.pz
      have hbr : b < wr.heap.size := HD.out.lt
      have hnr1 : ¬ wr.heap.size = b := Nat.ne_of_gt hbr
      have hnr2 : ¬ b = wr.heap.size := Nat.ne_of_lt hbr
      clear hDd
      go_region_held3 (fun w' => w'.cell? ⟨b, 0, none⟩ = some (.int .i64 k) ∧ w'.cell? ⟨b, 1, none⟩ = some (.bool o) ∧ w'.cell? ⟨b, 2, none⟩ = some (.int .i64 s) ∧ w'.cell? ⟨b, 3, none⟩ = some (.int .i64 c))
        (first
          | (go_split_ands; refine ⟨?_, ?_, ?_, ?_⟩ <;> with_reducible assumption)
          | go_keep)
        (first
          | (go_at_call 41; (with_reducible refine (chance_ds _ _ (by first | assumption | exact DS.alloc (by assumption) _ | exact hq2 _) (by omega) (by omega) (by omega)).mono ?_); rintro e wn ⟨qn, rfl, hDn, hgn⟩; have hbn : b < wn.heap.size := hDn.lt; have hne1 : ¬ wn.heap.size = b := Nat.ne_of_gt hbn; have hne2 : ¬ b = wn.heap.size := Nat.ne_of_lt hbn; obtain ⟨e0, e1, e2, e3⟩ := fb_cells hDn.2.2.1; (first | (with_reducible (have k5 := fb_carry hgn k5)) | (with_reducible (have k5 := fb_new hgn (DS.pz (by assumption)))) | (with_reducible (have k5 := fb_newd hgn hpr)) | skip))
          | (go_at_call 40; (with_reducible refine (next_ds _ _ (by first | assumption | exact DS.alloc (by assumption) _ | exact hq2 _) (by omega) (by omega) (by omega)).mono ?_); rintro e wn ⟨vn, rfl, vn0, vn1, hDn, hgn⟩; have hbn : b < wn.heap.size := hDn.lt; have hne1 : ¬ wn.heap.size = b := Nat.ne_of_gt hbn; have hne2 : ¬ b = wn.heap.size := Nat.ne_of_lt hbn; obtain ⟨e0, e1, e2, e3⟩ := fb_cells hDn.2.2.1; (first | (with_reducible (have k5 := fb_carry hgn k5)) | (with_reducible (have k5 := fb_new hgn (DS.pz (by assumption)))) | (with_reducible (have k5 := fb_newd hgn hpr)) | skip))
          | (go_at_call 38; have hx := fun W' (hD' : DS w0 B p b (fbO k o s c) W' (M + 3 + 3 + 3 + 3)) x y n now (h1 : 0 ≤ n ∧ n ≤ 19) (h2 : 0 ≤ now ∧ now ≤ 49) => step_ds k o s c x y n now W' hD' HOK.out h1 h2; (with_reducible refine (hx _ (by first | assumption | exact DS.alloc (by assumption) _ | exact hq2 _) _ _ _ _ ⟨by omega, by omega⟩ ⟨by omega, by omega⟩).mono ?_); clear hx; rintro e wz ⟨k', o', s', c', qn, rfl, hok', hDz, hgz⟩; have hbz : b < wz.heap.size := hDz.lt; have hne1 : ¬ wz.heap.size = b := Nat.ne_of_gt hbz; have hne2 : ¬ b = wz.heap.size := Nat.ne_of_lt hbz; obtain ⟨e0, e1, e2, e3⟩ := fb_cells hDz.2.2.1; obtain ⟨gb0, gb1, gb2, gb3⟩ := fb_blk hDz.2.2.1; (first | (with_reducible (have k5 := fb_carry hgz k5)) | (with_reducible (have k5 := fb_new hgz (DS.pz (by assumption)))) | (with_reducible (have k5 := fb_newd hgz hpr)) | skip); (first | (have f5 := And.intro (fb_cells k5.1) (fb_blk k5.1); obtain ⟨⟨f0, f1, f2, f3⟩, g0, g1, g2, g3⟩ := f5) | skip)))
      all_goals
        have HOK' := Lib.hid hok'
        have HDz := Lib.hid hDz
        clear hok' hDz
        go_wp2
        go_roundw
        case rel =>
          refine ⟨j - 1, by omega, fb_vi (by omega), Lib.hid ⟨k', o', s', c', M + 3 + 3 + 3 + 3, HOK'.out, by omega, ?_⟩⟩
          first
            | (with_reducible exact (HDz.out.set4 _ _ _ _).alloc _)
            | (with_reducible exact (HDz.out.setq4 k5 (by assumption)).set4 _ _ _ _)
        case measure => simp [intOf]; omega
    · obtain rfl : j = 0 := by omega
      have HD := Lib.hid hD
      obtain ⟨c0, c1, c2, c3⟩ := fb_cells hD.2.2.1
      have k2 := (hD.2.1.block w.heap.size hz0 (by intro e; injection e; omega)).trans K0.out
      obtain ⟨d0, d1, d2, d3⟩ := fb_cells k2
      obtain ⟨g0, g1, g2, g3⟩ := fb_blk k2
      clear hD k2
      go_wp2
      refine bodyPost_ret (v := fbE k o s c) (by simp [results, Tryd.results31, go_sem, d0, d1, d2, d3]) rfl ⟨k, o, s, c, rfl, HOK.out, ?_⟩
      have h4 := src_set1 (i := 3) (u := .int .i64 c) (src_set1 (i := 2) (u := .int .i64 s) (src_set1 (i := 1) (u := .bool o) (src_set1 (i := 0) (u := .int .i64 k) ⟨HD.out.1.more (show M ≤ N + 100 by omega), grown_tr G0.out HD.out.2.1⟩ (Nat.le_refl _) hp) (Nat.le_refl _) hp) (Nat.le_refl _) hp) (Nat.le_refl _) hp
      exact h4
theorem fbDrawn_any (a : Option Addr) (n c : Nat) (w : World) (h : Bytes0 w w.heap.size a n) :
    Calls Tryd.prog 16 #[.slice a n c] w fun e w' => ∃ (k : Int) (o : Bool) (s c : Int), e = .returned (fbE k o s c) ∧ fbOKB k o s c = true ∧ Below w.heap.size w w' := by
  have b0 : Below w.heap.size w (w.alloc (fbO 0 false 0 0)) := (Below.refl w.heap.size w).alloc (Nat.le_refl _) _
  have HB0 := Lib.hid b0
  have hb : Bytes0 (w.alloc (fbO 0 false 0 0)) (w.alloc (fbO 0 false 0 0)).heap.size a n := ⟨h.1, fun hn => by
    obtain ⟨x, e, hx, hc⟩ := h.2 hn
    refine ⟨x, e, by simp; omega, fun i hi => ?_⟩
    obtain ⟨z, z0, z1, hz⟩ := hc i hi
    exact ⟨z, z0, z1, (b0.cell (by rw [add_block]; exact hx)).trans hz⟩⟩
  have HB := Lib.hid hb
  clear b0 hb h
  go_enter Tryd.func16, Tryd.ntmps16
  go_wp2_with fail
  refine (source_any a n c _ HB.out).mono ?_
  rintro e w1 ⟨rfl, hS, hb1⟩
  have hsz : (w.alloc (fbO 0 false 0 0)).heap.size = w.heap.size + 1 := by simp
  rw [hsz] at hS hb1
  have H1 := Lib.hid hS
  have B1 := Lib.hid hb1
  clear hS hb1 hsz
  go_wp2_with fail
  refine (fb_draw _ _ 0 _ H1.out (by omega)).mono ?_
  rintro e w2 ⟨k, o, s, c, rfl, hok, hS2, hg2⟩
  have B2 := Lib.hid (B1.out.grown hg2 (by have := B1.out.size; simpa using this) (by intro k hk; cases hk; exact Nat.le_refl _))
  have B2 : Hid (Below (w.alloc (fbO 0 false 0 0)).heap.size (w.alloc (fbO 0 false 0 0)) w2) := Lib.hid (B2.out.mono (by simp))
  have HOK := Lib.hid hok
  have k2 := (B2.out.block w.heap.size (by simp)).trans (heap_alloc_new w _)
  have hz2 : w.heap.size < w2.heap.size := by have := B2.out.size; simp at this; omega
  have B3 := Lib.hid (HB0.out.trans (B2.out.mono HB0.out.size))
  obtain ⟨d0, d1, d2, d3⟩ := fb_cells k2
  obtain ⟨g0, g1, g2, g3⟩ := fb_blk k2
  clear hok hS2 hg2 k2
  go_wp2
  refine bodyPost_ret (v := fbE k o s c) (by simp [results, Tryd.results16, go_sem, d0, d1, d2, d3]) rfl ⟨k, o, s, c, rfl, HOK.out, ?_⟩
  exact fb_b4 B3.out (Nat.le_refl _)
end Go.Proofs.YtknfimadhnlpjaaDoor
