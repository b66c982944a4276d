/- A drawn summary is a valid one. -/
import Derived.Test.YthlbcjjfnmnpiaaCst3
import Derived.Test.YthlbcjjfnmnpiaaAt
namespace Go.Proofs.Ythlbcjjfnmnpiaa
open Go.ChangeShapes Go.WideShapes Go.ChangeAt Go.RowKit
set_option linter.unusedVariables false
/-- The source, what has been drawn from it since w0. -/
def DZ (w0 : World) (B p : Nat) (w : World) (N : Nat) : Prop := Src w B p N ∧ w0.grownBy w (some p) ∧ p < w0.heap.size
theorem DZ.step {w0 w w' : World} {B p N M : Nat} (h : DZ w0 B p w N) (hS : Src w' B p M) (hg : w.grownBy w' (some p)) : DZ w0 B p w' M := ⟨hS, grown_tr h.2.1 hg, h.2.2⟩
theorem DZ.below {w0 w w' : World} {B p N : Nat} (h : DZ w0 B p w N) (hb : Below w.heap.size w w') : DZ w0 B p w' N := by
  have g : w.grownBy w' none := ⟨hb.os, hb.tape, hb.output, hb.size, fun k hk _ => hb.block k hk⟩
  exact ⟨h.1.grown g (by intro e; cases e) (by intro k e; cases e), grown_new h.2.1 g (by intro k e; cases e), h.2.2⟩
theorem DZ.alloc {w0 w : World} {B p N : Nat} (h : DZ w0 B p w N) (o : Obj) : DZ w0 B p (w.alloc o) N := h.below (sm_al w o)
theorem DZ.more {w0 w : World} {B p N M : Nat} (h : DZ w0 B p w N) (k : N ≤ M) : DZ w0 B p w M := ⟨h.1.more k, h.2⟩
theorem DZ.set {w0 w : World} {B p N b : Nat} (h : DZ w0 B p w N) (hb : w0.heap.size ≤ b) (i : Nat) (u : Value) : DZ w0 B p (w.setCell ⟨b, i, none⟩ u) N :=
  ⟨h.1.grown (grown_set w b i u) (by intro e; injection e with e; have := h.2.2; omega) (by intro k e; cases e; have := h.1.1; have := h.2.2; omega), grown_new h.2.1 (grown_set w b i u) (by intro k e; cases e; exact hb), h.2.2⟩
theorem DZ.set5 {w0 w : World} {B p N b : Nat} (h : DZ w0 B p w N) (hb : w0.heap.size ≤ b) (x : SM) : DZ w0 B p (set5 w b x) N := ((((h.set hb 0 _).set hb 1 _).set hb 2 _).set hb 3 _).set hb 4 _
/-- A block of the call's own is left as it is by a draw. -/
theorem blk_grown {w w' : World} {p b : Nat} {O : Obj} (hg : w.grownBy w' (some p)) (h : w.heap[b]? = some O) (hb : b ≠ p) : w'.heap[b]? = some O :=
  (hg.block b (Array.getElem?_eq_some_iff.1 h).1 (by intro e; injection e with e; exact hb e)).trans h
theorem blk_bel0 {w1 w2 : World} {k : Nat} {Q : Obj} (h : w1.heap[k]? = some Q) (g : Below w1.heap.size w1 w2) : w2.heap[k]? = some Q := (g.block _ (Array.getElem?_eq_some_iff.1 h).1).trans h
theorem next_dz {w0 : World} {B p N : Nat} (n : Int) (w : World) (h : DZ w0 B p w N) (hN : N ≤ 1000000) (h1 : 2 ≤ n) (h2 : n ≤ 1000000000) :
    Calls Try.prog 39 #[.pointer (some ⟨p, 0, none⟩), .int .i64 n] w fun e w' => ∃ v : Int, e = .returned (.int .i64 v) ∧ 0 ≤ v ∧ v ≤ n - 1 ∧ DZ w0 B p w' (N + 3) ∧ w.grownBy w' (some p) := by
  refine (next_any B p N n w h.1 (by omega) h1 h2).mono ?_
  rintro e w' ⟨v, rfl, v0, v1, hS, hg⟩
  exact ⟨v, rfl, v0, v1, h.step hS hg, hg⟩
theorem chance_dz {w0 : World} {B p N : Nat} (n : Int) (w : World) (h : DZ w0 B p w N) (hN : N ≤ 1000000) (h1 : 2 ≤ n) (h2 : n ≤ 1000000000) :
    Calls Try.prog 40 #[.pointer (some ⟨p, 0, none⟩), .int .i64 n] w fun e w' => ∃ q : Bool, e = .returned (.bool q) ∧ DZ w0 B p w' (N + 3) ∧ w.grownBy w' (some p) := by
  have H := Lib.hid h
  clear h
  go_enter Try.func40, Try.ntmps40
  go_wp2_with fail
  refine (next_dz n w H.out hN h1 h2).mono ?_
  rintro e w' ⟨v, rfl, v0, v1, hD, hg⟩
  have HD := Lib.hid (And.intro hD hg)
  clear hD hg
  go_wp2
  go_ret
  exact ⟨_, rfl, HD.out⟩
theorem cong_vi {a b : Int} (h : a = b) : Value.int .i64 a = Value.int .i64 b := by rw [h]
def SumPost (B p N : Nat) (w : World) (e : Ending) (w' : World) : Prop := ∃ s : SM, e = .returned (smV s) ∧ s.ok ∧ Src w' B p N ∧ w.grownBy w' (some p)
set_option maxHeartbeats 1000000 in
theorem summary_draw (B p N : Nat) (w : World) (hS : Src w B p N) (hN : N ≤ 100000) : Calls Try.prog 27 #[.pointer (some ⟨p, 0, none⟩)] w (SumPost B p (N + 100) w) := by
  have hp := hS.2.1
  have H0 := Lib.hid (DZ.alloc (w0 := w) ⟨hS, World.grownBy.refl w (some p), hp⟩ (smO sm0))
  have K0 := Lib.hid (heap_alloc_new w (smO sm0))
  clear hS
  go_enter Try.func27, Try.ntmps27
  go_wp2_with fail
  refine (next_dz 9 _ H0.out (by omega) (by omega) (by omega)).mono ?_
  rintro e w1 ⟨v, rfl, v0, v1, hD, hg⟩
  have H1 := Lib.hid hD
  have K1 := Lib.hid (blk_grown hg K0.out (by omega))
  clear hD hg
  go_wp2_with fail
  refine (chance_dz 3 _ H1.out (by omega) (by omega) (by omega)).mono ?_
  rintro e w2 ⟨q, rfl, hD, hg⟩
  have H2 := Lib.hid hD
  have K2 := Lib.hid (blk_grown hg K1.out (by omega))
  have OK1 := Lib.hid (one_ok (n := v) (by omega) q)
  clear hD hg
  go_wp2_with fail
  refine (l05One_any v q _).mono ?_
  rintro e w3 ⟨rfl, hb3⟩
  generalize one v q = a at *
  have H3 := Lib.hid ((H2.out.below hb3).alloc (smO a))
  have K3 := Lib.hid (bl_al (blk_bel0 K2.out hb3) (smO a))
  have L3 := Lib.hid (heap_alloc_new w3 (smO a))
  have hz3 : w.heap.size < w3.heap.size := (Array.getElem?_eq_some_iff.1 (blk_bel0 K2.out hb3)).1
  clear hb3 v0 v1
  go_wp2_with fail
  refine (next_dz 5 _ H3.out (by omega) (by omega) (by omega)).mono ?_
  rintro e w4 ⟨v, rfl, v0, v1, hD, hg⟩
  have H4 := Lib.hid hD
  have K4 := Lib.hid (blk_grown hg K3.out (by omega))
  have L4 := Lib.hid (blk_grown hg L3.out (by omega))
  clear hD hg
  obtain ⟨j0, rfl⟩ := Int.eq_ofNat_of_zero_le v0
  go_wp2
  go_loopw [4] (fun i wr => ∃ (j : Nat), j ≤ 4 ∧ i = .int .i64 j ∧ Hid (∃ (s : SM) (M : Nat), s.ok ∧ M + 9 * j ≤ N + 60 ∧ DZ w B p wr M ∧ wr.heap[w.heap.size]? = some (smO sm0) ∧ wr.heap[w3.heap.size]? = some (smO s))) (fun i _ => (intOf i).toNat)
  case atStart => exact ⟨j0, by omega, rfl, Lib.hid ⟨a, N + 3 + 3 + 3, OK1.out, by omega, H4.out, K4.out, L4.out⟩⟩
  case round =>
    obtain ⟨j, hj, rfl, hs⟩ := hrel
    obtain ⟨s, M, hok, hM, hD, hk, hl⟩ := hs.out
    have OK := Lib.hid hok
    have HD := Lib.hid hD
    have HK := Lib.hid hk
    have HL := Lib.hid hl
    clear hs hok hD hk hl
    by_cases hlt : 0 < j
    · go_wp2_with fail
      refine (next_dz 9 _ HD.out (by omega) (by omega) (by omega)).mono ?_
      rintro e x1 ⟨v, rfl, v0, v1, hD, hg⟩
      have G1 := Lib.hid hD
      have HK1 := Lib.hid (blk_grown hg HK.out (by omega))
      have HL1 := Lib.hid (blk_grown hg HL.out (by omega))
      clear hD hg
      go_wp2_with fail
      refine (chance_dz 3 _ G1.out (by omega) (by omega) (by omega)).mono ?_
      rintro e x2 ⟨q, rfl, hD, hg⟩
      have G2 := Lib.hid hD
      have HK2 := Lib.hid (blk_grown hg HK1.out (by omega))
      have HL2 := Lib.hid (blk_grown hg HL1.out (by omega))
      have OKb := Lib.hid (one_ok (n := v) (by omega) q)
      clear hD hg
      go_wp2_with fail
      refine (l05One_any v q _).mono ?_
      rintro e x3 ⟨rfl, hb3⟩
      generalize one v q = b at *
      have G3 := Lib.hid ((G2.out.below hb3).alloc (smO b))
      have HK3 := Lib.hid (bl_al (blk_bel0 HK2.out hb3) (smO b))
      have HL3 := Lib.hid (bl_al (blk_bel0 HL2.out hb3) (smO b))
      have HM3 := Lib.hid (heap_alloc_new x3 (smO b))
      have hx3 : w3.heap.size < x3.heap.size := (Array.getElem?_eq_some_iff.1 (blk_bel0 HL2.out hb3)).1
      clear hb3 v0 v1
      go_wp2_with fail
      refine (chance_dz 3 _ G3.out (by omega) (by omega) (by omega)).mono ?_
      rintro e x4 ⟨q2, rfl, hD, hg⟩
      have G4 := Lib.hid hD
      have HK4 := Lib.hid (blk_grown hg HK3.out (by omega))
      have HL4 := Lib.hid (blk_grown hg HL3.out (by omega))
      have HM4 := Lib.hid (blk_grown hg HM3.out (by omega))
      clear hD hg
      obtain ⟨⟨c0, c1, c2, c3, c4⟩, -, -⟩ := sm_cells HL4.out
      obtain ⟨⟨d0, d1, d2, d3, d4⟩, -, -⟩ := sm_cells HM4.out
      cases q2
      · go_wp2_with fail
        refine (l05Behind_any s b OK.out OKb.out _).mono ?_
        rintro e x5 ⟨rfl, hb5⟩
        have OKc := Lib.hid (beh_ok OK.out OKb.out)
        generalize beh s b = r at *
        have G5 := Lib.hid (G4.out.below hb5)
        have HK5 := Lib.hid (blk_bel0 HK4.out hb5)
        have HL5 := Lib.hid (blk_bel0 HL4.out hb5)
        clear hb5 c0 c1 c2 c3 c4 d0 d1 d2 d3 d4
        obtain ⟨⟨c0, c1, c2, c3, c4⟩, ⟨f0, f1, f2, f3, f4⟩, -⟩ := sm_cells HL5.out
        go_wp2
        have G6 := Lib.hid (G5.out.set5 (b := w3.heap.size) (by omega) r)
        have HK6 := Lib.hid (bl_set5 HK5.out w3.heap.size (by omega) r)
        have HL6 := Lib.hid (sm_put5 HL5.out r)
        clear c0 c1 c2 c3 c4 f0 f1 f2 f3 f4
        go_roundw
        case rel => exact ⟨j - 1, by omega, cong_vi (by omega), Lib.hid ⟨r, M + 3 + 3 + 3, OKc.out, by omega, G6.out, HK6.out, HL6.out⟩⟩
        case measure => simp [intOf]; omega
      · go_wp2_with fail
        refine (l05Either_any s b _).mono ?_
        rintro e x5 ⟨rfl, hb5⟩
        have OKc := Lib.hid (eith_ok OK.out OKb.out)
        generalize eith s b = r at *
        have G5 := Lib.hid (G4.out.below hb5)
        have HK5 := Lib.hid (blk_bel0 HK4.out hb5)
        have HL5 := Lib.hid (blk_bel0 HL4.out hb5)
        clear hb5 c0 c1 c2 c3 c4 d0 d1 d2 d3 d4
        obtain ⟨⟨c0, c1, c2, c3, c4⟩, ⟨f0, f1, f2, f3, f4⟩, -⟩ := sm_cells HL5.out
        go_wp2
        have G6 := Lib.hid (G5.out.set5 (b := w3.heap.size) (by omega) r)
        have HK6 := Lib.hid (bl_set5 HK5.out w3.heap.size (by omega) r)
        have HL6 := Lib.hid (sm_put5 HL5.out r)
        clear c0 c1 c2 c3 c4 f0 f1 f2 f3 f4
        go_roundw
        case rel => exact ⟨j - 1, by omega, cong_vi (by omega), Lib.hid ⟨r, M + 3 + 3 + 3, OKc.out, by omega, G6.out, HK6.out, HL6.out⟩⟩
        case measure => simp [intOf]; omega
    · obtain rfl : j = 0 := by omega
      obtain ⟨⟨c0, c1, c2, c3, c4⟩, -, -⟩ := sm_cells HL.out
      obtain ⟨⟨d0, d1, d2, d3, d4⟩, ⟨f0, f1, f2, f3, f4⟩, -⟩ := sm_cells HK.out
      go_wp2
      refine bodyPost_ret (v := smV s) (by simp [results, Try.results27, go_sem, d0, d1, d2, d3, d4]) rfl ?_
      have h5 := HD.out.set5 (Nat.le_refl _) s
      exact ⟨s, rfl, OK.out, h5.1.more (by omega), h5.2.1⟩
end Go.Proofs.Ythlbcjjfnmnpiaa
