/- impl's ring of integers, count, bit. -/
import Derived.Test.YtgbnoaclklbjbaaEvP
import Derived.Laws.CopyOwn
import Derived.Deep.DeepCutAuto

namespace Go.Proofs.Ytgbnoaclklbjbaa
open Go.ChangeShapes Go.WideShapes Go.ChangeAt Go.RowKit
set_option linter.unusedVariables false
/-- The ring at g over the row at rb: m places, the first at f, what waits is q. -/
structure Rg (B g rb m f : Nat) (q : List Int) (w : World) : Prop where
  box : w.heap[g]? = some (.cells #[.slice (some ⟨rb, 0, none⟩) m m, .int .i64 f, .int .i64 q.length] 87)
  row : ∃ ys : List Value, w.ownsRow B 3 1 (.slice (some ⟨rb, 0, none⟩) m m) m ys ∧ ∀ i, i < q.length → ys[f + i]? = some (.int .i64 (q.getD i 0))
  fit : f + q.length ≤ m
theorem Rg.bel {B g rb m f : Nat} {q : List Int} {w w' : World} (h : Rg B g rb m f q w) (hb : Below w.heap.size w w') : Rg B g rb m f q w' := by
  obtain ⟨ys, ho, hy⟩ := h.row
  exact ⟨blk_bel h.box hb, ⟨ys, own_bl ho hb, hy⟩, h.fit⟩
theorem Rg.at {B g rb m f : Nat} {q : List Int} {w : World} (h : Rg B g rb m f q w) {i : Nat} (hi : i < q.length) : w.cell? ⟨rb, f + i, none⟩ = some (.int .i64 (q.getD i 0)) := by
  obtain ⟨ys, ho, hy⟩ := h.row
  have := h.fit
  exact (ho.cellAt (f + i) (by omega)).trans (hy i hi)
theorem Rg.there {B g rb m f : Nat} {q : List Int} {w : World} (h : Rg B g rb m f q w) {i : Nat} (hi : i < m) : ∃ v, w.cell? ⟨rb, i, none⟩ = some v := by
  obtain ⟨ys, ho, hy⟩ := h.row
  have hl := ho.1
  exact ⟨_, (ho.cellAt i (by omega)).trans (List.getElem?_eq_getElem (by omega))⟩
theorem Rg.free {B g rb m f : Nat} {q : List Int} {w : World} (h : Rg B g rb m f q w) (i : Nat) : w.frozen? ⟨rb, i, none⟩ = false := by
  obtain ⟨ys, ho, _⟩ := h.row
  exact ho.frozenAt i
theorem Rg.ne {B g rb m f : Nat} {q : List Int} {w : World} (h : Rg B g rb m f q w) : rb ≠ g := by
  obtain ⟨ys, ho, _⟩ := h.row
  exact fun e => own_ne ho h.box (by decide) (by rw [← e]; rfl)
theorem ev_mod (f i m : Nat) (h : f + i < m) : Int.tmod ((f : Int) + i) m = (f : Int) + i := Int.tmod_eq_of_lt (by omega) (by omega)
theorem place_any (B g rb m f i : Nat) (q : List Int) (hi : f + i < m) (hm : m ≤ 4) (w : World) (h : Rg B g rb m f q w) :
    Calls Try.prog 67 #[.pointer (some ⟨g, 0, none⟩), .int .i64 i] w fun e w' => e = .returned (.pointer (some ⟨rb, f + i, none⟩)) ∧ ∃ k, w' = w.drewN k := by
  have c0 := cell_of_row w g 0 _ _ _ h.box
  have c1 := cell_of_row w g 1 _ _ _ h.box
  have e1 : IntKind.i64.wrap ((f : Int) + i) = (f : Int) + i := IntWalk.i64_in _ (by omega)
  have e2 := ev_mod f i m hi
  have e3 : (0 : Int) ≤ (f : Int) + i := by omega
  have e4 : (f : Int) + i < m := by omega
  have e5 : ((f : Int) + i).toNat = f + i := by omega
  have e6 : ¬ ((m : Int) = 0) := by omega
  have e7 : ((m : Int) == 0) = false := by simpa using e6
  clear h
  go_enter Try.func67, Try.ntmps67
  go_wp2_with fail
  go_quiet (fail)
  go_wp2
  go_ret
  exact ⟨rfl, _, rfl⟩
theorem Rg.lt {B g rb m f : Nat} {q : List Int} {w : World} (h : Rg B g rb m f q w) : g < w.heap.size := (Array.getElem?_eq_some_iff.1 h.box).1
theorem Rg.dn {B g rb m f : Nat} {q : List Int} {w : World} (h : Rg B g rb m f q w) (k : Nat) : Rg B g rb m f q (w.drewN k) := ⟨h.box, h.row, h.fit⟩
theorem own_full {w : World} {B g n : Nat} {e : TypeId} {xs : List Value} (h : w.ownsRow B e 1 (.slice (some ⟨g, 0, none⟩) n n) n xs) : w.heap[g]? = some (.cells xs.toArray e (0, 0)) ∧ B ≤ g ∧ xs.length = n := by
  have hl := h.1
  rcases h.2 with ⟨h0, _⟩ | ⟨g', cap, cur, e1, hb, hg, _, _, hs, ht⟩
  · cases h0
  · simp only [Value.slice.injEq, Option.some.injEq, Addr.mk.injEq, and_true, true_and] at e1
    obtain ⟨rfl, rfl⟩ := e1
    have : cur.toList = xs := by rw [← ht, List.take_of_length_le (by simp [hs])]
    exact ⟨by rw [hg, ← this], hb, by omega⟩
theorem own_of {w : World} {B g n : Nat} {e : TypeId} {xs : List Value} (h : w.heap[g]? = some (.cells xs.toArray e (0, 0))) (hb : B ≤ g) (hl : xs.length = n) (hm : n ≤ maxLen) : w.ownsRow B e 1 (.slice (some ⟨g, 0, none⟩) n n) n xs :=
  ⟨by omega, .inr ⟨g, n, xs.toArray, rfl, hb, h, Nat.le_refl _, hm, by simp [hl], by simp [← hl]⟩⟩
theorem splice_at {L cs : List Value} {i : Nat} (hi : i < cs.length) : (splice L 0 cs)[i]? = cs[i]? := by
  simp [splice, List.getElem?_append_left hi]
theorem run_copy_gr {P : Program} {w : World} (dT sT ty elem : TypeId) (hu : P.underlying dT = some (.slice elem)) (hsz : (P.info? elem).map (·.size) = some 1)
    (dp sp : Option Addr) (dLen dCap sLen sCap : Nat)
    (g off : Nat) (cur : List Value) (t : TypeId) (hg : w.heap[g]? = some (.cells cur.toArray t (0, 0))) (cs : List Value) (hn : cs.length = Nat.min sLen dLen)
    (hpos : 0 < cs.length → dp = some ⟨g, off, none⟩ ∧ ∃ ad, sp = some ad ∧ ∀ j v, cs[j]? = some v → w.cell? (ad.add j) = some v)
    (hfit : off + cs.length ≤ cur.length) (h1 : ∀ v ∈ cs, v.oneCell' = true) :
    ∃ w', (Builtin.copy_ #[dT, sT] ty #[.slice dp dLen dCap, .slice sp sLen sCap]).run P w = .ok (goInt cs.length) w' ∧ w'.heap[g]? = some (.cells (splice cur off cs).toArray t (0, 0)) ∧ w.grownBy w' (some g) := by
  by_cases h0 : cs.length = 0
  · obtain rfl : cs = [] := List.eq_nil_of_length_eq_zero h0
    exact ⟨w, run_copy_none (P := P) w dT sT ty elem dp sp dLen dCap sLen sCap hu hsz (by simpa using hn.symm), by simpa [splice] using hg, World.grownBy.refl _ _⟩
  · obtain ⟨rfl, ad, rfl, hsrc⟩ := hpos (by omega)
    exact ⟨_, run_copy_row (P := P) w dT sT ty elem g off dLen dCap ad sLen sCap cur.toArray t cs hu hsz hg hn hsrc (by simpa using hfit) h1, by simpa [splice] using setRow_heap w g _ _ t _ hg, ⟨rfl, rfl, rfl, by simp [World.setRow], fun k hk hr => setRow_other w g k _ (fun e => hr (by rw [e]))⟩⟩
def RingPost (q : List Int) (m : Nat) (w : World) (e : Ending) (w' : World) : Prop := ∃ g rb, e = .returned (.pointer (some ⟨g, 0, none⟩)) ∧ Rg w.heap.size g rb m 0 q w' ∧ w.heap.size ≤ g ∧ Below w.heap.size w w'
theorem ringOf_any (q : List Int) (b : Option Addr) (c m : Nat) (hq : q.length ≤ m) (hm : m ≤ 4) (w : World) (hz : Lies w b (kC q)) :
    Calls Try.prog 54 #[.slice b q.length c, .int .i64 m] w (RingPost q m w) := by
  obtain ⟨i0, hi, hz0, hz1, hz2⟩ := info_parts (show (Try.prog.info? 3).map (fun i => (i.zero, i.size, i.bytes)) = some (some (.int .i64 0), 1, 8) by kernel_rfl)
  have HS : Hid ((Try.prog.info? 3).map (·.size) = some 1) := Lib.hid (by rw [hi]; simp [hz1])
  have HI := Lib.hid (And.intro hi (And.intro hz0 (And.intro hz1 hz2)))
  clear hi hz0 hz1 hz2
  have HZ := Lib.hid hz
  have HK := Lib.hid (kC_len q)
  have H1 : Hid (∀ u ∈ kC q, u.oneCell' = true) := Lib.hid (by intro u hu; simp only [kC, List.mem_map] at hu; obtain ⟨z, _, rfl⟩ := hu; rfl)
  have HG : Hid (∀ i, i < q.length → (kC q)[i]? = some (.int .i64 (q.getD i 0))) := Lib.hid (by intro i hi; simp [kC, List.getD, hi])
  have HP : Hid (∀ g rb w', Rg w.heap.size g rb m 0 q w' → w.heap.size ≤ g → Below w.heap.size w w' → RingPost q m w (.returned (.pointer (some ⟨g, 0, none⟩))) w') := Lib.hid (fun g rb w' h1 h2 h3 => ⟨g, rb, rfl, h1, h2, h3⟩)
  clear hz
  generalize RingPost q m w = POST at *
  go_enter Try.func54, Try.ntmps54
  go_upto_region 2 with (at_make; go_must (refine wpList_make_full _ rfl _ _ _ rfl w.heap.size 3 i0 _ 1 Try.underlying22 HI.out.1 HI.out.2.1 HI.out.2.2.1 .i64 .i64 _ _ m rfl rfl rfl rfl (by rw [HI.out.2.2.2]; omega) (by unfold maxLen; omega) (Nat.le_refl _) ?_); intro w1 hown1 hgrow1; have HO1 := Lib.hid hown1; have HB1 := Lib.hid ((Below.refl w.heap.size w).grown hgrow1 (Nat.le_refl _) (by intro k hk; cases hk)); clear hown1 hgrow1)
  obtain ⟨M, hM⟩ : ∃ M : List Value, M = (madeCells (Value.int .i64 0).cells (m * 1)).toList := ⟨_, rfl⟩
  rw [← hM] at HO1
  clear hM
  have HML : Hid (M.length = m) := Lib.hid (by have := HO1.out.1; omega)
  have HF := Lib.hid (own_full HO1.out)
  clear HO1
  have HB2 := Lib.hid (HB1.out.alloc HB1.out.size (.cells #[.slice (some ⟨w.heap.size, 0, none⟩) m m, .int .i64 0, .int .i64 q.length] 87))
  have HF2 := Lib.hid (blk_bel HF.out.1 (dbox w1 (.cells #[.slice (some ⟨w.heap.size, 0, none⟩) m m, .int .i64 0, .int .i64 q.length] 87)))
  have HN2 := Lib.hid (heap_alloc_new w1 (.cells #[.slice (some ⟨w.heap.size, 0, none⟩) m m, .int .i64 0, .int .i64 q.length] 87))
  have HL2 : Hid (w.heap.size < w1.heap.size) := Lib.hid ((Array.getElem?_eq_some_iff.1 HF.out.1).1)
  have HZ2 := Lib.hid (HZ.out.below HB2.out (Nat.le_refl _))
  have HL3 := Lib.hid (kC_len q)
  have HR3 : Hid (∀ w' : World, w'.heap[w.heap.size]? = some (.cells (splice M 0 (kC q)).toArray 3 (0, 0)) → w'.heap[w1.heap.size]? = some (.cells #[.slice (some ⟨w.heap.size, 0, none⟩) m m, .int .i64 0, .int .i64 q.length] 87) → Rg w.heap.size w1.heap.size w.heap.size m 0 q w') := Lib.hid (fun w' h1 h2 => by
    refine ⟨h2, ⟨splice M 0 (kC q), own_of h1 (Nat.le_refl _) (by rw [length_splice _ _ _ (by rw [HML.out, kC_len]; omega), HML.out]) (by unfold maxLen; omega), fun i hi => ?_⟩, by omega⟩
    rw [Nat.zero_add, splice_at (by rw [kC_len]; exact hi)]
    exact HG.out i hi)
  have HAD : Hid (0 < (kC q).length → ∃ ad, b = some ad ∧ ∀ j v, (kC q)[j]? = some v → (w1.alloc (.cells #[.slice (some ⟨w.heap.size, 0, none⟩) m m, .int .i64 0, .int .i64 q.length] 87)).cell? (ad.add j) = some v) := Lib.hid (fun h => by
    obtain ⟨bb, bo, e, _, hc⟩ := HZ2.out.open h
    refine ⟨_, e, fun j v hj => ?_⟩
    have := hc j v hj
    cases j <;> simpa [Addr.add] using this)
  have HPP := Lib.hid (fun w' h1 h2 h3 => HP.out w1.heap.size w.heap.size w' (HR3.out w' h1 h2) (Nat.le_of_lt HL2.out) h3)
  have HQ2 := Lib.hid hq
  generalize hn : q.length = n at *
  have HN := Lib.hid hn
  clear hn HF HZ HZ2 HR3 HP HG
  generalize kC q = QS at *
  have hlt := HL2.out
  have q0 := cell_of_row _ w1.heap.size 0 _ _ _ HN2.out

  obtain ⟨w2, hrun, hG2, hGR⟩ := run_copy_gr (P := Try.prog) 22 22 3 3 Try.underlying22 HS.out (some ⟨w.heap.size, 0, none⟩) b m m n c w.heap.size 0 M 3 HF2.out QS (by rw [HL3.out]; exact (Nat.min_eq_left HQ2.out).symm) (fun h => ⟨rfl, HAD.out h⟩) (by rw [HML.out, HL3.out]; omega) H1.out
  have HBX := Lib.hid ((hGR.block w1.heap.size (by simp) (by simp; omega)).trans HN2.out)
  have HB3 := Lib.hid (HB2.out.grown hGR HB2.out.size (by intro k hk; simp at hk; omega))
  have HG2 := Lib.hid hG2
  clear HN2 HF2 hGR HB2 hG2
  go_wp2
  exact HPP.out _ HG2.out HBX.out HB3.out
theorem count_any (b o : Nat) (v n : Int) (hv : 0 ≤ v ∧ v ≤ 2147483647) (hn : 0 ≤ n ∧ n ≤ 2147483647) (w : World) (hc : w.cell? ⟨b, o, none⟩ = some (.int .i64 v)) (hf : w.frozen? ⟨b, o, none⟩ = false) :
    Calls Try.prog 58 #[.pointer (some ⟨b, o, none⟩), .int .i64 n] w fun e w' => e = .returned (.tuple #[]) ∧ w' = w.setCell ⟨b, o, none⟩ (.int .i64 (min (v + n) 2147483647)) := by
  by_cases h : v + n ≤ 2147483647
  · have e : Hid (min (v + n) 2147483647 = v + n) := Lib.hid (by omega)
    rw [e.out]
    clear e
    go_enter Try.func58, Try.ntmps58
    go_wp2
    go_end0
    exact ⟨rfl, rfl⟩
  · have e : Hid (min (v + n) 2147483647 = 2147483647) := Lib.hid (by omega)
    rw [e.out]
    clear e
    go_enter Try.func58, Try.ntmps58
    go_wp2
    go_end0
    exact ⟨rfl, rfl⟩
def bitE (b : Bool) : Int := if b then 1 else 0
theorem bit_any (b : Bool) (w : World) : Calls Try.prog 59 #[.bool b] w fun e w' => e = .returned (.int .i64 (bitE b)) ∧ w = w' := by
  cases b
  all_goals
    go_enter Try.func59, Try.ntmps59
    go_wp2
    go_ret
    exact ⟨rfl, rfl⟩
theorem list_any (B g rb m f : Nat) (q : List Int) (hm : m ≤ 4) (w : World) (h : Rg B g rb m f q w) :
    Calls Try.prog 56 #[.pointer (some ⟨g, 0, none⟩)] w fun e w' => ∃ a, e = .returned (.slice (some ⟨a, 0, none⟩) q.length q.length) ∧ w'.ownsRow w.heap.size 3 1 (.slice (some ⟨a, 0, none⟩) q.length q.length) q.length (kC q) ∧ Below w.heap.size w w' := by
  obtain ⟨i0, hi, hz0, hz1, hz2⟩ := info_parts (show (Try.prog.info? 3).map (fun i => (i.zero, i.size, i.bytes)) = some (some (.int .i64 0), 1, 8) by kernel_rfl)
  have HI := Lib.hid (And.intro hi (And.intro hz0 (And.intro hz1 hz2)))
  clear hi hz0 hz1 hz2
  have hfit := h.fit
  have c2 := cell_of_row w g 2 _ _ _ h.box
  have HR := Lib.hid h
  have HKF := Lib.hid (kC_flat q)
  clear h
  have HPL := Lib.hid (fun i hi X (hX : Rg B g rb m f q X) => place_any B g rb m f i q hi hm X hX)
  generalize hL : q.length = n at *
  have HL := Lib.hid hL
  clear hL
  go_enter Try.func56, Try.ntmps56
  go_wp2_with (at_make; go_must (refine wpList_make_full _ rfl _ _ _ rfl w.heap.size 3 i0 _ 1 Try.underlying22 HI.out.1 HI.out.2.1 HI.out.2.2.1 .i64 .i64 _ _ n rfl rfl rfl rfl (by rw [HI.out.2.2.2]; omega) (by unfold maxLen; omega) (Nat.le_refl _) ?_); intro w1 hown1 hgrow1; have Ho1 := Lib.hid (Filled.zero (enc := kI) (zs := q) hown1); have Hb1 := Lib.hid ((Below.refl w.heap.size w).grown hgrow1 (Nat.le_refl _) (by intro k hk; cases hk)); clear hown1 hgrow1)
  clear c2
  go_loopw [12] (fun i wr => ∃ k : Nat, k ≤ n ∧ i = .int .i64 k ∧ Hid (Filled kI 1 wr w.heap.size 3 w.heap.size n n q k) ∧ Hid (Below w.heap.size w wr)) (fun i _ => n - (intOf i).toNat)
  case atStart => exact ⟨0, Nat.zero_le _, rfl, Ho1, Hb1⟩
  case round =>
    obtain ⟨k, hk, rfl, ho, hb⟩ := hrel
    by_cases hlt : k < n
    · have HR2 := Lib.hid (HR.out.bel hb.out)
      have hfk : f + k < m := by omega
      go_wp2_with fail
      refine Calls.mono (HPL.out k hfk _ HR2.out) ?_
      rintro e w2 ⟨rfl, j, rfl⟩
      have d0 := HR2.out.at (i := k) (by rw [HL.out]; exact hlt)
      have HX : Hid (q[k]? = some (q.getD k 0)) := Lib.hid (by simp [List.getD, HL.out, hlt])
      generalize q.getD k 0 = x at *
      have ho2 : Hid (Filled kI 1 (wr.drewN j) w.heap.size 3 w.heap.size n n q k) := ho
      obtain ⟨v0, e0⟩ := ho.out.there hlt 0 (by omega)
      have f0 := ho.out.free (k * 1)
      obtain ⟨hs, hg⟩ := ho2.out.store kI_len HL.out HX.out
      rw [Nat.mul_one] at hs hg f0
      rw [Nat.mul_one, Nat.add_zero] at e0
      have Hs : Hid (Filled kI 1 ((wr.drewN j).setCell ⟨w.heap.size, k, none⟩ (.int .i64 x)) w.heap.size 3 w.heap.size n n q (k + 1)) := Lib.hid hs
      have Hg : Hid (Below w.heap.size w ((wr.drewN j).setCell ⟨w.heap.size, k, none⟩ (.int .i64 x))) := Lib.hid ((bel_dn hb.out j).setCell (p := ⟨w.heap.size, k, none⟩) (Nat.le_refl _) _)
      clear hs hg ho2
      go_wp2
      go_roundw
      case rel => exact ⟨k + 1, by omega, by go_num, Hs, Hg⟩
      case measure => simp [intOf]; omega
    · obtain rfl : k = n := by omega
      go_wp2
      go_ret
      exact ⟨_, rfl, HKF.out ▸ ho.out.full HL.out, hb.out⟩
theorem push_no (B g rb m f : Nat) (q : List Int) (x : Int) (hn : q.length = m) (w : World) (h : Rg B g rb m f q w) :
    Calls Try.prog 66 #[.pointer (some ⟨g, 0, none⟩), .int .i64 x] w fun e w' => e = .returned (.bool false) ∧ ∃ k, w' = w.drewN k := by
  have c0 := cell_of_row w g 0 _ _ _ h.box
  have c2 := cell_of_row w g 2 _ _ _ h.box
  rw [hn] at c2
  have hb : ((m : Int) == m) = true := by simp
  clear h hn
  go_enter Try.func66, Try.ntmps66
  go_wp2_with fail
  go_quiet (fail)
  go_wp2
  go_ret
  exact ⟨rfl, _, rfl⟩
theorem Rg.pushed {B g rb m f : Nat} {q : List Int} {w : World} (h : Rg B g rb m f q w) (x : Int) (hr : f + q.length < m) (k : Nat) :
    Rg B g rb m f (q ++ [x]) (((w.drewN k).setCell ⟨rb, f + q.length, none⟩ (.int .i64 x)).setCell ⟨g, 2, none⟩ (.int .i64 ((q.length : Int) + 1))) := by
  obtain ⟨ys, ho, hy⟩ := h.row
  have hne := h.ne
  have ho' : (w.drewN k).ownsRow B 3 1 (.slice (some ⟨rb, 0, none⟩) m m) m ys := ho
  obtain ⟨h1, g1⟩ := ho'.stored (f + q.length) (.int .i64 x)
  have hb1 : ((w.drewN k).setCell ⟨rb, f + q.length, none⟩ (.int .i64 x)).heap[g]? = some (.cells #[.slice (some ⟨rb, 0, none⟩) m m, .int .i64 f, .int .i64 q.length] 87) := blk_far (w := w.drewN k) h.box (by omega) _
  have hb2 := wk_set hb1 2 (.int .i64 ((q.length : Int) + 1))
  have hl : (((q ++ [x]).length : Nat) : Int) = (q.length : Int) + 1 := by simp
  refine ⟨by rw [hb2, hl]; rfl, ⟨_, ownsRow_setCell_other h1 (fun e => hne (by simpa [Value.ownBlock] using e)) _, fun i hi => ?_⟩, by simp; omega⟩
  have hyl := ho.1
  simp only [List.length_append, List.length_singleton] at hi
  by_cases e : i < q.length
  · rw [List.getElem?_set_ne (by omega), hy i e]
    simp [List.getD, List.getElem?_append_left e]
  · obtain rfl : i = q.length := by omega
    rw [List.getElem?_set_self (by omega)]
    simp [List.getD]
theorem push_yes (B g rb m f : Nat) (q : List Int) (x : Int) (hr : f + q.length < m) (hm : m ≤ 4) (w : World) (h : Rg B g rb m f q w) :
    Calls Try.prog 66 #[.pointer (some ⟨g, 0, none⟩), .int .i64 x] w fun e w' => e = .returned (.bool true) ∧ Rg B g rb m f (q ++ [x]) w' ∧ ∃ k, w' = ((w.drewN k).setCell ⟨rb, f + q.length, none⟩ (.int .i64 x)).setCell ⟨g, 2, none⟩ (.int .i64 ((q.length : Int) + 1)) := by
  have HP := Lib.hid (fun k => h.pushed x hr k)
  have c0 := cell_of_row w g 0 _ _ _ h.box
  have c2 := cell_of_row w g 2 _ _ _ h.box
  have fz2 := frozen_of_row w g 2 _ _ h.box
  obtain ⟨v, e0⟩ := h.there hr
  have e1 := h.free (f + q.length)
  have hne := h.ne
  have hne2 := Ne.symm hne
  have HR := Lib.hid h
  have HPL := Lib.hid (fun i hi X (hX : Rg B g rb m f q X) => place_any B g rb m f i q hi hm X hX)
  clear h
  generalize q.length = n at *
  have hb : ((n : Int) == m) = false := by
    rw [beq_eq_false_iff_ne]; omega
  go_enter Try.func66, Try.ntmps66
  go_wp2_with fail
  go_quiet (fail)
  go_wp2_with fail
  refine Calls.mono (HPL.out n hr _ (HR.out.dn _)) ?_
  rintro e w2 ⟨rfl, j, rfl⟩
  go_wp2
  go_ret
  exact ⟨rfl, HP.out _, _, rfl⟩
theorem pop_no (B g rb m f : Nat) (w : World) (h : Rg B g rb m f [] w) :
    Calls Try.prog 55 #[.pointer (some ⟨g, 0, none⟩)] w fun e w' => e = .returned (.tuple #[.int .i64 0, .bool false]) ∧ w = w' := by
  have c2 : w.cell? ⟨g, 2, none⟩ = some (.int .i64 0) := cell_of_row w g 2 _ _ _ h.box
  clear h
  go_enter Try.func55, Try.ntmps55
  go_wp2
  go_ret2
  exact ⟨rfl, rfl⟩
def nxt (f m : Nat) : Nat := if f + 1 < m then f + 1 else 0
theorem nxt_mod (f m : Nat) (h : f < m) : Int.tmod ((f : Int) + 1) m = nxt f m := by
  unfold nxt
  by_cases h1 : f + 1 < m
  · rw [if_pos h1, Int.tmod_eq_of_lt (by omega) (by omega)]; omega
  · rw [if_neg h1, show ((f : Int) + 1) = m by omega, Int.tmod_self]; rfl
theorem Rg.popped {B g rb m f : Nat} {a : Int} {r : List Int} {w : World} (h : Rg B g rb m f (a :: r) w) (k : Nat) :
    Rg B g rb m (nxt f m) r (((w.drewN k).setCell ⟨g, 1, none⟩ (.int .i64 (nxt f m))).setCell ⟨g, 2, none⟩ (.int .i64 r.length)) := by
  obtain ⟨ys, ho, hy⟩ := h.row
  have hne := h.ne
  have hf := h.fit
  simp only [List.length_cons] at hf
  have ho' : (w.drewN k).ownsRow B 3 1 (.slice (some ⟨rb, 0, none⟩) m m) m ys := ho
  have hb0 : (w.drewN k).heap[g]? = some (.cells #[.slice (some ⟨rb, 0, none⟩) m m, .int .i64 f, .int .i64 (a :: r).length] 87) := h.box
  have hb1 := wk_set hb0 1 (.int .i64 (nxt f m))
  have hb2 := wk_set hb1 2 (.int .i64 r.length)
  refine ⟨hb2, ⟨ys, ownsRow_setCell_other (ownsRow_setCell_other ho' (fun e => hne (by simpa [Value.ownBlock] using e)) _) (fun e => hne (by simpa [Value.ownBlock] using e)) _, fun i hi => ?_⟩, ?_⟩
  · have := hy (i + 1) (by simp; omega)
    unfold nxt
    rw [if_pos (by omega), show f + 1 + i = f + (i + 1) by omega, this]
    rfl
  · unfold nxt; split <;> omega
theorem pop_yes (B g rb m f : Nat) (a : Int) (r : List Int) (hm : m ≤ 4) (w : World) (h : Rg B g rb m f (a :: r) w) :
    Calls Try.prog 55 #[.pointer (some ⟨g, 0, none⟩)] w fun e w' => e = .returned (.tuple #[.int .i64 a, .bool true]) ∧ Rg B g rb m (nxt f m) r w' ∧ ∃ k, w' = ((w.drewN k).setCell ⟨g, 1, none⟩ (.int .i64 (nxt f m))).setCell ⟨g, 2, none⟩ (.int .i64 r.length) := by
  have HP := Lib.hid (fun k => h.popped k)
  have hfit := h.fit
  simp only [List.length_cons] at hfit
  have c0 := cell_of_row w g 0 _ _ _ h.box
  have c1 := cell_of_row w g 1 _ _ _ h.box
  have c2 : w.cell? ⟨g, 2, none⟩ = some (.int .i64 ((r.length : Int) + 1)) := cell_of_row w g 2 _ _ _ h.box
  have fz1 := frozen_of_row w g 1 _ _ h.box
  have fz2 := frozen_of_row w g 2 _ _ h.box
  have d0 : w.cell? ⟨rb, f, none⟩ = some (.int .i64 a) := by simpa using h.at (i := 0) (by simp)
  have HPL : Hid (∀ X, Rg B g rb m f (a :: r) X → Calls Try.prog 67 #[.pointer (some ⟨g, 0, none⟩), .int .i64 0] X fun e w' => e = .returned (.pointer (some ⟨rb, f, none⟩)) ∧ ∃ k, w' = X.drewN k) := Lib.hid (fun X hX => place_any B g rb m f 0 _ (by omega) hm X hX)
  have HR := Lib.hid h
  have e2 := nxt_mod f m (by omega)
  clear h
  generalize r.length = n at *
  generalize nxt f m = f' at *
  have hb : ((n : Int) + 1 == 0) = false := by rw [beq_eq_false_iff_ne]; omega
  have e1 : IntKind.i64.wrap ((f : Int) + 1) = (f : Int) + 1 := IntWalk.i64_in _ (by omega)
  have e3 : IntKind.i64.wrap ((n : Int) + 1 - 1) = (n : Int) := by rw [IntWalk.i64_in _ (by omega)]; omega
  have e6 : ¬ ((m : Int) = 0) := by omega
  have e7 : ((m : Int) == 0) = false := by simpa using e6
  have e8 : ¬ (m = 0) := by omega
  go_enter Try.func55, Try.ntmps55
  go_wp2_with fail
  refine Calls.mono (HPL.out _ HR.out) ?_
  rintro e w2 ⟨rfl, j, rfl⟩
  go_wp2_with fail
  have HSW : Hid ((w.drewN j).drew.cell? ⟨g, 0, none⟩ = some (.slice (some ⟨rb, 0, none⟩) m m) ∧ (w.drewN j).drew.cell? ⟨g, 1, none⟩ = some (.int .i64 f)) := Lib.hid ⟨c0, c1⟩
  refine wp_region_hl 14 (fun X => X.cell? ⟨g, 0, none⟩ = some (.slice (some ⟨rb, 0, none⟩) m m) ∧ X.cell? ⟨g, 1, none⟩ = some (.int .i64 f)) (by kernel_rfl) rfl rfl (by kernel_rfl) ?_
  refine hl_take (v := ?vp1) 0 rfl (by kernel_rfl) (fun _ _ _ h => h) (Or.inl ⟨by rfl, ?hyp1⟩) HSW.out ?restp1
  case hyp1 =>
    intro X hSw
    obtain ⟨s0, s1⟩ := hSw
    go_simp <;> with_reducible rfl
  try simp only [Act.put, List.setIfInBounds_toArray, List.set_cons_zero, List.set_cons_succ]
  refine hl_take (v := ?vp2) 1 rfl (by kernel_rfl) (fun _ _ _ h => h) (Or.inl ⟨by rfl, ?hyp2⟩) HSW.out ?restp2
  case hyp2 =>
    intro X hSw
    obtain ⟨s0, s1⟩ := hSw
    go_simp <;> with_reducible rfl
  try simp only [Act.put, List.setIfInBounds_toArray, List.set_cons_zero, List.set_cons_succ]
  refine hl_take (v := ?vp3) 2 rfl (by kernel_rfl) (fun _ _ _ h => h) (Or.inl ⟨by rfl, ?hyp3⟩) HSW.out ?restp3
  case hyp3 =>
    intro X hSw
    obtain ⟨s0, s1⟩ := hSw
    go_simp <;> with_reducible rfl
  try simp only [Act.put, List.setIfInBounds_toArray, List.set_cons_zero, List.set_cons_succ]
  refine hl_take (v := ?vp4) 3 rfl (by kernel_rfl) (fun _ _ _ h => h) (Or.inl ⟨by rfl, ?hyp4⟩) HSW.out ?restp4
  case hyp4 =>
    intro X hSw
    obtain ⟨s0, s1⟩ := hSw
    go_simp <;> with_reducible rfl
  try simp only [Act.put, List.setIfInBounds_toArray, List.set_cons_zero, List.set_cons_succ]
  refine hl_take (v := ?vp5) 4 rfl (by kernel_rfl) (fun _ _ _ h => h) (Or.inl ⟨by rfl, ?hyp5⟩) HSW.out ?restp5
  case hyp5 =>
    intro X hSw
    obtain ⟨s0, s1⟩ := hSw
    go_simp <;> with_reducible rfl
  try simp only [Act.put, List.setIfInBounds_toArray, List.set_cons_zero, List.set_cons_succ]
  refine hl_take (v := ?vp6) 5 rfl (by kernel_rfl) (fun _ _ _ h => h) (Or.inl ⟨by rfl, ?hyp6⟩) HSW.out ?restp6
  case hyp6 =>
    intro X hSw
    obtain ⟨s0, s1⟩ := hSw
    go_simp <;> with_reducible rfl
  try simp only [Act.put, List.setIfInBounds_toArray, List.set_cons_zero, List.set_cons_succ]
  refine hl_take (v := ?vp7) 6 rfl (by kernel_rfl) (fun _ _ _ h => h) (Or.inl ⟨by rfl, ?hyp7⟩) HSW.out ?restp7
  case hyp7 =>
    intro X hSw
    obtain ⟨s0, s1⟩ := hSw
    go_simp <;> with_reducible rfl
  try simp only [Act.put, List.setIfInBounds_toArray, List.set_cons_zero, List.set_cons_succ]
  refine hl_take (v := ?vp8) 7 rfl (by kernel_rfl) (fun _ _ _ h => h) (Or.inl ⟨by rfl, ?hyp8⟩) HSW.out ?restp8
  case hyp8 =>
    intro X hSw
    obtain ⟨s0, s1⟩ := hSw
    go_simp <;> with_reducible rfl
  try simp only [Act.put, List.setIfInBounds_toArray, List.set_cons_zero, List.set_cons_succ]
  refine hl_take (v := ?vp9) 8 rfl (by kernel_rfl) (fun _ _ _ h => h) (Or.inl ⟨by rfl, ?hyp9⟩) HSW.out ?restp9
  case hyp9 =>
    intro X hSw
    obtain ⟨s0, s1⟩ := hSw
    go_simp <;> with_reducible rfl
  try simp only [Act.put, List.setIfInBounds_toArray, List.set_cons_zero, List.set_cons_succ]
  refine hl_take (v := ?vp10) 9 rfl (by kernel_rfl) (fun _ _ _ h => h) (Or.inl ⟨by rfl, ?hyp10⟩) HSW.out ?restp10
  case hyp10 =>
    intro X hSw
    obtain ⟨s0, s1⟩ := hSw
    go_simp <;> with_reducible rfl
  try simp only [Act.put, List.setIfInBounds_toArray, List.set_cons_zero, List.set_cons_succ]
  refine hl_take (v := ?vp11) 10 rfl (by kernel_rfl) (fun _ _ _ h => h) (Or.inl ⟨by rfl, ?hyp11⟩) HSW.out ?restp11
  case hyp11 =>
    intro X hSw
    obtain ⟨s0, s1⟩ := hSw
    go_simp <;> with_reducible rfl
  try simp only [Act.put, List.setIfInBounds_toArray, List.set_cons_zero, List.set_cons_succ]
  refine hl_take (v := ?vp12) 11 rfl (by kernel_rfl) (fun _ _ _ h => h) (Or.inl ⟨by rfl, ?hyp12⟩) HSW.out ?restp12
  case hyp12 =>
    intro X hSw
    obtain ⟨s0, s1⟩ := hSw
    go_simp <;> with_reducible rfl
  try simp only [Act.put, List.setIfInBounds_toArray, List.set_cons_zero, List.set_cons_succ]
  refine hl_take (v := ?vp13) 12 rfl (by kernel_rfl) (fun _ _ _ h => h) (Or.inl ⟨by rfl, ?hyp13⟩) HSW.out ?restp13
  case hyp13 =>
    intro X hSw
    obtain ⟨s0, s1⟩ := hSw
    go_simp <;> with_reducible rfl
  try simp only [Act.put, List.setIfInBounds_toArray, List.set_cons_zero, List.set_cons_succ]
  refine hl_take (v := ?vp14) 13 rfl (by kernel_rfl) (fun _ _ _ h => h) (Or.inl ⟨by rfl, ?hyp14⟩) HSW.out ?restp14
  case hyp14 =>
    intro X hSw
    obtain ⟨s0, s1⟩ := hSw
    go_simp <;> with_reducible rfl
  try simp only [Act.put, List.setIfInBounds_toArray, List.set_cons_zero, List.set_cons_succ]
  refine hl_done (by kernel_rfl) ?_
  go_simp
  go_wp2
  go_ret2
  exact ⟨rfl, HP.out _, _, rfl⟩
end Go.Proofs.Ytgbnoaclklbjbaa
