/- The law of busy periods. (Written by tools/gen_bzf.py.) -/
import Derived.Test.YtppgknjpbfopjaaBz
import Derived.Test.YtppgknjpbfopjaaBt
import Derived.Maps.AppendAt
import Derived.Deep.DeepCutAuto
namespace Go.Proofs.Ytppgknjpbfopjaa
open Go.ChangeShapes Go.WideShapes Go.ChangeAt Go.RowKit
set_option linter.unusedVariables false
theorem bf_bytes {W : World} {a : Option Addr} {n c : Nat} (h : Came Try.prog W 36 [.slice a n c]) : Bytes0 W W.heap.size a n := by
  obtain ⟨h1, h2⟩ := came_ints Try.underlying36 Try.underlying5 (by kernel_rfl) h
  refine ⟨h1, fun hn => ?_⟩
  obtain ⟨x, e, hx, hc⟩ := h2 hn
  refine ⟨x, e, hx, fun i hi => ?_⟩
  obtain ⟨z, wz, hz⟩ := hc i hi
  have := bounds_u8 wz
  exact ⟨z, this.1, this.2, hz⟩
theorem Bytes0.belF {w w' : World} {n : Nat} {a : Option Addr} {B : Nat} (h : Bytes0 w B a n) (hb : Below B w w') (hB : B ≤ w'.heap.size) : Bytes0 w' w'.heap.size a n := ⟨h.1, fun hn => by
  obtain ⟨x, e, hx, hc⟩ := h.2 hn
  refine ⟨x, e, by omega, fun i hi => ?_⟩
  obtain ⟨z, z0, z1, hz⟩ := hc i hi
  exact ⟨z, z0, z1, (hb.cell (by rw [add_block]; exact hx)).trans hz⟩⟩
theorem bz_min {cs ps : List Int} {b n : Int} (hr : Rng cs ps) (h : bzV cs ps b = (n, 0)) : 1 ≤ n ∧ n ≤ 5000 ∧ dem cs ps b n ≤ n ∧ ∀ s, 1 ≤ s → s < n → s < dem cs ps b s := by
  have h1 := bz_code (dem cs ps b) 5001 1
  have h2 := bz_least (dem cs ps b) (fun x y h0 hxy => dem_mono cs ps hr b b x y (Int.le_refl _) hxy h0) 5001 1 (by omega) (fun s q1 q2 => by omega) (by show (bzV cs ps b).2 = 0; rw [h])
  have e : bz (dem cs ps b) 5001 1 = (n, 0) := h
  rw [e] at h1 h2
  rcases h1 with ⟨-, g1, g2, g3⟩ | g
  · exact ⟨g1, g2, g3, h2⟩
  · have g9 := congrArg Prod.snd g
    exact absurd (show (0 : Int) = 18 from g9) (by decide)
theorem bz_more {cs cs' ps : List Int} {b n m : Int} (hr : Rng cs ps) (hr' : Rng cs' ps) (hle : ∀ i, cs.getD i 0 ≤ cs'.getD i 0) (h : bzV cs ps b = (n, 0)) (h' : bzV cs' ps (b + 1) = (m, 0)) : n ≤ m := by
  obtain ⟨g1, g2, g3, -⟩ := bz_min hr' h'
  obtain ⟨-, -, -, g4⟩ := bz_min hr h
  have g5 := dem_cost cs cs' ps hr hr' hle b (b + 1) m (by omega) (by omega)
  by_cases hc : m < n
  · have := g4 m g1 hc
    omega
  · omega
theorem bz_two (cs ps : List Int) (b : Int) : (∃ n, bzV cs ps b = (n, 0)) ∨ bzV cs ps b = (0, 18) := by
  rcases bz_code (dem cs ps b) 5001 1 with ⟨h, -⟩ | h
  · exact .inl ⟨(bzV cs ps b).1, by rw [← show (bzV cs ps b).2 = 0 from h]⟩
  · exact .inr h
/-- Drawn costs and periods. -/
structure DR (cs ps : List Int) (k : Nat) : Prop where
  l5 : cs.length = k
  l6 : ps.length = k
  h5 : ∀ i, i < k → 0 ≤ cs.getD i 0 ∧ cs.getD i 0 ≤ 29
  h6 : ∀ i, i < k → 20 ≤ ps.getD i 0 ∧ ps.getD i 0 ≤ 119
theorem getD_snoc (l : List Int) (x : Int) (i : Nat) (h : i < l.length + 1) : (l ++ [x]).getD i 0 = if i < l.length then l.getD i 0 else x := by
  by_cases q : i < l.length
  · rw [if_pos q]; simp [List.getD, List.getElem?_append_left q]
  · rw [if_neg q]
    have e : i = l.length := by omega
    subst e
    simp [List.getD]
theorem DR.snoc {cs ps : List Int} {k : Nat} (h : DR cs ps k) {u v : Int} (hu : 0 ≤ u ∧ u ≤ 29) (hv : 20 ≤ v ∧ v ≤ 119) : DR (cs ++ [u]) (ps ++ [v]) (k + 1) := by
  refine ⟨by simp [h.l5], by simp [h.l6], fun i hi => ?_, fun i hi => ?_⟩
  · rw [getD_snoc _ _ _ (by rw [h.l5]; exact hi)]
    split
    · exact h.h5 i (by rw [← h.l5]; assumption)
    · exact hu
  · rw [getD_snoc _ _ _ (by rw [h.l6]; exact hi)]
    split
    · exact h.h6 i (by rw [← h.l6]; assumption)
    · exact hv
theorem DR.rng {cs ps : List Int} {k : Nat} (h : DR cs ps k) : Rng cs ps :=
  ⟨h.l5.trans h.l6.symm, fun i hi => by have := h.h5 i (by rw [← h.l5]; exact hi); omega, fun i hi => by have := h.h6 i (by rw [← h.l5]; exact hi); omega⟩
theorem set_getD (l : List Int) (j i : Nat) (x : Int) (h : j < l.length) : (l.set j x).getD i 0 = if i = j then x else l.getD i 0 := by
  by_cases e : i = j
  · subst e; simp [List.getD, h]
  · rw [if_neg e]; simp [List.getD, Ne.symm e]
theorem DR.up {cs ps : List Int} {k j : Nat} (h : DR cs ps k) (hj : j < k) : Rng (cs.set j (cs.getD j 0 + 1)) ps ∧ (∀ i, cs.getD i 0 ≤ (cs.set j (cs.getD j 0 + 1)).getD i 0) := by
  have hl : j < cs.length := by rw [h.l5]; exact hj
  refine ⟨⟨by rw [List.length_set]; exact h.l5.trans h.l6.symm, fun i hi => ?_, fun i hi => ?_⟩, fun i => ?_⟩
  · rw [List.length_set, h.l5] at hi
    rw [set_getD _ _ _ _ hl]
    have := h.h5 i hi
    have := h.h5 j hj
    split <;> omega
  · rw [List.length_set, h.l5] at hi
    have := h.h6 i hi
    omega
  · rw [set_getD _ _ _ _ hl]
    split
    · rename_i e; subst e; omega
    · omega
theorem busy_rng {cs ps : List Int} {b : Int} (hr : Rng cs ps) (hl : cs.length ≤ 5) (hb : 0 ≤ b ∧ b ≤ 5000) : busyF cs ps b = bzV cs ps b := by
  have h1 : cs.all workB = true := all_yes workB 0 (fun j hj => decide_eq_true (hr.2.1 j hj))
  have h2 : ps.all taskB = true := all_yes taskB 0 (fun j hj => decide_eq_true (hr.2.2 j (by rw [hr.1]; exact hj)))
  have h3 : workB b = true := decide_eq_true hb
  have := hr.1
  unfold busyF
  rw [if_neg (by omega), if_neg (by omega), if_neg (by omega), h1, h2, h3, if_neg (by decide)]
def Ds (a b : Option Addr) : Prop := ∀ x y, a = some x → b = some y → x.block ≠ y.block
theorem Ds.own {a b : Option Addr} (h : Ds a b) (n c m d : Nat) : Value.ownBlock (.slice a n c) = none ∨ Value.ownBlock (.slice a n c) ≠ Value.ownBlock (.slice b m d) := by
  cases a with
  | none => exact .inl rfl
  | some x =>
    refine .inr fun e => ?_
    cases b with
    | none => cases e
    | some y => simp only [Value.ownBlock, Option.some.injEq] at e; exact h x y rfl rfl e
theorem Ds.symm {a b : Option Addr} (h : Ds a b) : Ds b a := fun x y hx hy e => h y x hy hx e.symm
/-- Two rows of integers of the call's own. -/
structure TR (w : World) (n m : Nat) (a5 : Option Addr) (c5 : Nat) (a6 : Option Addr) (c6 : Nat) (cs ps : List Int) (X : World) : Prop where
  r5 : X.ownsRow w.heap.size 3 1 (.slice a5 n c5) n (kC cs)
  r6 : X.ownsRow w.heap.size 3 1 (.slice a6 m c6) m (kC ps)
  d : Ds a5 a6
  b : Below w.heap.size w X
theorem TR.bel {w X Y : World} {n m c5 c6 : Nat} {a5 a6 : Option Addr} {cs ps : List Int} (h : TR w n m a5 c5 a6 c6 cs ps X) (hb : Below X.heap.size X Y) : TR w n m a5 c5 a6 c6 cs ps Y :=
  ⟨own_bl h.r5 hb, own_bl h.r6 hb, h.d, h.b.trans (hb.mono h.b.size)⟩
theorem ds_new {X : World} {a a' b : Option Addr} {n c n' c' m d B size : Nat} {e : TypeId} {ys : List Value} (hat : Value.ownBlock (.slice a' n' c') = Value.ownBlock (.slice a n c) ∨ Value.ownBlock (.slice a' n' c') = some X.heap.size)
    (hy : X.ownsRow B e size (.slice b m d) m ys) (hd : Ds a b) : Ds a' b := fun x y ex ey e0 => by
  subst ex ey
  rcases hat with q | q
  · cases a with
    | none => cases q
    | some z => simp only [Value.ownBlock, Option.some.injEq] at q; exact hd z y rfl rfl (q.symm.trans e0)
  · simp only [Value.ownBlock, Option.some.injEq] at q
    have := (hy.lt y.block rfl).2
    omega
theorem kC_snoc (l : List Int) (x : Int) : kC l ++ [.int .i64 x] = kC (l ++ [x]) := by unfold kC; rw [List.map_append]; rfl
theorem TR.pushr5 {w X Y : World} {n m c5 c6 : Nat} {a5 a6 : Option Addr} {cs ps : List Int} (h : TR w n m a5 c5 a6 c6 cs ps X) (x : Int) {v' : Value} (ho : Y.ownsRow w.heap.size 3 1 v' (n + 1) (kC cs ++ [.int .i64 x])) (hg : X.grownBy Y (Value.ownBlock (.slice a5 n c5)))
    (hat : v'.ownBlock = Value.ownBlock (.slice a5 n c5) ∨ v'.ownBlock = some X.heap.size) (hB : w.heap.size ≤ X.heap.size) : ∃ a c, v' = .slice a (n + 1) c ∧ TR w (n + 1) m a c a6 c6 (cs ++ [x]) ps Y := by
  obtain ⟨a, c, rfl⟩ := wk_slice ho
  rw [kC_snoc] at ho
  exact ⟨a, c, rfl, ho, h.r6.kept hg (h.d.symm.own _ _ _ _), ds_new hat h.r6 h.d, h.b.grown hg hB (fun k hk => (h.r5.lt k hk).1)⟩
theorem TR.pushr6 {w X Y : World} {n m c5 c6 : Nat} {a5 a6 : Option Addr} {cs ps : List Int} (h : TR w n m a5 c5 a6 c6 cs ps X) (x : Int) {v' : Value} (ho : Y.ownsRow w.heap.size 3 1 v' (m + 1) (kC ps ++ [.int .i64 x])) (hg : X.grownBy Y (Value.ownBlock (.slice a6 m c6)))
    (hat : v'.ownBlock = Value.ownBlock (.slice a6 m c6) ∨ v'.ownBlock = some X.heap.size) (hB : w.heap.size ≤ X.heap.size) : ∃ a c, v' = .slice a (m + 1) c ∧ TR w n (m + 1) a5 c5 a c cs (ps ++ [x]) Y := by
  obtain ⟨a, c, rfl⟩ := wk_slice ho
  rw [kC_snoc] at ho
  exact ⟨a, c, rfl, h.r5.kept hg (h.d.own _ _ _ _), ho, (ds_new hat h.r5 h.d.symm).symm, h.b.grown hg hB (fun k hk => (h.r6.lt k hk).1)⟩
theorem TR.set5 {w X : World} {n m c5 c6 g : Nat} {a6 : Option Addr} {cs ps : List Int} (h : TR w n m (some ⟨g, 0, none⟩) c5 a6 c6 cs ps X) (j : Nat) (hj : j < n) (x : Int) : TR w n m (some ⟨g, 0, none⟩) c5 a6 c6 (cs.set j x) ps (X.setCell ⟨g, j, none⟩ (.int .i64 x)) := by
  obtain ⟨h1, -⟩ := h.r5.stored j (.int .i64 x)
  have e : (kC cs).set j (.int .i64 x) = kC (cs.set j x) := by unfold kC; rw [List.map_set]
  rw [e] at h1
  refine ⟨h1, ?_, h.d, h.b.setCell (p := ⟨g, j, none⟩) (h.r5.lt g rfl).1 _⟩
  exact h.r6.kept (row := some g) (grown_set X g j (.int .i64 x)) (by
    have := h.d.symm.own m c6 n c5
    rcases this with q | q
    · exact .inl q
    · exact .inr (by simpa [Value.ownBlock] using q))
theorem at_far {w X : World} {a : Option Addr} {n c : Nat} (h : Bytes0 w w.heap.size a n) (hn : n ≤ 1048576) (hb : Below w.heap.size w X) (i k : Int) (hi : 0 ≤ i ∧ i ≤ 1000000) (hk : 1 ≤ k ∧ k ≤ 1000000) :
    Calls Try.prog 14 #[.slice a n c, .int .i64 i, .int .i64 k] X fun e w' => ∃ v : Int, e = .returned (.int .i64 v) ∧ (0 ≤ v ∧ v ≤ k - 1) ∧ Below X.heap.size X w' :=
  (at_any a n c X (h.belF hb hb.size) hn i k hi hk).mono fun e w' ⟨v, h1, h2, h3, q, h4⟩ => ⟨v, h1, ⟨h2, h3⟩, by rw [h4]; exact bel_dn (Below.refl _ _) q⟩
set_option maxRecDepth 100000 in
set_option maxHeartbeats 4000000 in
theorem FnBusy_came (a : Option Addr) (n c : Nat) (a1 : Option Addr) (n1 c1 : Nat) (w : World) (h0 : Came Try.prog w 36 [.slice a n c]) (h1 : Came Try.prog w 36 [.slice a1 n1 c1]) :
    Calls Try.prog 5 #[.slice a n c, .slice a1 n1 c1] w fun e w' => e = .returned (.bool true) ∧ Below w.heap.size w w' := by
  have B0 := Lib.hid (bf_bytes h0)
  have B1 := Lib.hid (bf_bytes h1)
  have hn := B0.out.1
  have hn1 := B1.out.1
  unfold maxLen at hn hn1
  clear h0 h1
  by_cases q0 : 1048576 < n
  · go_enter Try.func5, Try.ntmps5
    go_wp2
    go_ret
    exact ⟨rfl, Below.refl _ _⟩
  by_cases q1 : 1048576 < n1
  · go_enter Try.func5, Try.ntmps5
    go_wp2
    go_ret
    exact ⟨rfl, Below.refl _ _⟩
  obtain ⟨i0, hi, hz0, hz1, hz2⟩ := info_parts (show (Try.prog.info? 3).map (fun i => (i.zero, i.size, i.bytes)) = some (some (.int .i64 0), 1, 8) by kernel_rfl)
  have HI := Lib.hid (And.intro hi (And.intro hz0 (And.intro hz1 hz2)))
  clear hi hz0 hz1 hz2
  have HC := Lib.hid (fun X (hX : Below w.heap.size w X) (i k : Int) (hi : 0 ≤ i ∧ i ≤ 1000000) (hk : 1 ≤ k ∧ k ≤ 1000000) => at_far (c := c) B0.out (by omega) hX i k hi hk)
  have HM := Lib.hid (fun X (hX : Below w.heap.size w X) (i k : Int) (hi : 0 ≤ i ∧ i ≤ 1000000) (hk : 1 ≤ k ∧ k ≤ 1000000) => at_far (c := c1) B1.out (by omega) hX i k hi hk)
  clear B0 B1
  have T0 : Hid (TR w 0 0 (some ⟨w.heap.size, 0, none⟩) 0 (some ⟨w.heap.size + 1, 0, none⟩) 0 [] [] ((w.alloc (.cells #[] 3)).alloc (.cells #[] 3))) := Lib.hid (by
    have g1 := World.ownsRow_lit (base := w.heap.size) (e := 3) (size := 1) w #[] 0 (Nat.le_refl _) (by decide) rfl
    have g2 := World.ownsRow_lit (base := w.heap.size) (e := 3) (size := 1) (w.alloc (.cells #[] 3)) #[] 0 (by simp) (by decide) rfl
    refine ⟨own_bl g1 (dbox _ _), ?_, ?_, ((Below.refl w.heap.size w).alloc (Nat.le_refl _) _).alloc (by simp) _⟩
    · simpa [kC] using g2
    · intro x y hx hy e
      cases hx; cases hy
      simp at e)
  go_enter Try.func5, Try.ntmps5
  go_wp2_with fail
  go_loopw [5, 6, 7] (fun s5 s6 i wr => ∃ (k : Nat) (a5 a6 : Option Addr) (c5 c6 : Nat) (cs ps : List Int), k ≤ 4 ∧ i = .int .i64 k ∧ s5 = .slice a5 k c5 ∧ s6 = .slice a6 k c6 ∧ Hid (TR w k k a5 c5 a6 c6 cs ps wr) ∧ Hid (DR cs ps k)) (fun _ _ i _ => 4 - (intOf i).toNat)
  case atStart => exact ⟨0, _, _, _, _, [], [], by omega, rfl, rfl, rfl, T0, Lib.hid ⟨rfl, rfl, fun i hi => by omega, fun i hi => by omega⟩⟩
  case round =>
    obtain ⟨k, a5, a6, c5, c6, cs, ps, hk, rfl, rfl, rfl, ht, hd⟩ := hrel
    go_wp2_with fail
    refine Calls.mono (HM.out wr ht.out.b 0 4 (by omega) (by omega)) ?_
    rintro e w1 ⟨v, rfl, ⟨v0, v1⟩, hb1⟩
    have T1 := Lib.hid (ht.out.bel hb1)
    clear hb1 ht
    by_cases hlt : (k : Int) < 1 + v
    · go_wp2_with fail
      refine Calls.mono (HC.out w1 T1.out.b (k : Int) 30 (by omega) (by omega)) ?_
      rintro e w2 ⟨u, rfl, ⟨u0, u1⟩, hb2⟩
      have T2 := Lib.hid (T1.out.bel hb2)
      clear hb2 T1
      go_wp2_with (at_builtin; go_must (refine wpList_append_own_at _ rfl (.tmp 37) (.tmp 41) _ rfl w.heap.size 3 i0 _ 1 8 Try.underlying30 HI.out.1 HI.out.2.1 HI.out.2.2.1 HI.out.2.2.2 rfl (by decide) (.slice a5 k c5) k (kC cs) rfl ((T2.out.bel (dbox w2 (.cells #[.int .i64 u] 3))).r5) ⟨w2.heap.size, 0, none⟩ 1 1 [.int .i64 u] rfl rfl (bz_cells w2 [.int .i64 u] 3) (by simp [Value.oneCell']) (by unfold maxLen; omega) (by omega) (by have := T2.out.b.size; simp; omega) ?_); intro v' w3 g1 g2 _ hat; obtain ⟨a5', c5', rfl, hT⟩ := (T2.out.bel (dbox w2 (.cells #[.int .i64 u] 3))).pushr5 u g1 g2 hat (by have := T2.out.b.size; simp; omega); have T3 := Lib.hid hT; clear g1 g2 hat hT)
      have T3b := Lib.hid T3.out.b
      refine Calls.mono (HM.out w3 T3b.out ((k : Int) + 1) 100 (by omega) (by omega)) ?_
      rintro e w4 ⟨p, rfl, ⟨p0, p1⟩, hb4⟩
      have T4 := Lib.hid (T3.out.bel hb4)
      clear hb4 T3 T3b T2
      have hq : ∃ p', 20 + p = p' ∧ 20 ≤ p' ∧ p' ≤ 119 := ⟨_, rfl, by omega, by omega⟩
      go_wp2_with (at_builtin; go_must (refine wpList_append_own_at _ rfl (.tmp 43) (.tmp 49) _ rfl w.heap.size 3 i0 _ 1 8 Try.underlying30 HI.out.1 HI.out.2.1 HI.out.2.2.1 HI.out.2.2.2 rfl (by decide) (.slice a6 k c6) k (kC ps) rfl ((T4.out.bel (dbox w4 (.cells #[.int .i64 (20 + p)] 3))).r6) ⟨w4.heap.size, 0, none⟩ 1 1 [.int .i64 (20 + p)] rfl rfl (bz_cells w4 [.int .i64 (20 + p)] 3) (by simp [Value.oneCell']) (by unfold maxLen; omega) (by omega) (by have := T4.out.b.size; simp; omega) ?_); intro v' w5 g1 g2 _ hat; obtain ⟨a6', c6', rfl, hT⟩ := (T4.out.bel (dbox w4 (.cells #[.int .i64 (20 + p)] 3))).pushr6 (20 + p) g1 g2 hat (by have := T4.out.b.size; simp; omega); have T5 := Lib.hid hT; clear g1 g2 hat hT)
      have D5 := Lib.hid (hd.out.snoc (u := u) (v := 20 + p) ⟨by omega, by omega⟩ ⟨by omega, by omega⟩)
      go_roundw
      case rel => exact ⟨k + 1, a5', a6', c5', c6', _, _, by omega, by go_num, rfl, rfl, T5, D5⟩
      case measure => simp [intOf]; omega
    · have hk1 : 1 ≤ k := by omega
      go_wp2_with fail
      clear hlt v0 v1
      refine Calls.mono (HC.out w1 T1.out.b 9 25 (by omega) (by omega)) ?_
      rintro e w2 ⟨b, rfl, ⟨b0, b1⟩, hb2⟩
      have T2 := Lib.hid (T1.out.bel hb2)
      clear hb2 T1
      have HRG := Lib.hid hd.out.rng
      have HL5 := Lib.hid hd.out.l5
      have HL6 := Lib.hid hd.out.l6
      have HIM : Hid (∀ X x y c' d', Lies X x (kC cs) → Lies X y (kC ps) → Calls Try.prog 12 #[.slice x k c', .slice y k d', .int .i64 b] X (BzPost (bzV cs ps b) X)) := Lib.hid (fun X x y c' d' hz hy => by
        have h := BusyPeriod_any cs ps b x y c' d' ⟨by rw [HL5.out]; unfold maxLen; omega, by rw [HL6.out]; unfold maxLen; omega⟩ X hz hy
        rw [busy_rng HRG.out (by rw [HL5.out]; omega) ⟨b0, by omega⟩, HL5.out, HL6.out] at h
        exact h)
      have HSP : Hid (∀ X x y c' d', Lies X x (kC cs) → Lies X y (kC ps) → Calls Try.prog 10 #[.slice x k c', .slice y k d', .int .i64 b] X (BzPost (bzV cs ps b) X)) := Lib.hid (fun X x y c' d' hz hy => by
        have h := specBusyPeriod_any cs ps b x y c' d' ⟨by rw [HL5.out]; unfold maxLen; omega, by rw [HL6.out]; unfold maxLen; omega⟩ X hz hy
        rw [busy_rng HRG.out (by rw [HL5.out]; omega) ⟨b0, by omega⟩, HL5.out, HL6.out] at h
        exact h)
      rcases bz_two cs ps b with ⟨nn, hv⟩ | hv
      case inr =>
        rw [hv] at HIM HSP
        clear hv
        go_wp2_with fail
        refine Calls.mono (HIM.out w2 a5 a6 c5 c6 (lies_own T2.out.r5) (lies_own T2.out.r6)) ?_
        rintro e w3 ⟨rfl, hb3⟩
        have T3 := Lib.hid (T2.out.bel hb3)
        clear hb3
        go_wp2_with fail
        refine Calls.mono (HSP.out w3 a5 a6 c5 c6 (lies_own T3.out.r5) (lies_own T3.out.r6)) ?_
        rintro e w4 ⟨rfl, hb4⟩
        have T4 := Lib.hid (T3.out.bel hb4)
        clear hb4
        go_wp2
        go_ret
        exact ⟨rfl, T4.out.b⟩
      have HV := Lib.hid hv
      rw [hv] at HIM HSP
      obtain ⟨m1, m2, m3, m4⟩ := bz_min HRG.out hv
      have HM3 := Lib.hid m3
      have HM4 := Lib.hid m4
      have e1 : (nn != nn) = false := by simp
      clear hv m3 m4
      go_wp2_with fail
      refine Calls.mono (HIM.out w2 a5 a6 c5 c6 (lies_own T2.out.r5) (lies_own T2.out.r6)) ?_
      rintro e w3 ⟨rfl, hb3⟩
      have T3 := Lib.hid (T2.out.bel hb3)
      clear hb3 T2
      go_wp2_with fail
      refine Calls.mono (HSP.out w3 a5 a6 c5 c6 (lies_own T3.out.r5) (lies_own T3.out.r6)) ?_
      rintro e w4 ⟨rfl, hb4⟩
      have T4 := Lib.hid (T3.out.bel hb4)
      clear hb4 T3
      go_wp2_with fail
      go_loopw [13] (fun t wr => ∃ s : Int, 1 ≤ s ∧ s ≤ nn + 1 ∧ t = .int .i64 s ∧ Hid (TR w k k a5 c5 a6 c6 cs ps wr)) (fun t _ => (nn + 1 - intOf t).toNat)
      case atStart => exact ⟨1, by omega, by omega, rfl, T4⟩
      case round =>
        obtain ⟨s, s1, s2, rfl, ht⟩ := hrel
        by_cases hsn : s ≤ nn
        · obtain ⟨D, hD⟩ : ∃ D, dem cs ps b s = D := ⟨_, rfl⟩
          have HD0 : Hid (dem (cs.drop 0) (ps.drop 0) b s = D) := Lib.hid hD
          have HLE : Hid (s = nn → D ≤ nn) := Lib.hid (fun e => by rw [← hD, e]; exact HM3.out)
          have HLT : Hid (s < nn → s < D) := Lib.hid (fun e => by rw [← hD]; exact HM4.out s s1 e)
          have HEN : Hid (∀ acc, dem (cs.drop k) (ps.drop k) acc s = acc) := Lib.hid (fun acc => by have h := dem_end HRG.out.1 acc s; rwa [HL5.out] at h)
          have HST : Hid (∀ j, j < k → ∀ acc, dem (cs.drop j) (ps.drop j) acc s = dem (cs.drop (j + 1)) (ps.drop (j + 1)) (acc + quo s (ps.getD j 0) * cs.getD j 0) s) := Lib.hid (fun j hj acc => dem_step (by rw [HL5.out]; exact hj) HRG.out.1 acc s)
          clear hD
          go_wp2_with fail
          go_loopw [14, 15] (fun na i wr2 => ∃ (j : Nat) (acc : Int), j ≤ k ∧ i = .int .i64 j ∧ na = .int .i64 acc ∧ 0 ≤ acc ∧ acc ≤ 5000 + 25000000 * (j : Int) ∧ Hid (dem (cs.drop j) (ps.drop j) acc s = D) ∧ Hid (TR w k k a5 c5 a6 c6 cs ps wr2)) (fun _ i _ => k - (intOf i).toNat)
          case atStart => exact ⟨0, b, Nat.zero_le _, rfl, rfl, b0, by omega, HD0, ht⟩
          case round =>
            obtain ⟨j, acc, hj, rfl, rfl, ha0, ha1, hdm, ht2⟩ := hrel
            by_cases hjk : j < k
            · obtain ⟨zb, zo, rfl, hzb, hcs⟩ := (lies_own ht2.out.r5).open (by rw [kC_len, HL5.out]; omega)
              obtain ⟨yb, yo, rfl, hyb, hys⟩ := (lies_own ht2.out.r6).open (by rw [kC_len, HL6.out]; omega)
              have d0 := kind_at hcs (i := j) (by rw [HL5.out]; exact hjk)
              have d1 := kind_at hys (i := j) (by rw [HL6.out]; exact hjk)
              obtain ⟨r10, r11⟩ := HRG.out.2.1 j (by rw [HL5.out]; exact hjk)
              obtain ⟨r20, r21⟩ := HRG.out.2.2 j (by rw [HL5.out]; exact hjk)
              have HN := Lib.hid ((HST.out j hjk acc).symm.trans hdm.out)
              generalize cs.getD j 0 = u at *
              generalize ps.getD j 0 = p at *
              obtain ⟨q0, q1⟩ := quo_bd (n := s) (p := p) (by omega) r20
              have HQ : Hid (quo s p = (s + p - 1) / p) := Lib.hid rfl
              have hq := HQ.out
              obtain ⟨q, hq2⟩ : ∃ q, quo s p = q := ⟨_, rfl⟩
              rw [hq2] at HN q0 q1 hq
              obtain ⟨y0, y1⟩ := mul_bd (q := q) (c := u) q0 (by omega) r10 r11
              rw [Int.mul_comm u q] at y0 y1
              have v1 := IntWalk.i64_in (s + p) (by omega)
              have v2 := IntWalk.i64_in (s + p - 1) (by omega)
              have v3 := IntWalk.i64_in q (by omega)
              have v4 := IntWalk.i64_in (q * u) (by omega)
              have v5 := IntWalk.i64_in (acc + q * u) (by omega)
              have t1 : (s + p - 1).tdiv p = q := by rw [Int.tdiv_eq_ediv_of_nonneg (by omega)]; exact hq.symm
              have p0 : (p == 0) = false := beq_eq_false_iff_ne.2 (by omega)
              have p1 : ¬ p = 0 := by omega
              have lk : (j : Int) < (k : Int) := by omega
              have v6 := IntWalk.i64_in (j : Int) (by omega)
              clear hcs hys hq hq2
              go_wp2_with fail
              go_quiet (fail)
              clear v1 v2 v3 v4 v5 v6 t1 p0 p1
              go_wp2
              go_roundw
              case rel => exact ⟨j + 1, acc + q * u, by omega, by go_num, rfl, by omega, by omega, HN, Lib.hid (ht2.out.bel (bel_dn (Below.refl _ _) _))⟩
              case measure => simp [intOf]; omega
            · obtain rfl : j = k := by omega
              obtain rfl : acc = D := (HEN.out acc).symm.trans hdm.out
              by_cases hs : s = nn
              · have g1 := HLE.out hs
                subst hs
                have g2 : (s == s) = true := by simp
                clear hdm
                go_wp2
                go_roundw
                case rel => exact ⟨s + 1, by omega, by omega, rfl, ht2⟩
                case measure => simp [intOf]; omega
              · have g1 := HLT.out (by omega)
                have g2 : (s == nn) = false := beq_eq_false_iff_ne.2 hs
                have g3 : ¬ acc ≤ s := by omega
                clear hdm
                go_wp2
                go_roundw
                case rel => exact ⟨s + 1, by omega, by omega, rfl, ht2⟩
                case measure => simp [intOf]; omega
        · go_wp2_with fail
          refine Calls.mono (HM.out wr ht.out.b 5 (k : Int) (by omega) (by omega)) ?_
          rintro e w5 ⟨v, rfl, ⟨v0, v1⟩, hb5⟩
          have T5 := Lib.hid (ht.out.bel hb5)
          clear hb5 T4 ht
          obtain ⟨j, rfl⟩ : ∃ j : Nat, v = j := ⟨v.toNat, by omega⟩
          have hjk : j < k := by omega
          rcases own_form T5.out.r5 with ⟨-, h0⟩ | ⟨g, cc, hsl⟩
          · omega
          cases hsl
          have d0 : w5.cell? ⟨g, 0 + j, none⟩ = some (.int .i64 (cs.getD j 0)) := by
            have h := T5.out.r5.cellAt j (by omega)
            rw [Nat.zero_add, h]
            have hx : cs[j]? = some (cs.getD j 0) := by simp [List.getD, HL5.out, hjk]
            unfold kC
            rw [List.getElem?_map, hx]
            rfl
          have f0 := T5.out.r5.frozenAt j
          rw [Nat.zero_add] at d0
          obtain ⟨u0, u1⟩ := HRG.out.2.1 j (by rw [HL5.out]; exact hjk)
          obtain ⟨HUP1, HUP2⟩ := (⟨Lib.hid (hd.out.up hjk).1, Lib.hid (hd.out.up hjk).2⟩ : Hid _ ∧ Hid _)
          have T6 := Lib.hid (T5.out.set5 j hjk (cs.getD j 0 + 1))
          have HL7 : Hid ((cs.set j (cs.getD j 0 + 1)).length = k) := Lib.hid (by rw [List.length_set]; exact HL5.out)
          have HMR := Lib.hid (fun m h => bz_more (m := m) HRG.out HUP1.out HUP2.out HV.out h)
          have HIM : Hid (∀ X x y c' d', Lies X x (kC (cs.set j (cs.getD j 0 + 1))) → Lies X y (kC ps) → Calls Try.prog 12 #[.slice x k c', .slice y k d', .int .i64 (b + 1)] X (BzPost (bzV (cs.set j (cs.getD j 0 + 1)) ps (b + 1)) X)) := Lib.hid (fun X x y c' d' hz hy => by
            have h := BusyPeriod_any _ ps (b + 1) x y c' d' ⟨by rw [HL7.out]; unfold maxLen; omega, by rw [HL6.out]; unfold maxLen; omega⟩ X hz hy
            rw [busy_rng HUP1.out (by rw [HL7.out]; omega) ⟨by omega, by omega⟩, HL7.out, HL6.out] at h
            exact h)
          have HSP : Hid (∀ X x y c' d', Lies X x (kC (cs.set j (cs.getD j 0 + 1))) → Lies X y (kC ps) → Calls Try.prog 10 #[.slice x k c', .slice y k d', .int .i64 (b + 1)] X (BzPost (bzV (cs.set j (cs.getD j 0 + 1)) ps (b + 1)) X)) := Lib.hid (fun X x y c' d' hz hy => by
            have h := specBusyPeriod_any _ ps (b + 1) x y c' d' ⟨by rw [HL7.out]; unfold maxLen; omega, by rw [HL6.out]; unfold maxLen; omega⟩ X hz hy
            rw [busy_rng HUP1.out (by rw [HL7.out]; omega) ⟨by omega, by omega⟩, HL7.out, HL6.out] at h
            exact h)
          have HTW := Lib.hid (bz_two (cs.set j (cs.getD j 0 + 1)) ps (b + 1))
          clear T5 HUP1 HUP2 HL7 HV HM3 HM4
          generalize cs.set j (cs.getD j 0 + 1) = cs' at *
          generalize cs.getD j 0 = x at *
          go_wp2_with fail
          generalize w5.setCell ⟨g, j, none⟩ (.int .i64 (x + 1)) = w6 at *
          clear d0 f0
          rcases HTW.out with ⟨mm, hv⟩ | hv
          · have g1 := HMR.out mm hv
            rw [hv] at HIM HSP
            have e2 : (mm == mm) = true := by simp
            clear hv
            refine Calls.mono (HIM.out w6 _ a6 c5 c6 (lies_own T6.out.r5) (lies_own T6.out.r6)) ?_
            rintro e w7 ⟨rfl, hb7⟩
            have T7 := Lib.hid (T6.out.bel hb7)
            clear hb7
            go_wp2_with fail
            refine Calls.mono (HSP.out w7 _ a6 c5 c6 (lies_own T7.out.r5) (lies_own T7.out.r6)) ?_
            rintro e w8 ⟨rfl, hb8⟩
            have T8 := Lib.hid (T7.out.bel hb8)
            clear hb8
            go_wp2
            go_ret
            exact ⟨rfl, T8.out.b⟩
          · rw [hv] at HIM HSP
            clear hv
            refine Calls.mono (HIM.out w6 _ a6 c5 c6 (lies_own T6.out.r5) (lies_own T6.out.r6)) ?_
            rintro e w7 ⟨rfl, hb7⟩
            have T7 := Lib.hid (T6.out.bel hb7)
            clear hb7
            go_wp2_with fail
            refine Calls.mono (HSP.out w7 _ a6 c5 c6 (lies_own T7.out.r5) (lies_own T7.out.r6)) ?_
            rintro e w8 ⟨rfl, hb8⟩
            have T8 := Lib.hid (T7.out.bel hb8)
            clear hb8
            go_wp2
            go_ret
            exact ⟨rfl, T8.out.b⟩
end Go.Proofs.Ytppgknjpbfopjaa
