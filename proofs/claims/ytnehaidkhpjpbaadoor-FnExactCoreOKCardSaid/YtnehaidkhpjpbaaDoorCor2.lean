/- Frames and cores: copied, compared by the laws. -/
import Derived.Test.YtnehaidkhpjpbaaDoorCor
namespace Go.Proofs.YtnehaidkhpjpbaaDoor
open Go.ChangeShapes Go.WideShapes Go.ChangeAt Go.RowKit
set_option linter.unusedVariables false
def FrPost (r p : Int) (l : List Int) (w : World) (e : Ending) (w' : World) : Prop := ∃ g, e = .returned (.agg #[.int .i64 r, .int .i64 p, .slice (some ⟨g, 0, none⟩) l.length l.length]) ∧ w'.ownsRow w.heap.size 3 1 (.slice (some ⟨g, 0, none⟩) l.length l.length) l.length (kC l) ∧ Below w.heap.size w w'
theorem HB3 (w : World) : Hid (∀ O O' O'' : Obj, Below w.heap.size w (((w.alloc O).alloc O').alloc O'')) := Lib.hid (fun O O' O'' => (((Below.refl w.heap.size w).alloc (Nat.le_refl _) O).alloc (by simp) O').alloc (by simp; omega) O'')
theorem HK3 (w : World) : Hid (∀ O O' O'' : Obj, (((w.alloc O).alloc O').alloc O'').heap[w.heap.size]? = some O ∧ (((w.alloc O).alloc O').alloc O'').heap[w.heap.size + 1]? = some O' ∧ (((w.alloc O).alloc O').alloc O'').heap[w.heap.size + 2]? = some O'' ∧ (((w.alloc O).alloc O').alloc O'').heap.size = w.heap.size + 3) := Lib.hid (fun O O' O'' =>
    ⟨(Below.heap_alloc _ O'' w.heap.size (by simp; omega)).trans (heap_alloc2_old w O O'), (Below.heap_alloc _ O'' (w.heap.size + 1) (by simp)).trans (heap_alloc2_new w O O'), by have := heap_alloc_new ((w.alloc O).alloc O') O''; simpa using this, by simp⟩)
set_option maxRecDepth 100000 in
set_option maxHeartbeats 1000000 in
theorem toFrame_any (r p : Int) (l : List Int) (a : Option Addr) (c : Nat) (hn : l.length ≤ 1048576) (w : World) (hz : Lies w a (kC l)) :
    Calls Tryd.prog 118 #[.agg #[.int .i64 r, .int .i64 p, .slice a l.length c]] w (FrPost r p l w) := by
  have HA := Lib.hid (fun w hz => toIntS_ex l a c hn w hz)
  have HZ := Lib.hid hz
  clear hz
  have HB := HB3 w
  have HK := HK3 w
  have HR : Hid (∀ g w', w'.ownsRow w.heap.size 3 1 (.slice (some ⟨g, 0, none⟩) l.length l.length) l.length (kC l) → Below w.heap.size w w' → FrPost r p l w (.returned (.agg #[.int .i64 r, .int .i64 p, .slice (some ⟨g, 0, none⟩) l.length l.length])) w') := Lib.hid (fun g w' h2 h3 => ⟨g, rfl, h2, h3⟩)
  generalize FrPost r p l w = POST at *
  generalize l.length = n at *
  generalize kC l = xs at *
  go_enter Tryd.func118, Tryd.ntmps118
  go_wp2_with fail
  refine Calls.mono (HA.out _ (HZ.out.below (HB.out _ _ _) (Nat.le_refl _))) ?_
  rintro e w1 ⟨g, rfl, ho, hb⟩
  obtain ⟨_, k1, k2, k3⟩ := HK.out (.cells #[.int .i64 r, .int .i64 p, .slice a n c] 154) (.cells #[.int .i64 0, .int .i64 0, .slice none 0 0] 149) (.cells #[.int .i64 r, .int .i64 p, .slice none 0 0] 149)
  have q1 := blk_bel k1 hb
  have q2 := blk_bel k2 hb
  have Hb := Lib.hid ((HB.out _ _ _).trans (hb.mono (HB.out _ _ _).size))
  rw [k3] at ho
  have HO := Lib.hid ho
  have c0 := cell_of_row w1 (w.heap.size + 1) 0 _ _ _ q1
  have f0 := frozen_of_row w1 (w.heap.size + 1) 0 _ _ q1
  have c1 := cell_of_row w1 (w.heap.size + 1) 1 _ _ _ q1
  have f1 := frozen_of_row w1 (w.heap.size + 1) 1 _ _ q1
  have c2 := cell_of_row w1 (w.heap.size + 1) 2 _ _ _ q1
  have f2 := frozen_of_row w1 (w.heap.size + 1) 2 _ _ q1
  have d0 := cell_of_row w1 (w.heap.size + 2) 0 _ _ _ q2
  have d1 := cell_of_row w1 (w.heap.size + 2) 1 _ _ _ q2
  have d2 := cell_of_row w1 (w.heap.size + 2) 2 _ _ _ q2
  have g2 := frozen_of_row w1 (w.heap.size + 2) 2 _ _ q2
  clear hb q1 q2 k1 k2 k3 ho
  go_wp2
  refine bodyPost_ret (v := .agg #[.int .i64 r, .int .i64 p, .slice (some ⟨g, 0, none⟩) n n]) (by simp [results, Tryd.results118, go_sem, c0, c1, c2]) rfl (HR.out g _ ?_ ?_)
  · exact own_base (own_far (own_far (own_far (own_far HO.out (by omega) _) (by omega) _) (by omega) _) (by omega) _) (by omega)
  · exact bel_set (bel_set (bel_set (bel_set Hb.out (by omega) _) (by omega) _) (by omega) _) (by omega) _
/-- The row of frames that a copy fills. -/
def FillF (w : World) (B n : Nat) (rs : List FR) : Prop := ∃ tl : List Value, tl.length = (n - rs.length) * 3 ∧ rs.length ≤ n ∧ w.ownsRow B 149 3 (.slice (some ⟨B, 0, none⟩) n n) n (flat frC rs ++ tl)
theorem FillF.store {w : World} {B n : Nat} {rs : List FR} (h : FillF w B n rs) (hlt : rs.length < n) (x : FR) : FillF (((w.setCell ⟨B, rs.length * 3, none⟩ (.int .i64 x.1)).setCell ⟨B, rs.length * 3 + 1, none⟩ (.int .i64 x.2.1)).setCell ⟨B, rs.length * 3 + 2, none⟩ (.slice x.2.2.1 x.2.2.2.1 x.2.2.2.2)) B n (rs ++ [x]) := by
  obtain ⟨tl, h1, h2, h3⟩ := h
  have hm : (n - rs.length) * 3 = 3 + (n - (rs.length + 1)) * 3 := by omega
  obtain ⟨h4, _⟩ := own_storeAll (frC x) _ (rs.length * 3) w h3
  have h5 := over_mid (frC x) (flat frC rs) (tl.take 3) (tl.drop 3) (by rw [List.length_take, frC_len]; omega)
  rw [flat_len frC_len, List.append_assoc, List.take_append_drop] at h5
  rw [h5] at h4
  refine ⟨tl.drop 3, by rw [List.length_drop, List.length_append, List.length_singleton]; omega, by rw [List.length_append, List.length_singleton]; omega, ?_⟩
  rw [flat_snoc]
  exact h4
theorem FillF.bel {w w' : World} {B n : Nat} {rs : List FR} (h : FillF w B n rs) (hb : Below w.heap.size w w') : FillF w' B n rs := by
  obtain ⟨tl, h1, h2, h3⟩ := h
  exact ⟨tl, h1, h2, own_bl h3 hb⟩
theorem FillF.there {w : World} {B n : Nat} {rs : List FR} (h : FillF w B n rs) (hlt : rs.length < n) (j : Nat) (hj : j < 3) : (∃ v, w.cell? ⟨B, rs.length * 3 + j, none⟩ = some v) ∧ w.frozen? ⟨B, rs.length * 3 + j, none⟩ = false := by
  obtain ⟨tl, h1, h2, h3⟩ := h
  have hc := h3.cellAt (rs.length * 3 + j) (by omega)
  refine ⟨?_, h3.frozenAt _⟩
  rw [hc]
  have : rs.length * 3 + j < (flat frC rs ++ tl).length := by rw [List.length_append, flat_len frC_len]; omega
  exact ⟨_, List.getElem?_eq_getElem this⟩
/-- The counters of the first frames, each in a block of the call's own. -/
structure RowsF (w : World) (B : Nat) (rs : List FR) (fs : List FM) : Prop where
  each : ∀ j, j < rs.length → ∃ g, rs.getD j fr0 = ((fs.getD j fm0).1, (fs.getD j fm0).2.1, some ⟨g, 0, none⟩, (fs.getD j fm0).2.2.length, (fs.getD j fm0).2.2.length) ∧ w.ownsRow (B + 1) 3 1 (.slice (some ⟨g, 0, none⟩) (fs.getD j fm0).2.2.length (fs.getD j fm0).2.2.length) (fs.getD j fm0).2.2.length (kC (fs.getD j fm0).2.2)
  apart : ∀ i j, i < j → j < rs.length → (rs.getD i fr0).2.2.1 ≠ (rs.getD j fr0).2.2.1
theorem RowsF.nil (w : World) (B : Nat) (fs : List FM) : RowsF w B [] fs := ⟨fun j h => by simp at h, fun i j _ h => by simp at h⟩
theorem RowsF.bel {w w' : World} {B : Nat} {rs : List FR} {fs : List FM} (h : RowsF w B rs fs) (hb : Below w.heap.size w w') : RowsF w' B rs fs :=
  ⟨fun j hj => by obtain ⟨g, h1, h2⟩ := h.each j hj; exact ⟨g, h1, own_bl h2 hb⟩, h.apart⟩
theorem RowsF.far {w : World} {B i : Nat} {rs : List FR} {fs : List FM} (h : RowsF w B rs fs) (u : Value) : RowsF (w.setCell ⟨B, i, none⟩ u) B rs fs :=
  ⟨fun j hj => by obtain ⟨g, h1, h2⟩ := h.each j hj; exact ⟨g, h1, own_far h2 (by omega) u⟩, h.apart⟩
theorem RowsF.lt {w : World} {B : Nat} {rs : List FR} {fs : List FM} (h : RowsF w B rs fs) {j : Nat} (hj : j < rs.length) {g : Nat} (hg : (rs.getD j fr0).2.2.1 = some ⟨g, 0, none⟩) : B < g ∧ g < w.heap.size := by
  obtain ⟨g', h1, h2⟩ := h.each j hj
  rw [h1] at hg
  simp only [Option.some.injEq, Addr.mk.injEq, and_true] at hg
  subst hg
  have := h2.lt g' rfl
  omega
theorem gdF_lt {rs : List FR} {x : FR} {j : Nat} (h : j < rs.length) : (rs ++ [x]).getD j fr0 = rs.getD j fr0 := by simp [List.getD, List.getElem?_append_left h]
theorem gdF_eq {rs : List FR} {x : FR} : (rs ++ [x]).getD rs.length fr0 = x := by simp [List.getD]
theorem RowsF.snoc {w : World} {B M : Nat} {rs : List FR} {fs : List FM} (h : RowsF w B rs fs) {g : Nat} (hM : ∀ j g', j < rs.length → (rs.getD j fr0).2.2.1 = some ⟨g', 0, none⟩ → g' < M) (hg : M ≤ g)
    (hz : w.ownsRow (B + 1) 3 1 (.slice (some ⟨g, 0, none⟩) (fs.getD rs.length fm0).2.2.length (fs.getD rs.length fm0).2.2.length) (fs.getD rs.length fm0).2.2.length (kC (fs.getD rs.length fm0).2.2)) :
    RowsF w B (rs ++ [((fs.getD rs.length fm0).1, (fs.getD rs.length fm0).2.1, some ⟨g, 0, none⟩, (fs.getD rs.length fm0).2.2.length, (fs.getD rs.length fm0).2.2.length)]) fs := by
  refine ⟨fun j hj => ?_, fun i j hij hj => ?_⟩
  · by_cases e : j < rs.length
    · rw [gdF_lt e]; exact h.each j e
    · obtain rfl : j = rs.length := by simp at hj; omega
      rw [gdF_eq]
      exact ⟨g, rfl, hz⟩
  · by_cases e : j < rs.length
    · rw [gdF_lt e, gdF_lt (by omega)]; exact h.apart i j hij e
    · obtain rfl : j = rs.length := by simp at hj; omega
      rw [gdF_eq, gdF_lt hij]
      obtain ⟨g', h1, _⟩ := h.each i hij
      have := hM i g' hij (by rw [h1])
      rw [h1]
      intro e'
      simp only [Option.some.injEq, Addr.mk.injEq, and_true] at e'
      omega
/-- Frames in the call's own memory: the row in block B, the counters in blocks behind it, all ahead of hi. -/
structure FOwn (B hi : Nat) (fs : List FM) (w : World) : Prop where
  rows : ∃ rs : List FR, rs.length = fs.length ∧ w.ownsRow B 149 3 (.slice (some ⟨B, 0, none⟩) fs.length fs.length) fs.length (flat frC rs) ∧ RowsF w B rs fs ∧ B < hi ∧ ∀ j g, j < rs.length → (rs.getD j fr0).2.2.1 = some ⟨g, 0, none⟩ → g < hi
theorem FOwn.bel {B hi : Nat} {fs : List FM} {w w' : World} (h : FOwn B hi fs w) (hb : Below w.heap.size w w') : FOwn B hi fs w' := by
  obtain ⟨rs, h1, h2, h3, h4, h5⟩ := h.rows
  exact ⟨rs, h1, own_bl h2 hb, h3.bel hb, h4, h5⟩
theorem FOwn.frs {B hi : Nat} {fs : List FM} {w : World} (h : FOwn B hi fs w) : Frs w (some ⟨B, 0, none⟩) fs := by
  obtain ⟨rs, h1, h2, h3, h4, h5⟩ := h.rows
  refine ⟨rs, h1, lies_own h2, fun j hj => ?_⟩
  obtain ⟨g, e, ho⟩ := h3.each j (by omega)
  rw [e]
  exact ⟨rfl, rfl, rfl, lies_own ho⟩
def ToFPost (fs : List FM) (w : World) (e : Ending) (w' : World) : Prop := e = .returned (.slice (some ⟨w.heap.size, 0, none⟩) fs.length fs.length) ∧ FOwn w.heap.size w'.heap.size fs w' ∧ Below w.heap.size w w'
set_option maxRecDepth 100000 in
set_option maxHeartbeats 1000000 in
theorem toFrameS_any (fs : List FM) (a : Option Addr) (c : Nat) (hn : fs.length ≤ 1048576) (hl : ∀ j, j < fs.length → (fs.getD j fm0).2.2.length ≤ 1048576) (w : World) (hz : Frs w a fs) :
    Calls Tryd.prog 87 #[.slice a fs.length c] w (ToFPost fs w) := by
  obtain ⟨i0, hi, hz0, hz1, hz2⟩ := info_parts (show (Tryd.prog.info? 149).map (fun i => (i.zero, i.size, i.bytes)) = some (some (.agg #[.int .i64 0, .int .i64 0, .slice none 0 0]), 3, 40) by kernel_rfl)
  have HI := Lib.hid (And.intro hi (And.intro hz0 (And.intro hz1 hz2)))
  clear hi hz0 hz1 hz2
  have HZ := Lib.hid hz
  have HM := Lib.hid hl
  have HA := Lib.hid (fun w (h : Frs w a fs) j (hj : j < fs.length) => h.at hj)
  have HP : Hid (∀ w' (rs : List FR), rs.length = fs.length → FillF w' w.heap.size fs.length rs → RowsF w' w.heap.size rs fs → Below w.heap.size w w' → ToFPost fs w (.returned (.slice (some ⟨w.heap.size, 0, none⟩) fs.length fs.length)) w') := Lib.hid (fun w' rs h1 h2 h3 h4 => by
    obtain ⟨tl, g1, g2, g3⟩ := h2
    have ht : tl = [] := List.eq_nil_of_length_eq_zero (by omega)
    subst ht
    rw [List.append_nil] at g3
    exact ⟨rfl, ⟨rs, h1, g3, h3, (g3.lt w.heap.size rfl).2, fun j g hj e => (h3.lt hj e).2⟩, h4⟩)
  clear hz hl
  generalize ToFPost fs w = POST at *
  generalize hL : fs.length = n at *
  have HL := Lib.hid hL
  clear hL
  go_enter Tryd.func87, Tryd.ntmps87
  go_wp2_with (at_make; go_must (refine wpList_make_full _ rfl _ _ _ rfl w.heap.size 149 i0 _ 3 Tryd.underlying60 HI.out.1 HI.out.2.1 HI.out.2.2.1 .i64 .i64 _ _ n rfl rfl rfl rfl (by rw [HI.out.2.2.2]; omega) (by unfold maxLen; omega) (Nat.le_refl _) ?_); intro w1 hown1 hgrow1)
  have Ho1 : Hid (FillF w1 w.heap.size n []) := Lib.hid ⟨_, by have := hown1.1; simpa using this, Nat.zero_le _, hown1⟩
  have Hb1 := Lib.hid ((Below.refl w.heap.size w).grown hgrow1 (Nat.le_refl _) (by intro k hk; cases hk))
  clear hown1 hgrow1
  go_loopw [4] (fun i wr => ∃ (k : Nat) (rs : List FR), k ≤ n ∧ i = .int .i64 k ∧ Hid (rs.length = k) ∧ Hid (FillF wr w.heap.size n rs) ∧ Hid (RowsF wr w.heap.size rs fs) ∧ Hid (Below w.heap.size w wr)) (fun i _ => n - (intOf i).toNat)
  case atStart => exact ⟨0, [], Nat.zero_le _, rfl, Lib.hid rfl, Ho1, Lib.hid (RowsF.nil _ _ _), Hb1⟩
  case round =>
    obtain ⟨k, rs, hk, rfl, hrl, hf, hc, hb⟩ := hrel
    by_cases hlt : k < n
    · obtain ⟨b, o, x, c2, rfl, hbl, hc0, hc1, hc2, hlies⟩ := HA.out w HZ.out k hlt
      have d0 := (hb.out.cell (p := ⟨b, o + k * 3, none⟩) hbl).trans hc0
      have d1 := (hb.out.cell (p := ⟨b, o + k * 3 + 1, none⟩) hbl).trans hc1
      have d2 := (hb.out.cell (p := ⟨b, o + k * 3 + 2, none⟩) hbl).trans hc2
      have HT := Lib.hid (toFrame_any (fs.getD k fm0).1 (fs.getD k fm0).2.1 (fs.getD k fm0).2.2 x c2 (HM.out k hlt) wr (hlies.below hb.out (Nat.le_refl _)))
      clear hc0 hc1 hc2 hlies
      go_wp2_with fail
      refine Calls.mono HT.out ?_
      rintro e w2 ⟨g, rfl, ho2, hb2⟩
      have hf2 := hf.out.bel hb2
      have hgM : wr.heap.size ≤ g := (ho2.lt g rfl).1
      have hBw : w.heap.size < wr.heap.size := by
        obtain ⟨tl, _, _, h3⟩ := hf.out
        exact (h3.lt w.heap.size rfl).2
      obtain ⟨⟨v0, e0⟩, f0⟩ := hf2.there (by rw [hrl.out]; exact hlt) 0 (by omega)
      obtain ⟨⟨v1, e1⟩, f1⟩ := hf2.there (by rw [hrl.out]; exact hlt) 1 (by omega)
      obtain ⟨⟨v2, e2⟩, f2⟩ := hf2.there (by rw [hrl.out]; exact hlt) 2 (by omega)
      rw [Nat.add_zero] at e0 f0
      have hf3 := hf2.store (by rw [hrl.out]; exact hlt) ((fs.getD rs.length fm0).1, (fs.getD rs.length fm0).2.1, some ⟨g, 0, none⟩, (fs.getD rs.length fm0).2.2.length, (fs.getD rs.length fm0).2.2.length)
      have hc3 := ((((hc.out.bel hb2).snoc (M := wr.heap.size) (fun j g' hj e => (hc.out.lt hj e).2) hgM (by rw [hrl.out]; exact own_base ho2 (by omega))).far (i := rs.length * 3) (.int .i64 (fs.getD rs.length fm0).1)).far (i := rs.length * 3 + 1) (.int .i64 (fs.getD rs.length fm0).2.1)).far (i := rs.length * 3 + 2) (.slice (some ⟨g, 0, none⟩) (fs.getD rs.length fm0).2.2.length (fs.getD rs.length fm0).2.2.length)
      rw [hrl.out] at e0 f0 e1 f1 e2 f2 hf3 hc3
      have HF3 := Lib.hid hf3
      have HC3 := Lib.hid hc3
      have HB3 := Lib.hid (bel_set (i := k * 3 + 2) (bel_set (i := k * 3 + 1) (bel_set (p := w.heap.size) (i := k * 3) (hb.out.trans (hb2.mono hb.out.size)) (Nat.le_refl _) (.int .i64 (fs.getD k fm0).1)) (Nat.le_refl _) (.int .i64 (fs.getD k fm0).2.1)) (Nat.le_refl _) (.slice (some ⟨g, 0, none⟩) (fs.getD k fm0).2.2.length (fs.getD k fm0).2.2.length))
      have HRL : Hid ((rs ++ [(((fs.getD k fm0).1, (fs.getD k fm0).2.1, some ⟨g, 0, none⟩, (fs.getD k fm0).2.2.length, (fs.getD k fm0).2.2.length) : FR)]).length = k + 1) := Lib.hid (by simp [hrl.out])
      clear hf2 hf3 hc3 hb2 ho2 d0 d1 d2 HT
      generalize (fs.getD k fm0).2.2.length = q at *
      generalize (fs.getD k fm0).1 = r at *
      generalize (fs.getD k fm0).2.1 = p at *
      go_wp2
      go_roundw
      case rel => exact ⟨k + 1, _, by omega, by go_num, HRL, HF3, HC3, HB3⟩
      case measure => simp [intOf]; omega
    · obtain rfl : k = n := by omega
      go_wp2
      exact HP.out _ rs hrl.out hf.out hc.out hb.out
end Go.Proofs.YtnehaidkhpjpbaaDoor
