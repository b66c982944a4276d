/- spec's OfferEvent, TakeEvent, DropEvents, BalanceOf, NewSource. (Written by tools/gen_evs.py.) -/
import Derived.Test.YtgbnoaclklbjbaaEvO
import Derived.Laws.AppendOwnNone
import Derived.Maps.AppendAt
namespace Go.Proofs.Ytgbnoaclklbjbaa
open Go.ChangeShapes Go.WideShapes Go.ChangeAt Go.RowKit
set_option linter.unusedVariables false
theorem ssok_is {x : ST} {z : TT} {r : Bool} (h : sOK x z = r) (b : Option Addr) (c : Nat) (hm : x.q.length ≤ maxLen) (w : World) (hz : Lies w b (kC x.q)) :
    Calls Try.prog 18 #[sV x b c, tV z] w fun e w' => e = .returned (.bool r) ∧ Below w.heap.size w w' := h ▸ specSourceOK_any x z b c hm w hz
theorem evmax (x y : Int) : (if x < y then y else x) = max x y := by omega
theorem l10One_any (v : Int) (hv : 0 ≤ v ∧ v ≤ 2147483647) (w : World) : Calls Try.prog 65 #[.int .i64 v] w fun e w' => e = .returned (.int .i64 (cnt1 v)) ∧ w = w' := by
  by_cases h : v + 1 ≤ 2147483647
  · have e : Hid (cnt1 v = v + 1) := Lib.hid (by unfold cnt1; omega)
    go_enter Try.func65, Try.ntmps65
    go_wp2
    go_ret
    exact ⟨by rw [e.out]; rfl, rfl⟩
  · have e : Hid (cnt1 v = 2147483647) := Lib.hid (by unfold cnt1; omega)
    go_enter Try.func65, Try.ntmps65
    go_wp2
    go_ret
    exact ⟨by rw [e.out]; rfl, rfl⟩
theorem l06Bit_any (b : Bool) (w : World) : Calls Try.prog 68 #[.bool b] w fun e w' => e = .returned (.int .i64 (bitE b)) ∧ w = w' := by
  cases b
  all_goals
    go_enter Try.func68, Try.ntmps68
    go_wp2
    go_ret
    exact ⟨rfl, rfl⟩
/-- How a queue may come: an address and a capacity that fit. -/
def Fits (b : Option Addr) (n c : Nat) : Prop := n ≤ c ∧ (b = none → c = 0)
theorem fits_own {w : World} {B n c : Nat} {e : TypeId} {b : Option Addr} {xs : List Value} (h : w.ownsRow B e 1 (.slice b n c) n xs) : Fits b n c := by
  rcases h.2 with ⟨h0, hn⟩ | ⟨g, cap, cur, e1, _, _, h4, _⟩
  · simp only [Value.slice.injEq] at h0
    exact ⟨by omega, fun _ => h0.2.2⟩
  · simp only [Value.slice.injEq] at e1
    exact ⟨by omega, fun h => by rw [h] at e1; cases e1.1⟩
def OwPost (y : ST) (w : World) (e : Ending) (w' : World) : Prop :=
  ∃ b c, e = .returned (sV y b c) ∧ w'.ownsRow w.heap.size 3 1 (.slice b y.q.length c) y.q.length (kC y.q) ∧ Below w.heap.size w w'
theorem add_of {w : World} {bb bo : Nat} {cs : List Value} (h : ∀ (j : Nat) v, cs[j]? = some v → w.cell? ⟨bb, bo + j, none⟩ = some v) : ∀ j u, cs[j]? = some u → w.cell? ((⟨bb, bo, none⟩ : Addr).add j) = some u := fun j u hu => by
  have := h j u hu
  cases j <;> simpa [Addr.add] using this
theorem one_k (q : List Int) : ∀ u ∈ kC q, u.oneCell' = true := by intro u hu; simp only [kC, List.mem_map] at hu; obtain ⟨z, _, rfl⟩ := hu; rfl
/-- The source of an append, whatever its address. -/
theorem src_at {w : World} {b : Addr} {q : List Int} (h : Lies w (some b) (kC q)) : ∃ ad, some b = some ad ∧ ∀ X, Below w.heap.size w X → ∀ j u, (kC q)[j]? = some u → X.cell? (ad.add j) = some u := by
  refine ⟨b, rfl, fun X hX j u hj => ?_⟩
  rcases h with h | ⟨bb, bo, e, h⟩
  · rw [h] at hj; simp at hj
  · simp only [Option.some.injEq] at e
    subst e
    have h2 : Lies X (some ⟨bb, bo, none⟩) (kC q) := (Lies.below (Or.inr ⟨bb, bo, rfl, h⟩) hX (Nat.le_refl _))
    rcases h2 with h2 | ⟨b3, o3, e3, h2⟩
    · rw [h2] at hj; simp at hj
    · simp only [Option.some.injEq, Addr.mk.injEq, and_true] at e3
      obtain ⟨rfl, rfl⟩ := e3
      exact add_of h2 j u hj
set_option maxHeartbeats 2000000 in
theorem l10Own_any (y : ST) (b : Option Addr) (c : Nat) (hn : y.q.length ≤ 1048576) (hf : Fits b y.q.length c) (w : World) (hz : Lies w b (kC y.q)) : Calls Try.prog 51 #[sV y b c] w (OwPost y w) := by
  obtain ⟨i0, hi, hz0, hz1, hz2⟩ := info_parts (show (Try.prog.info? 3).map (fun i => (i.zero, i.size, i.bytes)) = some (some (.int .i64 0), 1, 8) by kernel_rfl)
  have HI := Lib.hid (And.intro hi (And.intro hz0 (And.intro hz1 hz2)))
  clear hi hz0 hz1 hz2
  have HK := Lib.hid (kC_len y.q)
  have H1 := Lib.hid (one_k y.q)
  have HZ := Lib.hid hz
  have HP : Hid (∀ b' c' w', w'.ownsRow w.heap.size 3 1 (.slice b' y.q.length c') y.q.length (kC y.q) → Below w.heap.size w w' → OwPost y w (.returned (sV y b' c')) w') := Lib.hid (fun b' c' w' h1 h2 => ⟨b', c', rfl, h1, h2⟩)
  generalize OwPost y w = POST at *
  obtain ⟨l, a, d, t, s, p, q⟩ := y
  dsimp only at *
  have HP : Hid (∀ b' c' w', w'.ownsRow w.heap.size 3 1 (.slice b' q.length c') q.length (kC q) → Below w.heap.size w w' → POST (.returned (.agg #[.int .i64 l, .int .i64 a, .int .i64 d, .int .i64 t, .int .i64 s, .int .i64 p, .slice b' q.length c'])) w') := HP
  show Calls Try.prog 51 #[.agg #[.int .i64 l, .int .i64 a, .int .i64 d, .int .i64 t, .int .i64 s, .int .i64 p, .slice b q.length c]] w POST
  have HX := Lib.hid (Bx2.start w (.cells #[.int .i64 l, .int .i64 a, .int .i64 d, .int .i64 t, .int .i64 s, .int .i64 p, .slice b q.length c] 24) (.cells #[.int .i64 0, .int .i64 0, .int .i64 0, .int .i64 0, .int .i64 0, .int .i64 0, .slice none 0 0] 24))
  show Calls Try.prog 51 #[.agg #[.int .i64 l, .int .i64 a, .int .i64 d, .int .i64 t, .int .i64 s, .int .i64 p, .slice b q.length c]] w POST
  have HSZ : Hid (w.heap.size + 2 ≤ ((w.alloc (.cells #[.int .i64 l, .int .i64 a, .int .i64 d, .int .i64 t, .int .i64 s, .int .i64 p, .slice b q.length c] 24)).alloc (.cells #[.int .i64 0, .int .i64 0, .int .i64 0, .int .i64 0, .int .i64 0, .int .i64 0, .slice none 0 0] 24)).heap.size) := Lib.hid (by simp)
  generalize hn1 : q.length = n at *
  have HN := Lib.hid hn1
  clear hn1
  rcases b with _ | ad
  · obtain ⟨h0, hc⟩ := hf
    obtain rfl : c = 0 := hc rfl
    obtain rfl : n = 0 := by omega
    have HQ : Hid (kC q = []) := Lib.hid (by have := HN.out; rw [List.eq_nil_of_length_eq_zero this]; rfl)
    clear H1 HZ hn h0 hc HK
    go_enter Try.func51, Try.ntmps51
    go_upto_region 1 with (fail)
    generalize hW0 : (w.alloc (.cells #[.int .i64 l, .int .i64 a, .int .i64 d, .int .i64 t, .int .i64 s, .int .i64 p, .slice none 0 0] 24)).alloc (.cells #[.int .i64 0, .int .i64 0, .int .i64 0, .int .i64 0, .int .i64 0, .int .i64 0, .slice none 0 0] 24) = W0 at *
    clear hW0
    have c6 := cell_of_row W0 w.heap.size 6 _ _ _ HX.out.box
    have f6 := frozen_of_row W0 w.heap.size 6 _ _ HX.out.box
    have hlt : w.heap.size < W0.heap.size := by have := HSZ.out; omega
    go_upto_region 2 with (at_builtin; go_must (refine wpList_append_own_none rfl (.tmp 3) (.tmp 5) _ rfl W0.heap.size 3 i0 1 Try.underlying22 HI.out.1 (.slice (some ⟨W0.heap.size, 0, none⟩) 0 0) 0 [] rfl (World.ownsRow_lit W0 #[] 0 (Nat.le_refl _) (by decide) rfl) rfl ?_))
    have HX : Hid (Bx2 w (.cells #[.int .i64 l, .int .i64 a, .int .i64 d, .int .i64 t, .int .i64 s, .int .i64 p, .slice (some ⟨W0.heap.size, 0, none⟩) 0 0] 24) (.cells #[.int .i64 0, .int .i64 0, .int .i64 0, .int .i64 0, .int .i64 0, .int .i64 0, .slice none 0 0] 24) ((W0.setCell ⟨w.heap.size, 6, none⟩ (.slice (some ⟨W0.heap.size, 0, none⟩) 0 0)).alloc (.cells #[] 3))) := Lib.hid (Bx2.to ⟨bel_set HX.out.bel (Nat.le_refl _) _, by rw [wk_set HX.out.box 6]; rfl, blk_far HX.out.box2 (by omega) _⟩ (dbox _ _))
    have HO : Hid (((W0.setCell ⟨w.heap.size, 6, none⟩ (.slice (some ⟨W0.heap.size, 0, none⟩) 0 0)).alloc (.cells #[] 3)).ownsRow (w.heap.size + 2) 3 1 (.slice (some ⟨W0.heap.size, 0, none⟩) 0 0) 0 (kC q)) := Lib.hid (by
      have hsz : (W0.setCell ⟨w.heap.size, 6, none⟩ (.slice (some ⟨W0.heap.size, 0, none⟩) 0 0)).heap.size = W0.heap.size := by simp [World.setCell]
      have h1 := World.ownsRow_lit (base := w.heap.size + 2) (e := 3) (size := 1) (W0.setCell ⟨w.heap.size, 6, none⟩ (.slice (some ⟨W0.heap.size, 0, none⟩) 0 0)) #[] 0 (by rw [hsz]; exact HSZ.out) (by decide) rfl
      rw [hsz] at h1
      rw [HQ.out]
      exact h1)
    clear c6 f6 hlt HSZ HQ
    generalize (W0.setCell ⟨w.heap.size, 6, none⟩ (.slice (some ⟨W0.heap.size, 0, none⟩) 0 0)).alloc (.cells #[] 3) = W1 at *
    generalize W0.heap.size = g0 at *
    have c0 := cell_of_row W1 w.heap.size 0 _ _ _ HX.out.box
    have r0 := cell_of_row W1 (w.heap.size + 1) 0 _ _ _ HX.out.box2
    have f0 := frozen_of_row W1 (w.heap.size + 1) 0 _ _ HX.out.box2
    have c1 := cell_of_row W1 w.heap.size 1 _ _ _ HX.out.box
    have r1 := cell_of_row W1 (w.heap.size + 1) 1 _ _ _ HX.out.box2
    have f1 := frozen_of_row W1 (w.heap.size + 1) 1 _ _ HX.out.box2
    have c2 := cell_of_row W1 w.heap.size 2 _ _ _ HX.out.box
    have r2 := cell_of_row W1 (w.heap.size + 1) 2 _ _ _ HX.out.box2
    have f2 := frozen_of_row W1 (w.heap.size + 1) 2 _ _ HX.out.box2
    have c3 := cell_of_row W1 w.heap.size 3 _ _ _ HX.out.box
    have r3 := cell_of_row W1 (w.heap.size + 1) 3 _ _ _ HX.out.box2
    have f3 := frozen_of_row W1 (w.heap.size + 1) 3 _ _ HX.out.box2
    have c4 := cell_of_row W1 w.heap.size 4 _ _ _ HX.out.box
    have r4 := cell_of_row W1 (w.heap.size + 1) 4 _ _ _ HX.out.box2
    have f4 := frozen_of_row W1 (w.heap.size + 1) 4 _ _ HX.out.box2
    have c5 := cell_of_row W1 w.heap.size 5 _ _ _ HX.out.box
    have r5 := cell_of_row W1 (w.heap.size + 1) 5 _ _ _ HX.out.box2
    have f5 := frozen_of_row W1 (w.heap.size + 1) 5 _ _ HX.out.box2
    have c6 := cell_of_row W1 w.heap.size 6 _ _ _ HX.out.box
    have r6 := cell_of_row W1 (w.heap.size + 1) 6 _ _ _ HX.out.box2
    have f6 := frozen_of_row W1 (w.heap.size + 1) 6 _ _ HX.out.box2
    go_wp2
    refine bodyPost_ret (v := .agg #[.int .i64 l, .int .i64 a, .int .i64 d, .int .i64 t, .int .i64 s, .int .i64 p, .slice (some ⟨g0, 0, none⟩) 0 0]) (by simp [results, Try.results51, go_sem, r0, r1, r2, r3, r4, r5, r6]) rfl ?_
    exact HP.out _ _ _ (own_base (own_set7 HO.out (by omega) _ _ _ _ _ _ _) (Nat.le_add_right _ 2)) (ev_bel7 HX.out.bel (by omega) _ _ _ _ _ _ _)
  · obtain ⟨ad, e1, HS⟩ := src_at HZ.out
    simp only [Option.some.injEq] at e1
    subst e1
    have HS := Lib.hid HS
    have HEL : Hid ((kC q).length = n * 1) := Lib.hid (by rw [HK.out, Nat.mul_one])
    clear HZ hf
    go_enter Try.func51, Try.ntmps51
    go_upto_region 1 with (fail)
    generalize hW0 : (w.alloc (.cells #[.int .i64 l, .int .i64 a, .int .i64 d, .int .i64 t, .int .i64 s, .int .i64 p, .slice (some _) n c] 24)).alloc (.cells #[.int .i64 0, .int .i64 0, .int .i64 0, .int .i64 0, .int .i64 0, .int .i64 0, .slice none 0 0] 24) = W0 at *
    clear hW0
    have c6 := cell_of_row W0 w.heap.size 6 _ _ _ HX.out.box
    have f6 := frozen_of_row W0 w.heap.size 6 _ _ HX.out.box
    have hlt : w.heap.size < W0.heap.size := by have := HSZ.out; omega
    go_upto_region 2 with (at_builtin; go_must (refine wpList_append_own_at _ rfl (.tmp 3) (.tmp 5) _ rfl W0.heap.size 3 i0 _ 1 8 Try.underlying22 HI.out.1 HI.out.2.1 HI.out.2.2.1 HI.out.2.2.2 rfl (by decide) (.slice (some ⟨W0.heap.size, 0, none⟩) 0 0) 0 [] rfl (World.ownsRow_lit W0 #[] 0 (Nat.le_refl _) (by decide) rfl) _ n c (kC q) rfl HEL.out (HS.out _ (HX.out.bel.trans ((dbox W0 (.cells #[] 3)).mono HX.out.bel.size))) H1.out (by unfold maxLen; omega) (by omega) (by simp) ?_); intro v' w4 g1 g2 _ _; rw [Nat.zero_add, List.nil_append] at g1; obtain ⟨a0, c0, rfl⟩ := wk_slice g1; have G0 := Lib.hid (own_base (B' := w.heap.size + 2) g1 HSZ.out); have hg5 : Below W0.heap.size W0 w4 := ((dbox W0 (.cells #[] 3))).grown g2 (by simp) (by intro k hk; simp [Value.ownBlock] at hk; omega); have HX := Lib.hid (HX.out.to hg5); have HSZ := Lib.hid (Nat.le_trans HSZ.out hg5.size); have c6 := cell_of_row w4 w.heap.size 6 _ _ _ HX.out.box; have f6 := frozen_of_row w4 w.heap.size 6 _ _ HX.out.box; clear g1 g2 hg5)
    have HX : Hid (Bx2 w (.cells #[.int .i64 l, .int .i64 a, .int .i64 d, .int .i64 t, .int .i64 s, .int .i64 p, .slice a0 n c0] 24) (.cells #[.int .i64 0, .int .i64 0, .int .i64 0, .int .i64 0, .int .i64 0, .int .i64 0, .slice none 0 0] 24) (w4.setCell ⟨w.heap.size, 6, none⟩ (.slice a0 n c0))) := Lib.hid ⟨bel_set HX.out.bel (Nat.le_refl _) _, by rw [wk_set HX.out.box 6]; rfl, blk_far HX.out.box2 (by omega) _⟩
    have G0 := Lib.hid (own_far (p := w.heap.size) (i := 6) G0.out (by omega) (.slice a0 n c0))
    clear c6 f6 hlt HSZ
    generalize w4.setCell ⟨w.heap.size, 6, none⟩ (.slice a0 n c0) = W1 at *
    have cc := cell_of_row W1 w.heap.size 0 _ _ _ HX.out.box
    have r0 := cell_of_row W1 (w.heap.size + 1) 0 _ _ _ HX.out.box2
    have f0 := frozen_of_row W1 (w.heap.size + 1) 0 _ _ HX.out.box2
    have c1 := cell_of_row W1 w.heap.size 1 _ _ _ HX.out.box
    have r1 := cell_of_row W1 (w.heap.size + 1) 1 _ _ _ HX.out.box2
    have f1 := frozen_of_row W1 (w.heap.size + 1) 1 _ _ HX.out.box2
    have c2 := cell_of_row W1 w.heap.size 2 _ _ _ HX.out.box
    have r2 := cell_of_row W1 (w.heap.size + 1) 2 _ _ _ HX.out.box2
    have f2 := frozen_of_row W1 (w.heap.size + 1) 2 _ _ HX.out.box2
    have c3 := cell_of_row W1 w.heap.size 3 _ _ _ HX.out.box
    have r3 := cell_of_row W1 (w.heap.size + 1) 3 _ _ _ HX.out.box2
    have f3 := frozen_of_row W1 (w.heap.size + 1) 3 _ _ HX.out.box2
    have c4 := cell_of_row W1 w.heap.size 4 _ _ _ HX.out.box
    have r4 := cell_of_row W1 (w.heap.size + 1) 4 _ _ _ HX.out.box2
    have f4 := frozen_of_row W1 (w.heap.size + 1) 4 _ _ HX.out.box2
    have c5 := cell_of_row W1 w.heap.size 5 _ _ _ HX.out.box
    have r5 := cell_of_row W1 (w.heap.size + 1) 5 _ _ _ HX.out.box2
    have f5 := frozen_of_row W1 (w.heap.size + 1) 5 _ _ HX.out.box2
    have c6 := cell_of_row W1 w.heap.size 6 _ _ _ HX.out.box
    have r6 := cell_of_row W1 (w.heap.size + 1) 6 _ _ _ HX.out.box2
    have f6 := frozen_of_row W1 (w.heap.size + 1) 6 _ _ HX.out.box2
    go_wp2
    refine bodyPost_ret (v := .agg #[.int .i64 l, .int .i64 a, .int .i64 d, .int .i64 t, .int .i64 s, .int .i64 p, .slice a0 n c0]) (by simp [results, Try.results51, go_sem, r0, r1, r2, r3, r4, r5, r6]) rfl ?_
    exact HP.out _ _ _ (own_base (own_set7 G0.out (by omega) _ _ _ _ _ _ _) (Nat.le_add_right _ 2)) (ev_bel7 HX.out.bel (by omega) _ _ _ _ _ _ _)

def LzPost (y : ST) (r : List Value) (w : World) (e : Ending) (w' : World) : Prop :=
  ∃ b c, e = .returned (.tuple (sV y b c :: r).toArray) ∧ Lies w' b (kC y.q) ∧ Fits b y.q.length c ∧ Below w.heap.size w w'
theorem kC_app (q : List Int) (x : Int) : kC q ++ [Value.int .i64 x] = kC (q ++ [x]) := by simp [kC]
theorem lies_set {w : World} {b : Option Addr} {cs : List Value} {B : Nat} (h : Lies w b cs) {X : World} (hb : Below w.heap.size w X) : Lies X b cs := h.below hb (Nat.le_refl _)
set_option maxHeartbeats 1600000 in
theorem l10Offer_any (x : ST) (z : TT) (now : Int) (b : Option Addr) (c : Nat) (hx : SIn x z) (hnow : 0 ≤ now ∧ now ≤ 2147483647 ∧ x.l ≤ now) (hf : Fits b x.q.length c) (w : World) (hz : Lies w b (kC x.q)) :
    Calls Try.prog 50 #[sV x b c, tV z, .int .i64 now] w (LzPost (offG x z now).1 [.int .i64 (offG x z now).2] w) := by
  obtain ⟨i0, hi, hz0, hz1, hz2⟩ := info_parts (show (Try.prog.info? 3).map (fun i => (i.zero, i.size, i.bytes)) = some (some (.int .i64 0), 1, 8) by kernel_rfl)
  have HI := Lib.hid (And.intro hi (And.intro hz0 (And.intro hz1 hz2)))
  clear hi hz0 hz1 hz2
  obtain ⟨tq1, tq2, tp1, tp2⟩ := tkB_q hx.tk
  have hxl := hx.l
  have hxa := hx.a
  have hxt := hx.t
  have hxs := hx.s
  have hxn := hx.n
  have HK := Lib.hid (kC_len x.q)
  have H1 := Lib.hid (one_k x.q)
  have HZ := Lib.hid hz
  have HFT := Lib.hid hf
  have HG : Hid (offG x z now = if x.l ≠ -1 ∧ now - x.l < z.p then (⟨x.l, cnt1 x.a, x.d, cnt1 x.t, x.s, x.p, x.q⟩, 18) else if (x.q.length : Int) = z.q then (⟨x.l, cnt1 x.a, x.d, x.t, cnt1 x.s, x.p, x.q⟩, 7) else (⟨now, cnt1 x.a, x.d, x.t, x.s, x.p, x.q ++ [now]⟩, 0)) := Lib.hid rfl
  generalize offG x z now = R at *
  generalize hP : LzPost R.1 [.int .i64 R.2] w = POST at *
  clear hz hx hf
  have HX := Lib.hid (E3.start w (sO x b c 24) (tO z 35) (.cells #[.int .i64 0, .int .i64 0, .int .i64 0, .int .i64 0, .int .i64 0, .int .i64 0, .slice none 0 0] 24))
  obtain ⟨l, a, d, t, s, p, q⟩ := x
  obtain ⟨zk, zp, zd, zi, zq, zr⟩ := z
  dsimp only at *
  have HX : Hid (E3 w (.cells #[.int .i64 l, .int .i64 a, .int .i64 d, .int .i64 t, .int .i64 s, .int .i64 p, .slice b q.length c] 24) (.cells #[.int .i64 zk, .int .i64 zp, .int .i64 zd, .int .i64 zi, .int .i64 zq, .int .i64 zr] 35) (.cells #[.int .i64 0, .int .i64 0, .int .i64 0, .int .i64 0, .int .i64 0, .int .i64 0, .slice none 0 0] 24) (((w.alloc (.cells #[.int .i64 l, .int .i64 a, .int .i64 d, .int .i64 t, .int .i64 s, .int .i64 p, .slice b q.length c] 24)).alloc (.cells #[.int .i64 zk, .int .i64 zp, .int .i64 zd, .int .i64 zi, .int .i64 zq, .int .i64 zr] 35)).alloc (.cells #[.int .i64 0, .int .i64 0, .int .i64 0, .int .i64 0, .int .i64 0, .int .i64 0, .slice none 0 0] 24))) := HX
  show Calls Try.prog 50 #[.agg #[.int .i64 l, .int .i64 a, .int .i64 d, .int .i64 t, .int .i64 s, .int .i64 p, .slice b q.length c], .agg #[.int .i64 zk, .int .i64 zp, .int .i64 zd, .int .i64 zi, .int .i64 zq, .int .i64 zr], .int .i64 now] w POST
  generalize hn1 : q.length = n at *
  have HN := Lib.hid hn1
  clear hn1
  by_cases hc : l ≠ -1 ∧ now - l < zp
  · skip
    have HR := Lib.hid (HG.out.trans (if_pos hc))
    rw [HR.out] at hP
    dsimp only at hP
    have hl0 : (0 : Int) ≤ l := by omega
    have hc2 := hc.2
    clear HG HR
    go_enter Try.func50, Try.ntmps50
    go_upto_region 1 with (fail)
    generalize hW0 : ((w.alloc (.cells #[.int .i64 l, .int .i64 a, .int .i64 d, .int .i64 t, .int .i64 s, .int .i64 p, .slice b n c] 24)).alloc (.cells #[.int .i64 zk, .int .i64 zp, .int .i64 zd, .int .i64 zi, .int .i64 zq, .int .i64 zr] 35)).alloc (.cells #[.int .i64 0, .int .i64 0, .int .i64 0, .int .i64 0, .int .i64 0, .int .i64 0, .slice none 0 0] 24) = W0 at *
    clear hW0
    have hlt : w.heap.size + 2 < W0.heap.size := HX.out.lt
    have c0 := cell_of_row W0 w.heap.size 0 _ _ _ HX.out.b0
    have k0 := frozen_of_row W0 w.heap.size 0 _ _ HX.out.b0
    have c1 := cell_of_row W0 w.heap.size 1 _ _ _ HX.out.b0
    have k1 := frozen_of_row W0 w.heap.size 1 _ _ HX.out.b0
    have c3 := cell_of_row W0 w.heap.size 3 _ _ _ HX.out.b0
    have k3 := frozen_of_row W0 w.heap.size 3 _ _ HX.out.b0
    have c4 := cell_of_row W0 w.heap.size 4 _ _ _ HX.out.b0
    have k4 := frozen_of_row W0 w.heap.size 4 _ _ HX.out.b0
    have c6 := cell_of_row W0 w.heap.size 6 _ _ _ HX.out.b0
    have k6 := frozen_of_row W0 w.heap.size 6 _ _ HX.out.b0
    have t1 := cell_of_row W0 (w.heap.size + 1) 1 _ _ _ HX.out.b1
    have t4 := cell_of_row W0 (w.heap.size + 1) 4 _ _ _ HX.out.b1
    go_upto_region 4 with (go_at_call 65; refine (l10One_any _ (by omega) _).mono ?_; rintro e w' ⟨rfl, rfl⟩)
    clear c0 k0 c1 k1 c3 k3 c4 k4 c6 k6 t1 t4
    have HX := Lib.hid (HX.out.put 1 (.int .i64 (cnt1 a)))
    have HX : Hid (E3 w (.cells #[.int .i64 l, .int .i64 (cnt1 a), .int .i64 d, .int .i64 t, .int .i64 s, .int .i64 p, .slice b n c] 24) (.cells #[.int .i64 zk, .int .i64 zp, .int .i64 zd, .int .i64 zi, .int .i64 zq, .int .i64 zr] 35) (.cells #[.int .i64 0, .int .i64 0, .int .i64 0, .int .i64 0, .int .i64 0, .int .i64 0, .slice none 0 0] 24) _) := HX
    have HX := Lib.hid (HX.out.put 3 (.int .i64 (cnt1 t)))
    have HX : Hid (E3 w (.cells #[.int .i64 l, .int .i64 (cnt1 a), .int .i64 d, .int .i64 (cnt1 t), .int .i64 s, .int .i64 p, .slice b n c] 24) (.cells #[.int .i64 zk, .int .i64 zp, .int .i64 zd, .int .i64 zi, .int .i64 zq, .int .i64 zr] 35) (.cells #[.int .i64 0, .int .i64 0, .int .i64 0, .int .i64 0, .int .i64 0, .int .i64 0, .slice none 0 0] 24) _) := HX
    generalize (W0.setCell ⟨w.heap.size, 1, none⟩ (.int .i64 (cnt1 a))).setCell ⟨w.heap.size, 3, none⟩ (.int .i64 (cnt1 t)) = W1 at *
    have c0 := cell_of_row W1 w.heap.size 0 _ _ _ HX.out.b0
    have k0 := frozen_of_row W1 w.heap.size 0 _ _ HX.out.b0
    have c1 := cell_of_row W1 w.heap.size 1 _ _ _ HX.out.b0
    have k1 := frozen_of_row W1 w.heap.size 1 _ _ HX.out.b0
    have c2 := cell_of_row W1 w.heap.size 2 _ _ _ HX.out.b0
    have k2 := frozen_of_row W1 w.heap.size 2 _ _ HX.out.b0
    have c3 := cell_of_row W1 w.heap.size 3 _ _ _ HX.out.b0
    have k3 := frozen_of_row W1 w.heap.size 3 _ _ HX.out.b0
    have c4 := cell_of_row W1 w.heap.size 4 _ _ _ HX.out.b0
    have k4 := frozen_of_row W1 w.heap.size 4 _ _ HX.out.b0
    have c5 := cell_of_row W1 w.heap.size 5 _ _ _ HX.out.b0
    have k5 := frozen_of_row W1 w.heap.size 5 _ _ HX.out.b0
    have c6 := cell_of_row W1 w.heap.size 6 _ _ _ HX.out.b0
    have k6 := frozen_of_row W1 w.heap.size 6 _ _ HX.out.b0
    have r0 := cell_of_row W1 (w.heap.size + 2) 0 _ _ _ HX.out.b2
    have f0 := frozen_of_row W1 (w.heap.size + 2) 0 _ _ HX.out.b2
    have r1 := cell_of_row W1 (w.heap.size + 2) 1 _ _ _ HX.out.b2
    have f1 := frozen_of_row W1 (w.heap.size + 2) 1 _ _ HX.out.b2
    have r2 := cell_of_row W1 (w.heap.size + 2) 2 _ _ _ HX.out.b2
    have f2 := frozen_of_row W1 (w.heap.size + 2) 2 _ _ HX.out.b2
    have r3 := cell_of_row W1 (w.heap.size + 2) 3 _ _ _ HX.out.b2
    have f3 := frozen_of_row W1 (w.heap.size + 2) 3 _ _ HX.out.b2
    have r4 := cell_of_row W1 (w.heap.size + 2) 4 _ _ _ HX.out.b2
    have f4 := frozen_of_row W1 (w.heap.size + 2) 4 _ _ HX.out.b2
    have r5 := cell_of_row W1 (w.heap.size + 2) 5 _ _ _ HX.out.b2
    have f5 := frozen_of_row W1 (w.heap.size + 2) 5 _ _ HX.out.b2
    have r6 := cell_of_row W1 (w.heap.size + 2) 6 _ _ _ HX.out.b2
    have f6 := frozen_of_row W1 (w.heap.size + 2) 6 _ _ HX.out.b2
    go_wp2
    refine bodyPost_ret (v := .tuple #[.agg #[.int .i64 l, .int .i64 (cnt1 a), .int .i64 d, .int .i64 (cnt1 t), .int .i64 s, .int .i64 p, .slice b n c], .int .i64 18]) (by simp [results, Try.results50, go_sem, r0, r1, r2, r3, r4, r5, r6]) rfl ?_
    rw [← hP]
    exact ⟨b, c, by rw [← HN.out], HZ.out.below (ev_bel7 HX.out.bel (by omega) _ _ _ _ _ _ _) (Nat.le_refl _), by rw [HN.out]; exact HFT.out, ev_bel7 HX.out.bel (by omega) _ _ _ _ _ _ _⟩
  by_cases hl1 : l = -1
  · skip
    have hl0 : ¬ (0 : Int) ≤ l := by omega
    clear hl1
    by_cases hfl : (n : Int) = zq
    · skip
      have HR := Lib.hid ((HG.out.trans (if_neg hc)).trans (if_pos hfl))
      rw [HR.out] at hP
      dsimp only at hP
      have hfb : ((n : Int) == zq) = true := by simpa using hfl
      clear HG HR hc hfl
      go_enter Try.func50, Try.ntmps50
      go_upto_region 1 with (fail)
      generalize hW0 : ((w.alloc (.cells #[.int .i64 l, .int .i64 a, .int .i64 d, .int .i64 t, .int .i64 s, .int .i64 p, .slice b n c] 24)).alloc (.cells #[.int .i64 zk, .int .i64 zp, .int .i64 zd, .int .i64 zi, .int .i64 zq, .int .i64 zr] 35)).alloc (.cells #[.int .i64 0, .int .i64 0, .int .i64 0, .int .i64 0, .int .i64 0, .int .i64 0, .slice none 0 0] 24) = W0 at *
      clear hW0
      have hlt : w.heap.size + 2 < W0.heap.size := HX.out.lt
      have c0 := cell_of_row W0 w.heap.size 0 _ _ _ HX.out.b0
      have k0 := frozen_of_row W0 w.heap.size 0 _ _ HX.out.b0
      have c1 := cell_of_row W0 w.heap.size 1 _ _ _ HX.out.b0
      have k1 := frozen_of_row W0 w.heap.size 1 _ _ HX.out.b0
      have c3 := cell_of_row W0 w.heap.size 3 _ _ _ HX.out.b0
      have k3 := frozen_of_row W0 w.heap.size 3 _ _ HX.out.b0
      have c4 := cell_of_row W0 w.heap.size 4 _ _ _ HX.out.b0
      have k4 := frozen_of_row W0 w.heap.size 4 _ _ HX.out.b0
      have c6 := cell_of_row W0 w.heap.size 6 _ _ _ HX.out.b0
      have k6 := frozen_of_row W0 w.heap.size 6 _ _ HX.out.b0
      have t1 := cell_of_row W0 (w.heap.size + 1) 1 _ _ _ HX.out.b1
      have t4 := cell_of_row W0 (w.heap.size + 1) 4 _ _ _ HX.out.b1
      go_upto_region 7 with (go_at_call 65; refine (l10One_any _ (by omega) _).mono ?_; rintro e w' ⟨rfl, rfl⟩)
      clear c0 k0 c1 k1 c3 k3 c4 k4 c6 k6 t1 t4
      have HX := Lib.hid (HX.out.put 1 (.int .i64 (cnt1 a)))
      have HX : Hid (E3 w (.cells #[.int .i64 l, .int .i64 (cnt1 a), .int .i64 d, .int .i64 t, .int .i64 s, .int .i64 p, .slice b n c] 24) (.cells #[.int .i64 zk, .int .i64 zp, .int .i64 zd, .int .i64 zi, .int .i64 zq, .int .i64 zr] 35) (.cells #[.int .i64 0, .int .i64 0, .int .i64 0, .int .i64 0, .int .i64 0, .int .i64 0, .slice none 0 0] 24) _) := HX
      have HX := Lib.hid (HX.out.put 4 (.int .i64 (cnt1 s)))
      have HX : Hid (E3 w (.cells #[.int .i64 l, .int .i64 (cnt1 a), .int .i64 d, .int .i64 t, .int .i64 (cnt1 s), .int .i64 p, .slice b n c] 24) (.cells #[.int .i64 zk, .int .i64 zp, .int .i64 zd, .int .i64 zi, .int .i64 zq, .int .i64 zr] 35) (.cells #[.int .i64 0, .int .i64 0, .int .i64 0, .int .i64 0, .int .i64 0, .int .i64 0, .slice none 0 0] 24) _) := HX
      generalize (W0.setCell ⟨w.heap.size, 1, none⟩ (.int .i64 (cnt1 a))).setCell ⟨w.heap.size, 4, none⟩ (.int .i64 (cnt1 s)) = W1 at *
      have c0 := cell_of_row W1 w.heap.size 0 _ _ _ HX.out.b0
      have k0 := frozen_of_row W1 w.heap.size 0 _ _ HX.out.b0
      have c1 := cell_of_row W1 w.heap.size 1 _ _ _ HX.out.b0
      have k1 := frozen_of_row W1 w.heap.size 1 _ _ HX.out.b0
      have c2 := cell_of_row W1 w.heap.size 2 _ _ _ HX.out.b0
      have k2 := frozen_of_row W1 w.heap.size 2 _ _ HX.out.b0
      have c3 := cell_of_row W1 w.heap.size 3 _ _ _ HX.out.b0
      have k3 := frozen_of_row W1 w.heap.size 3 _ _ HX.out.b0
      have c4 := cell_of_row W1 w.heap.size 4 _ _ _ HX.out.b0
      have k4 := frozen_of_row W1 w.heap.size 4 _ _ HX.out.b0
      have c5 := cell_of_row W1 w.heap.size 5 _ _ _ HX.out.b0
      have k5 := frozen_of_row W1 w.heap.size 5 _ _ HX.out.b0
      have c6 := cell_of_row W1 w.heap.size 6 _ _ _ HX.out.b0
      have k6 := frozen_of_row W1 w.heap.size 6 _ _ HX.out.b0
      have r0 := cell_of_row W1 (w.heap.size + 2) 0 _ _ _ HX.out.b2
      have f0 := frozen_of_row W1 (w.heap.size + 2) 0 _ _ HX.out.b2
      have r1 := cell_of_row W1 (w.heap.size + 2) 1 _ _ _ HX.out.b2
      have f1 := frozen_of_row W1 (w.heap.size + 2) 1 _ _ HX.out.b2
      have r2 := cell_of_row W1 (w.heap.size + 2) 2 _ _ _ HX.out.b2
      have f2 := frozen_of_row W1 (w.heap.size + 2) 2 _ _ HX.out.b2
      have r3 := cell_of_row W1 (w.heap.size + 2) 3 _ _ _ HX.out.b2
      have f3 := frozen_of_row W1 (w.heap.size + 2) 3 _ _ HX.out.b2
      have r4 := cell_of_row W1 (w.heap.size + 2) 4 _ _ _ HX.out.b2
      have f4 := frozen_of_row W1 (w.heap.size + 2) 4 _ _ HX.out.b2
      have r5 := cell_of_row W1 (w.heap.size + 2) 5 _ _ _ HX.out.b2
      have f5 := frozen_of_row W1 (w.heap.size + 2) 5 _ _ HX.out.b2
      have r6 := cell_of_row W1 (w.heap.size + 2) 6 _ _ _ HX.out.b2
      have f6 := frozen_of_row W1 (w.heap.size + 2) 6 _ _ HX.out.b2
      go_wp2
      refine bodyPost_ret (v := .tuple #[.agg #[.int .i64 l, .int .i64 (cnt1 a), .int .i64 d, .int .i64 t, .int .i64 (cnt1 s), .int .i64 p, .slice b n c], .int .i64 7]) (by simp [results, Try.results50, go_sem, r0, r1, r2, r3, r4, r5, r6]) rfl ?_
      rw [← hP]
      exact ⟨b, c, by rw [← HN.out], HZ.out.below (ev_bel7 HX.out.bel (by omega) _ _ _ _ _ _ _) (Nat.le_refl _), by rw [HN.out]; exact HFT.out, ev_bel7 HX.out.bel (by omega) _ _ _ _ _ _ _⟩
    · skip
      have HR := Lib.hid ((HG.out.trans (if_neg hc)).trans (if_neg hfl))
      rw [HR.out] at hP
      dsimp only at hP
      have hfb : ((n : Int) == zq) = false := by simpa using hfl
      clear HG HR hc hfl
      rcases b with _ | ad0
      · obtain ⟨h0, hc0⟩ := HFT.out
        obtain rfl : c = 0 := hc0 rfl
        obtain rfl : n = 0 := by omega
        have HQ : Hid (kC q = []) := Lib.hid (by have := HN.out; rw [List.eq_nil_of_length_eq_zero this]; rfl)
        have hfb2 : ((0 : Int) == zq) = false := by simpa using hfb
        clear h0 hc0
        go_enter Try.func50, Try.ntmps50
        go_upto_region 1 with (fail)
        generalize hW0 : ((w.alloc (.cells #[.int .i64 l, .int .i64 a, .int .i64 d, .int .i64 t, .int .i64 s, .int .i64 p, .slice none 0 0] 24)).alloc (.cells #[.int .i64 zk, .int .i64 zp, .int .i64 zd, .int .i64 zi, .int .i64 zq, .int .i64 zr] 35)).alloc (.cells #[.int .i64 0, .int .i64 0, .int .i64 0, .int .i64 0, .int .i64 0, .int .i64 0, .slice none 0 0] 24) = W0 at *
        clear hW0
        have hlt : w.heap.size + 2 < W0.heap.size := HX.out.lt
        have c0 := cell_of_row W0 w.heap.size 0 _ _ _ HX.out.b0
        have k0 := frozen_of_row W0 w.heap.size 0 _ _ HX.out.b0
        have c1 := cell_of_row W0 w.heap.size 1 _ _ _ HX.out.b0
        have k1 := frozen_of_row W0 w.heap.size 1 _ _ HX.out.b0
        have c3 := cell_of_row W0 w.heap.size 3 _ _ _ HX.out.b0
        have k3 := frozen_of_row W0 w.heap.size 3 _ _ HX.out.b0
        have c4 := cell_of_row W0 w.heap.size 4 _ _ _ HX.out.b0
        have k4 := frozen_of_row W0 w.heap.size 4 _ _ HX.out.b0
        have c6 := cell_of_row W0 w.heap.size 6 _ _ _ HX.out.b0
        have k6 := frozen_of_row W0 w.heap.size 6 _ _ HX.out.b0
        have t1 := cell_of_row W0 (w.heap.size + 1) 1 _ _ _ HX.out.b1
        have t4 := cell_of_row W0 (w.heap.size + 1) 4 _ _ _ HX.out.b1
        go_upto_region 9 with (go_at_call 65; refine (l10One_any _ (by omega) _).mono ?_; rintro e w' ⟨rfl, rfl⟩)
        clear c0 k0 c1 k1 c3 k3 c4 k4 c6 k6 t1 t4
        have HX := Lib.hid (HX.out.put 1 (.int .i64 (cnt1 a)))
        have HX : Hid (E3 w (.cells #[.int .i64 l, .int .i64 (cnt1 a), .int .i64 d, .int .i64 t, .int .i64 s, .int .i64 p, .slice none 0 0] 24) (.cells #[.int .i64 zk, .int .i64 zp, .int .i64 zd, .int .i64 zi, .int .i64 zq, .int .i64 zr] 35) (.cells #[.int .i64 0, .int .i64 0, .int .i64 0, .int .i64 0, .int .i64 0, .int .i64 0, .slice none 0 0] 24) _) := HX
        have HX := Lib.hid (HX.out.put 0 (.int .i64 now))
        have HX : Hid (E3 w (.cells #[.int .i64 now, .int .i64 (cnt1 a), .int .i64 d, .int .i64 t, .int .i64 s, .int .i64 p, .slice none 0 0] 24) (.cells #[.int .i64 zk, .int .i64 zp, .int .i64 zd, .int .i64 zi, .int .i64 zq, .int .i64 zr] 35) (.cells #[.int .i64 0, .int .i64 0, .int .i64 0, .int .i64 0, .int .i64 0, .int .i64 0, .slice none 0 0] 24) _) := HX
        generalize (W0.setCell ⟨w.heap.size, 1, none⟩ (.int .i64 (cnt1 a))).setCell ⟨w.heap.size, 0, none⟩ (.int .i64 now) = W1 at *
        clear hlt
        have hlt : w.heap.size + 2 < W1.heap.size := HX.out.lt
        have hlt0 : w.heap.size < W1.heap.size := by omega
        have c6 := cell_of_row W1 w.heap.size 6 _ _ _ HX.out.b0
        have k6 := frozen_of_row W1 w.heap.size 6 _ _ HX.out.b0
        have HSZ : Hid (W1.heap.size ≤ (W1.alloc (.cells #[] 3)).heap.size) := Lib.hid (by simp)
        have HOWN : Hid ((W1.alloc (.cells #[] 3)).ownsRow W1.heap.size 3 1 (.slice (some ⟨W1.heap.size, 0, none⟩) 0 0) 0 (kC q)) := Lib.hid (by rw [HQ.out]; exact World.ownsRow_lit W1 #[] 0 (Nat.le_refl _) (by decide) rfl)
        have HX1 := HX
        go_upto_region 10 with first | (at_builtin;  (refine wpList_append_own_none rfl (.tmp 42) (.tmp 44) _ rfl W1.heap.size 3 i0 1 Try.underlying22 HI.out.1 (.slice (some ⟨W1.heap.size, 0, none⟩) 0 0) 0 [] rfl (World.ownsRow_lit W1 #[] 0 (Nat.le_refl _) (by decide) rfl) rfl ?_)) | (at_builtin; (refine wpList_append_own_at _ rfl (.tmp 45) (.tmp 47) _ rfl W1.heap.size 3 i0 _ 1 8 Try.underlying22 HI.out.1 HI.out.2.1 HI.out.2.2.1 HI.out.2.2.2 rfl (by decide) (.slice (some ⟨W1.heap.size, 0, none⟩) 0 0) 0 (kC q) rfl (own_bl HOWN.out (dbox _ _)) ⟨W1.heap.size + 1, 0, none⟩ 1 1 [.int .i64 now] rfl rfl (by simpa using cell_one_new (W1.alloc (.cells #[] 3)) (.int .i64 now) 3) (by simp [Value.oneCell']) (by unfold maxLen; omega) (by omega) (by have := HSZ.out; simp; omega) ?_); intro v2 w6 g1 g2 _ _; rw [Nat.zero_add] at g1; rw [kC_app] at g1; obtain ⟨a2, c2, rfl⟩ := wk_slice g1; have G2 := Lib.hid g1; have hg6 : Below W1.heap.size (W1.alloc (.cells #[] 3)) w6 := (((Below.refl W1.heap.size (W1.alloc (.cells #[] 3))).alloc HSZ.out (.cells #[.int .i64 now] 3))).grown g2 (by have := HSZ.out; simp; omega) (fun k hk => (HOWN.out.lt k hk).1); have HX := Lib.hid (HX1.out.to (dbox W1 (.cells #[] 3))); have HX := Lib.hid (E3.mk (HX.out.bel.trans (hg6.mono (by have := HX.out.lt; omega))) ((hg6.block _ (by omega)).trans HX.out.b0) ((hg6.block _ (by omega)).trans HX.out.b1) ((hg6.block _ (by omega)).trans HX.out.b2)); have c6 := cell_of_row w6 w.heap.size 6 _ _ _ HX.out.b0; have k6 := frozen_of_row w6 w.heap.size 6 _ _ HX.out.b0; clear g1 g2 hg6)
        have HX := Lib.hid (HX.out.put 6 (.slice a2 1 c2))
        have HX : Hid (E3 w (.cells #[.int .i64 now, .int .i64 (cnt1 a), .int .i64 d, .int .i64 t, .int .i64 s, .int .i64 p, .slice a2 1 c2] 24) (.cells #[.int .i64 zk, .int .i64 zp, .int .i64 zd, .int .i64 zi, .int .i64 zq, .int .i64 zr] 35) (.cells #[.int .i64 0, .int .i64 0, .int .i64 0, .int .i64 0, .int .i64 0, .int .i64 0, .slice none 0 0] 24) (w6.setCell ⟨w.heap.size, 6, none⟩ (.slice a2 1 c2))) := HX
        have G2 := Lib.hid (own_far (p := w.heap.size) (i := 6) G2.out (by omega) (.slice a2 1 c2))
        clear c6 k6
        generalize w6.setCell ⟨w.heap.size, 6, none⟩ (.slice a2 1 c2) = W7 at *
        have cz := cell_of_row W7 w.heap.size 0 _ _ _ HX.out.b0
        have k0 := frozen_of_row W7 w.heap.size 0 _ _ HX.out.b0
        have c1 := cell_of_row W7 w.heap.size 1 _ _ _ HX.out.b0
        have k1 := frozen_of_row W7 w.heap.size 1 _ _ HX.out.b0
        have cc := cell_of_row W7 w.heap.size 2 _ _ _ HX.out.b0
        have k2 := frozen_of_row W7 w.heap.size 2 _ _ HX.out.b0
        have c3 := cell_of_row W7 w.heap.size 3 _ _ _ HX.out.b0
        have k3 := frozen_of_row W7 w.heap.size 3 _ _ HX.out.b0
        have c4 := cell_of_row W7 w.heap.size 4 _ _ _ HX.out.b0
        have k4 := frozen_of_row W7 w.heap.size 4 _ _ HX.out.b0
        have c5 := cell_of_row W7 w.heap.size 5 _ _ _ HX.out.b0
        have k5 := frozen_of_row W7 w.heap.size 5 _ _ HX.out.b0
        have c6 := cell_of_row W7 w.heap.size 6 _ _ _ HX.out.b0
        have k6 := frozen_of_row W7 w.heap.size 6 _ _ HX.out.b0
        have r0 := cell_of_row W7 (w.heap.size + 2) 0 _ _ _ HX.out.b2
        have f0 := frozen_of_row W7 (w.heap.size + 2) 0 _ _ HX.out.b2
        have r1 := cell_of_row W7 (w.heap.size + 2) 1 _ _ _ HX.out.b2
        have f1 := frozen_of_row W7 (w.heap.size + 2) 1 _ _ HX.out.b2
        have r2 := cell_of_row W7 (w.heap.size + 2) 2 _ _ _ HX.out.b2
        have f2 := frozen_of_row W7 (w.heap.size + 2) 2 _ _ HX.out.b2
        have r3 := cell_of_row W7 (w.heap.size + 2) 3 _ _ _ HX.out.b2
        have f3 := frozen_of_row W7 (w.heap.size + 2) 3 _ _ HX.out.b2
        have r4 := cell_of_row W7 (w.heap.size + 2) 4 _ _ _ HX.out.b2
        have f4 := frozen_of_row W7 (w.heap.size + 2) 4 _ _ HX.out.b2
        have r5 := cell_of_row W7 (w.heap.size + 2) 5 _ _ _ HX.out.b2
        have f5 := frozen_of_row W7 (w.heap.size + 2) 5 _ _ HX.out.b2
        have r6 := cell_of_row W7 (w.heap.size + 2) 6 _ _ _ HX.out.b2
        have f6 := frozen_of_row W7 (w.heap.size + 2) 6 _ _ HX.out.b2
        go_wp2
        refine bodyPost_ret (v := .tuple #[.agg #[.int .i64 now, .int .i64 (cnt1 a), .int .i64 d, .int .i64 t, .int .i64 s, .int .i64 p, .slice a2 1 c2], .int .i64 0]) (by simp [results, Try.results50, go_sem, r0, r1, r2, r3, r4, r5, r6]) rfl ?_
        rw [← hP]
        have hl2 : (q ++ [now]).length = 1 := by rw [List.length_append, HN.out]; rfl
        refine ⟨a2, c2, by rw [← hl2], lies_own (own_set7 G2.out hlt _ _ _ _ _ _ _), by rw [hl2]; exact fits_own G2.out, ev_bel7 HX.out.bel (by omega) _ _ _ _ _ _ _⟩
      · obtain ⟨ad, e1, HS⟩ := src_at HZ.out
        simp only [Option.some.injEq] at e1
        subst e1
        have HS := Lib.hid HS
        have HEL : Hid ((kC q).length = n * 1) := Lib.hid (by rw [HK.out, Nat.mul_one])
        go_enter Try.func50, Try.ntmps50
        go_upto_region 1 with (fail)
        generalize hW0 : ((w.alloc (.cells #[.int .i64 l, .int .i64 a, .int .i64 d, .int .i64 t, .int .i64 s, .int .i64 p, .slice (some ad0) n c] 24)).alloc (.cells #[.int .i64 zk, .int .i64 zp, .int .i64 zd, .int .i64 zi, .int .i64 zq, .int .i64 zr] 35)).alloc (.cells #[.int .i64 0, .int .i64 0, .int .i64 0, .int .i64 0, .int .i64 0, .int .i64 0, .slice none 0 0] 24) = W0 at *
        clear hW0
        have hlt : w.heap.size + 2 < W0.heap.size := HX.out.lt
        have c0 := cell_of_row W0 w.heap.size 0 _ _ _ HX.out.b0
        have k0 := frozen_of_row W0 w.heap.size 0 _ _ HX.out.b0
        have c1 := cell_of_row W0 w.heap.size 1 _ _ _ HX.out.b0
        have k1 := frozen_of_row W0 w.heap.size 1 _ _ HX.out.b0
        have c3 := cell_of_row W0 w.heap.size 3 _ _ _ HX.out.b0
        have k3 := frozen_of_row W0 w.heap.size 3 _ _ HX.out.b0
        have c4 := cell_of_row W0 w.heap.size 4 _ _ _ HX.out.b0
        have k4 := frozen_of_row W0 w.heap.size 4 _ _ HX.out.b0
        have c6 := cell_of_row W0 w.heap.size 6 _ _ _ HX.out.b0
        have k6 := frozen_of_row W0 w.heap.size 6 _ _ HX.out.b0
        have t1 := cell_of_row W0 (w.heap.size + 1) 1 _ _ _ HX.out.b1
        have t4 := cell_of_row W0 (w.heap.size + 1) 4 _ _ _ HX.out.b1
        go_upto_region 9 with (go_at_call 65; refine (l10One_any _ (by omega) _).mono ?_; rintro e w' ⟨rfl, rfl⟩)
        clear c0 k0 c1 k1 c3 k3 c4 k4 c6 k6 t1 t4
        have HX := Lib.hid (HX.out.put 1 (.int .i64 (cnt1 a)))
        have HX : Hid (E3 w (.cells #[.int .i64 l, .int .i64 (cnt1 a), .int .i64 d, .int .i64 t, .int .i64 s, .int .i64 p, .slice (some ad0) n c] 24) (.cells #[.int .i64 zk, .int .i64 zp, .int .i64 zd, .int .i64 zi, .int .i64 zq, .int .i64 zr] 35) (.cells #[.int .i64 0, .int .i64 0, .int .i64 0, .int .i64 0, .int .i64 0, .int .i64 0, .slice none 0 0] 24) _) := HX
        have HX := Lib.hid (HX.out.put 0 (.int .i64 now))
        have HX : Hid (E3 w (.cells #[.int .i64 now, .int .i64 (cnt1 a), .int .i64 d, .int .i64 t, .int .i64 s, .int .i64 p, .slice (some ad0) n c] 24) (.cells #[.int .i64 zk, .int .i64 zp, .int .i64 zd, .int .i64 zi, .int .i64 zq, .int .i64 zr] 35) (.cells #[.int .i64 0, .int .i64 0, .int .i64 0, .int .i64 0, .int .i64 0, .int .i64 0, .slice none 0 0] 24) _) := HX
        generalize (W0.setCell ⟨w.heap.size, 1, none⟩ (.int .i64 (cnt1 a))).setCell ⟨w.heap.size, 0, none⟩ (.int .i64 now) = W1 at *
        clear hlt
        have hlt : w.heap.size + 2 < W1.heap.size := HX.out.lt
        have hlt0 : w.heap.size < W1.heap.size := by omega
        have c6 := cell_of_row W1 w.heap.size 6 _ _ _ HX.out.b0
        have k6 := frozen_of_row W1 w.heap.size 6 _ _ HX.out.b0
        go_upto_region 10 with first | (at_builtin; (refine wpList_append_own_at _ rfl (.tmp 42) (.tmp 44) _ rfl W1.heap.size 3 i0 _ 1 8 Try.underlying22 HI.out.1 HI.out.2.1 HI.out.2.2.1 HI.out.2.2.2 rfl (by decide) (.slice (some ⟨W1.heap.size, 0, none⟩) 0 0) 0 [] rfl (World.ownsRow_lit W1 #[] 0 (Nat.le_refl _) (by decide) rfl) _ n c (kC q) rfl HEL.out (HS.out _ (HX.out.bel.trans ((dbox W1 (.cells #[] 3)).mono HX.out.bel.size))) H1.out (by unfold maxLen; omega) (by omega) (by simp) ?_); intro v' w4 g1 g2 _ _; rw [Nat.zero_add, List.nil_append] at g1; obtain ⟨a0, c0, rfl⟩ := wk_slice g1; have G0 := Lib.hid g1; have hg5 : Below W1.heap.size W1 w4 := ((dbox W1 (.cells #[] 3))).grown g2 (by simp) (by intro k hk; simp [Value.ownBlock] at hk; omega); have HX := Lib.hid (HX.out.to hg5); have HSZ := Lib.hid hg5.size; have HOWN := Lib.hid G0.out; clear g1 g2 hg5) | (at_builtin; (refine wpList_append_own_at _ rfl (.tmp 45) (.tmp 47) _ rfl W1.heap.size 3 i0 _ 1 8 Try.underlying22 HI.out.1 HI.out.2.1 HI.out.2.2.1 HI.out.2.2.2 rfl (by decide) (.slice a0 n c0) n (kC q) rfl (own_bl G0.out (dbox _ _)) ⟨w4.heap.size, 0, none⟩ 1 1 [.int .i64 now] rfl rfl (cell_one_new _ _ _) (by simp [Value.oneCell']) (by unfold maxLen; omega) (by omega) (by have := HSZ.out; simp; omega) ?_); intro v2 w6 g1 g2 _ _; rw [kC_app] at g1; obtain ⟨a2, c2, rfl⟩ := wk_slice g1; have G2 := Lib.hid g1; have hg6 : Below W1.heap.size w4 w6 := (((Below.refl W1.heap.size w4).alloc HSZ.out (.cells #[.int .i64 now] 3))).grown g2 (by have := HSZ.out; simp; omega) (fun k hk => (HOWN.out.lt k hk).1); have HX := Lib.hid (E3.mk (HX.out.bel.trans (hg6.mono (by have := HX.out.lt; omega))) ((hg6.block _ (by omega)).trans HX.out.b0) ((hg6.block _ (by omega)).trans HX.out.b1) ((hg6.block _ (by omega)).trans HX.out.b2)); have c6 := cell_of_row w6 w.heap.size 6 _ _ _ HX.out.b0; have k6 := frozen_of_row w6 w.heap.size 6 _ _ HX.out.b0; clear g1 g2 hg6)
        have HX := Lib.hid (HX.out.put 6 (.slice a2 (n + 1) c2))
        have HX : Hid (E3 w (.cells #[.int .i64 now, .int .i64 (cnt1 a), .int .i64 d, .int .i64 t, .int .i64 s, .int .i64 p, .slice a2 (n + 1) c2] 24) (.cells #[.int .i64 zk, .int .i64 zp, .int .i64 zd, .int .i64 zi, .int .i64 zq, .int .i64 zr] 35) (.cells #[.int .i64 0, .int .i64 0, .int .i64 0, .int .i64 0, .int .i64 0, .int .i64 0, .slice none 0 0] 24) (w6.setCell ⟨w.heap.size, 6, none⟩ (.slice a2 (n + 1) c2))) := HX
        have G2 := Lib.hid (own_far (p := w.heap.size) (i := 6) G2.out (by omega) (.slice a2 (n + 1) c2))
        clear c6 k6
        generalize w6.setCell ⟨w.heap.size, 6, none⟩ (.slice a2 (n + 1) c2) = W7 at *
        have cz := cell_of_row W7 w.heap.size 0 _ _ _ HX.out.b0
        have k0 := frozen_of_row W7 w.heap.size 0 _ _ HX.out.b0
        have c1 := cell_of_row W7 w.heap.size 1 _ _ _ HX.out.b0
        have k1 := frozen_of_row W7 w.heap.size 1 _ _ HX.out.b0
        have cc := cell_of_row W7 w.heap.size 2 _ _ _ HX.out.b0
        have k2 := frozen_of_row W7 w.heap.size 2 _ _ HX.out.b0
        have c3 := cell_of_row W7 w.heap.size 3 _ _ _ HX.out.b0
        have k3 := frozen_of_row W7 w.heap.size 3 _ _ HX.out.b0
        have c4 := cell_of_row W7 w.heap.size 4 _ _ _ HX.out.b0
        have k4 := frozen_of_row W7 w.heap.size 4 _ _ HX.out.b0
        have c5 := cell_of_row W7 w.heap.size 5 _ _ _ HX.out.b0
        have k5 := frozen_of_row W7 w.heap.size 5 _ _ HX.out.b0
        have c6 := cell_of_row W7 w.heap.size 6 _ _ _ HX.out.b0
        have k6 := frozen_of_row W7 w.heap.size 6 _ _ HX.out.b0
        have r0 := cell_of_row W7 (w.heap.size + 2) 0 _ _ _ HX.out.b2
        have f0 := frozen_of_row W7 (w.heap.size + 2) 0 _ _ HX.out.b2
        have r1 := cell_of_row W7 (w.heap.size + 2) 1 _ _ _ HX.out.b2
        have f1 := frozen_of_row W7 (w.heap.size + 2) 1 _ _ HX.out.b2
        have r2 := cell_of_row W7 (w.heap.size + 2) 2 _ _ _ HX.out.b2
        have f2 := frozen_of_row W7 (w.heap.size + 2) 2 _ _ HX.out.b2
        have r3 := cell_of_row W7 (w.heap.size + 2) 3 _ _ _ HX.out.b2
        have f3 := frozen_of_row W7 (w.heap.size + 2) 3 _ _ HX.out.b2
        have r4 := cell_of_row W7 (w.heap.size + 2) 4 _ _ _ HX.out.b2
        have f4 := frozen_of_row W7 (w.heap.size + 2) 4 _ _ HX.out.b2
        have r5 := cell_of_row W7 (w.heap.size + 2) 5 _ _ _ HX.out.b2
        have f5 := frozen_of_row W7 (w.heap.size + 2) 5 _ _ HX.out.b2
        have r6 := cell_of_row W7 (w.heap.size + 2) 6 _ _ _ HX.out.b2
        have f6 := frozen_of_row W7 (w.heap.size + 2) 6 _ _ HX.out.b2
        go_wp2
        refine bodyPost_ret (v := .tuple #[.agg #[.int .i64 now, .int .i64 (cnt1 a), .int .i64 d, .int .i64 t, .int .i64 s, .int .i64 p, .slice a2 (n + 1) c2], .int .i64 0]) (by simp [results, Try.results50, go_sem, r0, r1, r2, r3, r4, r5, r6]) rfl ?_
        rw [← hP]
        have hl2 : (q ++ [now]).length = n + 1 := by rw [List.length_append, HN.out]; rfl
        refine ⟨a2, c2, by rw [← hl2], lies_own (own_set7 G2.out hlt _ _ _ _ _ _ _), by rw [hl2]; exact fits_own G2.out, ev_bel7 HX.out.bel (by omega) _ _ _ _ _ _ _⟩
  · skip
    have hl0 : (0 : Int) ≤ l := by omega
    have hc2 : ¬ (now - l < zp) := fun h => hc ⟨hl1, h⟩
    by_cases hfl : (n : Int) = zq
    · skip
      have HR := Lib.hid ((HG.out.trans (if_neg hc)).trans (if_pos hfl))
      rw [HR.out] at hP
      dsimp only at hP
      have hfb : ((n : Int) == zq) = true := by simpa using hfl
      clear HG HR hc hfl
      go_enter Try.func50, Try.ntmps50
      go_upto_region 1 with (fail)
      generalize hW0 : ((w.alloc (.cells #[.int .i64 l, .int .i64 a, .int .i64 d, .int .i64 t, .int .i64 s, .int .i64 p, .slice b n c] 24)).alloc (.cells #[.int .i64 zk, .int .i64 zp, .int .i64 zd, .int .i64 zi, .int .i64 zq, .int .i64 zr] 35)).alloc (.cells #[.int .i64 0, .int .i64 0, .int .i64 0, .int .i64 0, .int .i64 0, .int .i64 0, .slice none 0 0] 24) = W0 at *
      clear hW0
      have hlt : w.heap.size + 2 < W0.heap.size := HX.out.lt
      have c0 := cell_of_row W0 w.heap.size 0 _ _ _ HX.out.b0
      have k0 := frozen_of_row W0 w.heap.size 0 _ _ HX.out.b0
      have c1 := cell_of_row W0 w.heap.size 1 _ _ _ HX.out.b0
      have k1 := frozen_of_row W0 w.heap.size 1 _ _ HX.out.b0
      have c3 := cell_of_row W0 w.heap.size 3 _ _ _ HX.out.b0
      have k3 := frozen_of_row W0 w.heap.size 3 _ _ HX.out.b0
      have c4 := cell_of_row W0 w.heap.size 4 _ _ _ HX.out.b0
      have k4 := frozen_of_row W0 w.heap.size 4 _ _ HX.out.b0
      have c6 := cell_of_row W0 w.heap.size 6 _ _ _ HX.out.b0
      have k6 := frozen_of_row W0 w.heap.size 6 _ _ HX.out.b0
      have t1 := cell_of_row W0 (w.heap.size + 1) 1 _ _ _ HX.out.b1
      have t4 := cell_of_row W0 (w.heap.size + 1) 4 _ _ _ HX.out.b1
      go_upto_region 7 with (go_at_call 65; refine (l10One_any _ (by omega) _).mono ?_; rintro e w' ⟨rfl, rfl⟩)
      clear c0 k0 c1 k1 c3 k3 c4 k4 c6 k6 t1 t4
      have HX := Lib.hid (HX.out.put 1 (.int .i64 (cnt1 a)))
      have HX : Hid (E3 w (.cells #[.int .i64 l, .int .i64 (cnt1 a), .int .i64 d, .int .i64 t, .int .i64 s, .int .i64 p, .slice b n c] 24) (.cells #[.int .i64 zk, .int .i64 zp, .int .i64 zd, .int .i64 zi, .int .i64 zq, .int .i64 zr] 35) (.cells #[.int .i64 0, .int .i64 0, .int .i64 0, .int .i64 0, .int .i64 0, .int .i64 0, .slice none 0 0] 24) _) := HX
      have HX := Lib.hid (HX.out.put 4 (.int .i64 (cnt1 s)))
      have HX : Hid (E3 w (.cells #[.int .i64 l, .int .i64 (cnt1 a), .int .i64 d, .int .i64 t, .int .i64 (cnt1 s), .int .i64 p, .slice b n c] 24) (.cells #[.int .i64 zk, .int .i64 zp, .int .i64 zd, .int .i64 zi, .int .i64 zq, .int .i64 zr] 35) (.cells #[.int .i64 0, .int .i64 0, .int .i64 0, .int .i64 0, .int .i64 0, .int .i64 0, .slice none 0 0] 24) _) := HX
      generalize (W0.setCell ⟨w.heap.size, 1, none⟩ (.int .i64 (cnt1 a))).setCell ⟨w.heap.size, 4, none⟩ (.int .i64 (cnt1 s)) = W1 at *
      have c0 := cell_of_row W1 w.heap.size 0 _ _ _ HX.out.b0
      have k0 := frozen_of_row W1 w.heap.size 0 _ _ HX.out.b0
      have c1 := cell_of_row W1 w.heap.size 1 _ _ _ HX.out.b0
      have k1 := frozen_of_row W1 w.heap.size 1 _ _ HX.out.b0
      have c2 := cell_of_row W1 w.heap.size 2 _ _ _ HX.out.b0
      have k2 := frozen_of_row W1 w.heap.size 2 _ _ HX.out.b0
      have c3 := cell_of_row W1 w.heap.size 3 _ _ _ HX.out.b0
      have k3 := frozen_of_row W1 w.heap.size 3 _ _ HX.out.b0
      have c4 := cell_of_row W1 w.heap.size 4 _ _ _ HX.out.b0
      have k4 := frozen_of_row W1 w.heap.size 4 _ _ HX.out.b0
      have c5 := cell_of_row W1 w.heap.size 5 _ _ _ HX.out.b0
      have k5 := frozen_of_row W1 w.heap.size 5 _ _ HX.out.b0
      have c6 := cell_of_row W1 w.heap.size 6 _ _ _ HX.out.b0
      have k6 := frozen_of_row W1 w.heap.size 6 _ _ HX.out.b0
      have r0 := cell_of_row W1 (w.heap.size + 2) 0 _ _ _ HX.out.b2
      have f0 := frozen_of_row W1 (w.heap.size + 2) 0 _ _ HX.out.b2
      have r1 := cell_of_row W1 (w.heap.size + 2) 1 _ _ _ HX.out.b2
      have f1 := frozen_of_row W1 (w.heap.size + 2) 1 _ _ HX.out.b2
      have r2 := cell_of_row W1 (w.heap.size + 2) 2 _ _ _ HX.out.b2
      have f2 := frozen_of_row W1 (w.heap.size + 2) 2 _ _ HX.out.b2
      have r3 := cell_of_row W1 (w.heap.size + 2) 3 _ _ _ HX.out.b2
      have f3 := frozen_of_row W1 (w.heap.size + 2) 3 _ _ HX.out.b2
      have r4 := cell_of_row W1 (w.heap.size + 2) 4 _ _ _ HX.out.b2
      have f4 := frozen_of_row W1 (w.heap.size + 2) 4 _ _ HX.out.b2
      have r5 := cell_of_row W1 (w.heap.size + 2) 5 _ _ _ HX.out.b2
      have f5 := frozen_of_row W1 (w.heap.size + 2) 5 _ _ HX.out.b2
      have r6 := cell_of_row W1 (w.heap.size + 2) 6 _ _ _ HX.out.b2
      have f6 := frozen_of_row W1 (w.heap.size + 2) 6 _ _ HX.out.b2
      go_wp2
      refine bodyPost_ret (v := .tuple #[.agg #[.int .i64 l, .int .i64 (cnt1 a), .int .i64 d, .int .i64 t, .int .i64 (cnt1 s), .int .i64 p, .slice b n c], .int .i64 7]) (by simp [results, Try.results50, go_sem, r0, r1, r2, r3, r4, r5, r6]) rfl ?_
      rw [← hP]
      exact ⟨b, c, by rw [← HN.out], HZ.out.below (ev_bel7 HX.out.bel (by omega) _ _ _ _ _ _ _) (Nat.le_refl _), by rw [HN.out]; exact HFT.out, ev_bel7 HX.out.bel (by omega) _ _ _ _ _ _ _⟩
    · skip
      have HR := Lib.hid ((HG.out.trans (if_neg hc)).trans (if_neg hfl))
      rw [HR.out] at hP
      dsimp only at hP
      have hfb : ((n : Int) == zq) = false := by simpa using hfl
      clear HG HR hc hfl
      rcases b with _ | ad0
      · obtain ⟨h0, hc0⟩ := HFT.out
        obtain rfl : c = 0 := hc0 rfl
        obtain rfl : n = 0 := by omega
        have HQ : Hid (kC q = []) := Lib.hid (by have := HN.out; rw [List.eq_nil_of_length_eq_zero this]; rfl)
        have hfb2 : ((0 : Int) == zq) = false := by simpa using hfb
        clear h0 hc0
        go_enter Try.func50, Try.ntmps50
        go_upto_region 1 with (fail)
        generalize hW0 : ((w.alloc (.cells #[.int .i64 l, .int .i64 a, .int .i64 d, .int .i64 t, .int .i64 s, .int .i64 p, .slice none 0 0] 24)).alloc (.cells #[.int .i64 zk, .int .i64 zp, .int .i64 zd, .int .i64 zi, .int .i64 zq, .int .i64 zr] 35)).alloc (.cells #[.int .i64 0, .int .i64 0, .int .i64 0, .int .i64 0, .int .i64 0, .int .i64 0, .slice none 0 0] 24) = W0 at *
        clear hW0
        have hlt : w.heap.size + 2 < W0.heap.size := HX.out.lt
        have c0 := cell_of_row W0 w.heap.size 0 _ _ _ HX.out.b0
        have k0 := frozen_of_row W0 w.heap.size 0 _ _ HX.out.b0
        have c1 := cell_of_row W0 w.heap.size 1 _ _ _ HX.out.b0
        have k1 := frozen_of_row W0 w.heap.size 1 _ _ HX.out.b0
        have c3 := cell_of_row W0 w.heap.size 3 _ _ _ HX.out.b0
        have k3 := frozen_of_row W0 w.heap.size 3 _ _ HX.out.b0
        have c4 := cell_of_row W0 w.heap.size 4 _ _ _ HX.out.b0
        have k4 := frozen_of_row W0 w.heap.size 4 _ _ HX.out.b0
        have c6 := cell_of_row W0 w.heap.size 6 _ _ _ HX.out.b0
        have k6 := frozen_of_row W0 w.heap.size 6 _ _ HX.out.b0
        have t1 := cell_of_row W0 (w.heap.size + 1) 1 _ _ _ HX.out.b1
        have t4 := cell_of_row W0 (w.heap.size + 1) 4 _ _ _ HX.out.b1
        go_upto_region 9 with (go_at_call 65; refine (l10One_any _ (by omega) _).mono ?_; rintro e w' ⟨rfl, rfl⟩)
        clear c0 k0 c1 k1 c3 k3 c4 k4 c6 k6 t1 t4
        have HX := Lib.hid (HX.out.put 1 (.int .i64 (cnt1 a)))
        have HX : Hid (E3 w (.cells #[.int .i64 l, .int .i64 (cnt1 a), .int .i64 d, .int .i64 t, .int .i64 s, .int .i64 p, .slice none 0 0] 24) (.cells #[.int .i64 zk, .int .i64 zp, .int .i64 zd, .int .i64 zi, .int .i64 zq, .int .i64 zr] 35) (.cells #[.int .i64 0, .int .i64 0, .int .i64 0, .int .i64 0, .int .i64 0, .int .i64 0, .slice none 0 0] 24) _) := HX
        have HX := Lib.hid (HX.out.put 0 (.int .i64 now))
        have HX : Hid (E3 w (.cells #[.int .i64 now, .int .i64 (cnt1 a), .int .i64 d, .int .i64 t, .int .i64 s, .int .i64 p, .slice none 0 0] 24) (.cells #[.int .i64 zk, .int .i64 zp, .int .i64 zd, .int .i64 zi, .int .i64 zq, .int .i64 zr] 35) (.cells #[.int .i64 0, .int .i64 0, .int .i64 0, .int .i64 0, .int .i64 0, .int .i64 0, .slice none 0 0] 24) _) := HX
        generalize (W0.setCell ⟨w.heap.size, 1, none⟩ (.int .i64 (cnt1 a))).setCell ⟨w.heap.size, 0, none⟩ (.int .i64 now) = W1 at *
        clear hlt
        have hlt : w.heap.size + 2 < W1.heap.size := HX.out.lt
        have hlt0 : w.heap.size < W1.heap.size := by omega
        have c6 := cell_of_row W1 w.heap.size 6 _ _ _ HX.out.b0
        have k6 := frozen_of_row W1 w.heap.size 6 _ _ HX.out.b0
        have HSZ : Hid (W1.heap.size ≤ (W1.alloc (.cells #[] 3)).heap.size) := Lib.hid (by simp)
        have HOWN : Hid ((W1.alloc (.cells #[] 3)).ownsRow W1.heap.size 3 1 (.slice (some ⟨W1.heap.size, 0, none⟩) 0 0) 0 (kC q)) := Lib.hid (by rw [HQ.out]; exact World.ownsRow_lit W1 #[] 0 (Nat.le_refl _) (by decide) rfl)
        have HX1 := HX
        go_upto_region 10 with first | (at_builtin;  (refine wpList_append_own_none rfl (.tmp 42) (.tmp 44) _ rfl W1.heap.size 3 i0 1 Try.underlying22 HI.out.1 (.slice (some ⟨W1.heap.size, 0, none⟩) 0 0) 0 [] rfl (World.ownsRow_lit W1 #[] 0 (Nat.le_refl _) (by decide) rfl) rfl ?_)) | (at_builtin; (refine wpList_append_own_at _ rfl (.tmp 45) (.tmp 47) _ rfl W1.heap.size 3 i0 _ 1 8 Try.underlying22 HI.out.1 HI.out.2.1 HI.out.2.2.1 HI.out.2.2.2 rfl (by decide) (.slice (some ⟨W1.heap.size, 0, none⟩) 0 0) 0 (kC q) rfl (own_bl HOWN.out (dbox _ _)) ⟨W1.heap.size + 1, 0, none⟩ 1 1 [.int .i64 now] rfl rfl (by simpa using cell_one_new (W1.alloc (.cells #[] 3)) (.int .i64 now) 3) (by simp [Value.oneCell']) (by unfold maxLen; omega) (by omega) (by have := HSZ.out; simp; omega) ?_); intro v2 w6 g1 g2 _ _; rw [Nat.zero_add] at g1; rw [kC_app] at g1; obtain ⟨a2, c2, rfl⟩ := wk_slice g1; have G2 := Lib.hid g1; have hg6 : Below W1.heap.size (W1.alloc (.cells #[] 3)) w6 := (((Below.refl W1.heap.size (W1.alloc (.cells #[] 3))).alloc HSZ.out (.cells #[.int .i64 now] 3))).grown g2 (by have := HSZ.out; simp; omega) (fun k hk => (HOWN.out.lt k hk).1); have HX := Lib.hid (HX1.out.to (dbox W1 (.cells #[] 3))); have HX := Lib.hid (E3.mk (HX.out.bel.trans (hg6.mono (by have := HX.out.lt; omega))) ((hg6.block _ (by omega)).trans HX.out.b0) ((hg6.block _ (by omega)).trans HX.out.b1) ((hg6.block _ (by omega)).trans HX.out.b2)); have c6 := cell_of_row w6 w.heap.size 6 _ _ _ HX.out.b0; have k6 := frozen_of_row w6 w.heap.size 6 _ _ HX.out.b0; clear g1 g2 hg6)
        have HX := Lib.hid (HX.out.put 6 (.slice a2 1 c2))
        have HX : Hid (E3 w (.cells #[.int .i64 now, .int .i64 (cnt1 a), .int .i64 d, .int .i64 t, .int .i64 s, .int .i64 p, .slice a2 1 c2] 24) (.cells #[.int .i64 zk, .int .i64 zp, .int .i64 zd, .int .i64 zi, .int .i64 zq, .int .i64 zr] 35) (.cells #[.int .i64 0, .int .i64 0, .int .i64 0, .int .i64 0, .int .i64 0, .int .i64 0, .slice none 0 0] 24) (w6.setCell ⟨w.heap.size, 6, none⟩ (.slice a2 1 c2))) := HX
        have G2 := Lib.hid (own_far (p := w.heap.size) (i := 6) G2.out (by omega) (.slice a2 1 c2))
        clear c6 k6
        generalize w6.setCell ⟨w.heap.size, 6, none⟩ (.slice a2 1 c2) = W7 at *
        have cz := cell_of_row W7 w.heap.size 0 _ _ _ HX.out.b0
        have k0 := frozen_of_row W7 w.heap.size 0 _ _ HX.out.b0
        have c1 := cell_of_row W7 w.heap.size 1 _ _ _ HX.out.b0
        have k1 := frozen_of_row W7 w.heap.size 1 _ _ HX.out.b0
        have cc := cell_of_row W7 w.heap.size 2 _ _ _ HX.out.b0
        have k2 := frozen_of_row W7 w.heap.size 2 _ _ HX.out.b0
        have c3 := cell_of_row W7 w.heap.size 3 _ _ _ HX.out.b0
        have k3 := frozen_of_row W7 w.heap.size 3 _ _ HX.out.b0
        have c4 := cell_of_row W7 w.heap.size 4 _ _ _ HX.out.b0
        have k4 := frozen_of_row W7 w.heap.size 4 _ _ HX.out.b0
        have c5 := cell_of_row W7 w.heap.size 5 _ _ _ HX.out.b0
        have k5 := frozen_of_row W7 w.heap.size 5 _ _ HX.out.b0
        have c6 := cell_of_row W7 w.heap.size 6 _ _ _ HX.out.b0
        have k6 := frozen_of_row W7 w.heap.size 6 _ _ HX.out.b0
        have r0 := cell_of_row W7 (w.heap.size + 2) 0 _ _ _ HX.out.b2
        have f0 := frozen_of_row W7 (w.heap.size + 2) 0 _ _ HX.out.b2
        have r1 := cell_of_row W7 (w.heap.size + 2) 1 _ _ _ HX.out.b2
        have f1 := frozen_of_row W7 (w.heap.size + 2) 1 _ _ HX.out.b2
        have r2 := cell_of_row W7 (w.heap.size + 2) 2 _ _ _ HX.out.b2
        have f2 := frozen_of_row W7 (w.heap.size + 2) 2 _ _ HX.out.b2
        have r3 := cell_of_row W7 (w.heap.size + 2) 3 _ _ _ HX.out.b2
        have f3 := frozen_of_row W7 (w.heap.size + 2) 3 _ _ HX.out.b2
        have r4 := cell_of_row W7 (w.heap.size + 2) 4 _ _ _ HX.out.b2
        have f4 := frozen_of_row W7 (w.heap.size + 2) 4 _ _ HX.out.b2
        have r5 := cell_of_row W7 (w.heap.size + 2) 5 _ _ _ HX.out.b2
        have f5 := frozen_of_row W7 (w.heap.size + 2) 5 _ _ HX.out.b2
        have r6 := cell_of_row W7 (w.heap.size + 2) 6 _ _ _ HX.out.b2
        have f6 := frozen_of_row W7 (w.heap.size + 2) 6 _ _ HX.out.b2
        go_wp2
        refine bodyPost_ret (v := .tuple #[.agg #[.int .i64 now, .int .i64 (cnt1 a), .int .i64 d, .int .i64 t, .int .i64 s, .int .i64 p, .slice a2 1 c2], .int .i64 0]) (by simp [results, Try.results50, go_sem, r0, r1, r2, r3, r4, r5, r6]) rfl ?_
        rw [← hP]
        have hl2 : (q ++ [now]).length = 1 := by rw [List.length_append, HN.out]; rfl
        refine ⟨a2, c2, by rw [← hl2], lies_own (own_set7 G2.out hlt _ _ _ _ _ _ _), by rw [hl2]; exact fits_own G2.out, ev_bel7 HX.out.bel (by omega) _ _ _ _ _ _ _⟩
      · obtain ⟨ad, e1, HS⟩ := src_at HZ.out
        simp only [Option.some.injEq] at e1
        subst e1
        have HS := Lib.hid HS
        have HEL : Hid ((kC q).length = n * 1) := Lib.hid (by rw [HK.out, Nat.mul_one])
        go_enter Try.func50, Try.ntmps50
        go_upto_region 1 with (fail)
        generalize hW0 : ((w.alloc (.cells #[.int .i64 l, .int .i64 a, .int .i64 d, .int .i64 t, .int .i64 s, .int .i64 p, .slice (some ad0) n c] 24)).alloc (.cells #[.int .i64 zk, .int .i64 zp, .int .i64 zd, .int .i64 zi, .int .i64 zq, .int .i64 zr] 35)).alloc (.cells #[.int .i64 0, .int .i64 0, .int .i64 0, .int .i64 0, .int .i64 0, .int .i64 0, .slice none 0 0] 24) = W0 at *
        clear hW0
        have hlt : w.heap.size + 2 < W0.heap.size := HX.out.lt
        have c0 := cell_of_row W0 w.heap.size 0 _ _ _ HX.out.b0
        have k0 := frozen_of_row W0 w.heap.size 0 _ _ HX.out.b0
        have c1 := cell_of_row W0 w.heap.size 1 _ _ _ HX.out.b0
        have k1 := frozen_of_row W0 w.heap.size 1 _ _ HX.out.b0
        have c3 := cell_of_row W0 w.heap.size 3 _ _ _ HX.out.b0
        have k3 := frozen_of_row W0 w.heap.size 3 _ _ HX.out.b0
        have c4 := cell_of_row W0 w.heap.size 4 _ _ _ HX.out.b0
        have k4 := frozen_of_row W0 w.heap.size 4 _ _ HX.out.b0
        have c6 := cell_of_row W0 w.heap.size 6 _ _ _ HX.out.b0
        have k6 := frozen_of_row W0 w.heap.size 6 _ _ HX.out.b0
        have t1 := cell_of_row W0 (w.heap.size + 1) 1 _ _ _ HX.out.b1
        have t4 := cell_of_row W0 (w.heap.size + 1) 4 _ _ _ HX.out.b1
        go_upto_region 9 with (go_at_call 65; refine (l10One_any _ (by omega) _).mono ?_; rintro e w' ⟨rfl, rfl⟩)
        clear c0 k0 c1 k1 c3 k3 c4 k4 c6 k6 t1 t4
        have HX := Lib.hid (HX.out.put 1 (.int .i64 (cnt1 a)))
        have HX : Hid (E3 w (.cells #[.int .i64 l, .int .i64 (cnt1 a), .int .i64 d, .int .i64 t, .int .i64 s, .int .i64 p, .slice (some ad0) n c] 24) (.cells #[.int .i64 zk, .int .i64 zp, .int .i64 zd, .int .i64 zi, .int .i64 zq, .int .i64 zr] 35) (.cells #[.int .i64 0, .int .i64 0, .int .i64 0, .int .i64 0, .int .i64 0, .int .i64 0, .slice none 0 0] 24) _) := HX
        have HX := Lib.hid (HX.out.put 0 (.int .i64 now))
        have HX : Hid (E3 w (.cells #[.int .i64 now, .int .i64 (cnt1 a), .int .i64 d, .int .i64 t, .int .i64 s, .int .i64 p, .slice (some ad0) n c] 24) (.cells #[.int .i64 zk, .int .i64 zp, .int .i64 zd, .int .i64 zi, .int .i64 zq, .int .i64 zr] 35) (.cells #[.int .i64 0, .int .i64 0, .int .i64 0, .int .i64 0, .int .i64 0, .int .i64 0, .slice none 0 0] 24) _) := HX
        generalize (W0.setCell ⟨w.heap.size, 1, none⟩ (.int .i64 (cnt1 a))).setCell ⟨w.heap.size, 0, none⟩ (.int .i64 now) = W1 at *
        clear hlt
        have hlt : w.heap.size + 2 < W1.heap.size := HX.out.lt
        have hlt0 : w.heap.size < W1.heap.size := by omega
        have c6 := cell_of_row W1 w.heap.size 6 _ _ _ HX.out.b0
        have k6 := frozen_of_row W1 w.heap.size 6 _ _ HX.out.b0
        go_upto_region 10 with first | (at_builtin; (refine wpList_append_own_at _ rfl (.tmp 42) (.tmp 44) _ rfl W1.heap.size 3 i0 _ 1 8 Try.underlying22 HI.out.1 HI.out.2.1 HI.out.2.2.1 HI.out.2.2.2 rfl (by decide) (.slice (some ⟨W1.heap.size, 0, none⟩) 0 0) 0 [] rfl (World.ownsRow_lit W1 #[] 0 (Nat.le_refl _) (by decide) rfl) _ n c (kC q) rfl HEL.out (HS.out _ (HX.out.bel.trans ((dbox W1 (.cells #[] 3)).mono HX.out.bel.size))) H1.out (by unfold maxLen; omega) (by omega) (by simp) ?_); intro v' w4 g1 g2 _ _; rw [Nat.zero_add, List.nil_append] at g1; obtain ⟨a0, c0, rfl⟩ := wk_slice g1; have G0 := Lib.hid g1; have hg5 : Below W1.heap.size W1 w4 := ((dbox W1 (.cells #[] 3))).grown g2 (by simp) (by intro k hk; simp [Value.ownBlock] at hk; omega); have HX := Lib.hid (HX.out.to hg5); have HSZ := Lib.hid hg5.size; have HOWN := Lib.hid G0.out; clear g1 g2 hg5) | (at_builtin; (refine wpList_append_own_at _ rfl (.tmp 45) (.tmp 47) _ rfl W1.heap.size 3 i0 _ 1 8 Try.underlying22 HI.out.1 HI.out.2.1 HI.out.2.2.1 HI.out.2.2.2 rfl (by decide) (.slice a0 n c0) n (kC q) rfl (own_bl G0.out (dbox _ _)) ⟨w4.heap.size, 0, none⟩ 1 1 [.int .i64 now] rfl rfl (cell_one_new _ _ _) (by simp [Value.oneCell']) (by unfold maxLen; omega) (by omega) (by have := HSZ.out; simp; omega) ?_); intro v2 w6 g1 g2 _ _; rw [kC_app] at g1; obtain ⟨a2, c2, rfl⟩ := wk_slice g1; have G2 := Lib.hid g1; have hg6 : Below W1.heap.size w4 w6 := (((Below.refl W1.heap.size w4).alloc HSZ.out (.cells #[.int .i64 now] 3))).grown g2 (by have := HSZ.out; simp; omega) (fun k hk => (HOWN.out.lt k hk).1); have HX := Lib.hid (E3.mk (HX.out.bel.trans (hg6.mono (by have := HX.out.lt; omega))) ((hg6.block _ (by omega)).trans HX.out.b0) ((hg6.block _ (by omega)).trans HX.out.b1) ((hg6.block _ (by omega)).trans HX.out.b2)); have c6 := cell_of_row w6 w.heap.size 6 _ _ _ HX.out.b0; have k6 := frozen_of_row w6 w.heap.size 6 _ _ HX.out.b0; clear g1 g2 hg6)
        have HX := Lib.hid (HX.out.put 6 (.slice a2 (n + 1) c2))
        have HX : Hid (E3 w (.cells #[.int .i64 now, .int .i64 (cnt1 a), .int .i64 d, .int .i64 t, .int .i64 s, .int .i64 p, .slice a2 (n + 1) c2] 24) (.cells #[.int .i64 zk, .int .i64 zp, .int .i64 zd, .int .i64 zi, .int .i64 zq, .int .i64 zr] 35) (.cells #[.int .i64 0, .int .i64 0, .int .i64 0, .int .i64 0, .int .i64 0, .int .i64 0, .slice none 0 0] 24) (w6.setCell ⟨w.heap.size, 6, none⟩ (.slice a2 (n + 1) c2))) := HX
        have G2 := Lib.hid (own_far (p := w.heap.size) (i := 6) G2.out (by omega) (.slice a2 (n + 1) c2))
        clear c6 k6
        generalize w6.setCell ⟨w.heap.size, 6, none⟩ (.slice a2 (n + 1) c2) = W7 at *
        have cz := cell_of_row W7 w.heap.size 0 _ _ _ HX.out.b0
        have k0 := frozen_of_row W7 w.heap.size 0 _ _ HX.out.b0
        have c1 := cell_of_row W7 w.heap.size 1 _ _ _ HX.out.b0
        have k1 := frozen_of_row W7 w.heap.size 1 _ _ HX.out.b0
        have cc := cell_of_row W7 w.heap.size 2 _ _ _ HX.out.b0
        have k2 := frozen_of_row W7 w.heap.size 2 _ _ HX.out.b0
        have c3 := cell_of_row W7 w.heap.size 3 _ _ _ HX.out.b0
        have k3 := frozen_of_row W7 w.heap.size 3 _ _ HX.out.b0
        have c4 := cell_of_row W7 w.heap.size 4 _ _ _ HX.out.b0
        have k4 := frozen_of_row W7 w.heap.size 4 _ _ HX.out.b0
        have c5 := cell_of_row W7 w.heap.size 5 _ _ _ HX.out.b0
        have k5 := frozen_of_row W7 w.heap.size 5 _ _ HX.out.b0
        have c6 := cell_of_row W7 w.heap.size 6 _ _ _ HX.out.b0
        have k6 := frozen_of_row W7 w.heap.size 6 _ _ HX.out.b0
        have r0 := cell_of_row W7 (w.heap.size + 2) 0 _ _ _ HX.out.b2
        have f0 := frozen_of_row W7 (w.heap.size + 2) 0 _ _ HX.out.b2
        have r1 := cell_of_row W7 (w.heap.size + 2) 1 _ _ _ HX.out.b2
        have f1 := frozen_of_row W7 (w.heap.size + 2) 1 _ _ HX.out.b2
        have r2 := cell_of_row W7 (w.heap.size + 2) 2 _ _ _ HX.out.b2
        have f2 := frozen_of_row W7 (w.heap.size + 2) 2 _ _ HX.out.b2
        have r3 := cell_of_row W7 (w.heap.size + 2) 3 _ _ _ HX.out.b2
        have f3 := frozen_of_row W7 (w.heap.size + 2) 3 _ _ HX.out.b2
        have r4 := cell_of_row W7 (w.heap.size + 2) 4 _ _ _ HX.out.b2
        have f4 := frozen_of_row W7 (w.heap.size + 2) 4 _ _ HX.out.b2
        have r5 := cell_of_row W7 (w.heap.size + 2) 5 _ _ _ HX.out.b2
        have f5 := frozen_of_row W7 (w.heap.size + 2) 5 _ _ HX.out.b2
        have r6 := cell_of_row W7 (w.heap.size + 2) 6 _ _ _ HX.out.b2
        have f6 := frozen_of_row W7 (w.heap.size + 2) 6 _ _ HX.out.b2
        go_wp2
        refine bodyPost_ret (v := .tuple #[.agg #[.int .i64 now, .int .i64 (cnt1 a), .int .i64 d, .int .i64 t, .int .i64 s, .int .i64 p, .slice a2 (n + 1) c2], .int .i64 0]) (by simp [results, Try.results50, go_sem, r0, r1, r2, r3, r4, r5, r6]) rfl ?_
        rw [← hP]
        have hl2 : (q ++ [now]).length = n + 1 := by rw [List.length_append, HN.out]; rfl
        refine ⟨a2, c2, by rw [← hl2], lies_own (own_set7 G2.out hlt _ _ _ _ _ _ _), by rw [hl2]; exact fits_own G2.out, ev_bel7 HX.out.bel (by omega) _ _ _ _ _ _ _⟩
end Go.Proofs.Ytgbnoaclklbjbaa
