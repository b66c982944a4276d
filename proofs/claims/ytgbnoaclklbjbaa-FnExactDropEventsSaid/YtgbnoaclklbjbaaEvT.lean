/- spec's Take, Drop, Balance of sources; its exported functions. (Written by tools/gen_evt.py.) -/
import Derived.Test.YtgbnoaclklbjbaaEvS
namespace Go.Proofs.Ytgbnoaclklbjbaa
open Go.ChangeShapes Go.WideShapes Go.ChangeAt Go.RowKit
set_option linter.unusedVariables false
def LyPost (y : ST) (w : World) (e : Ending) (w' : World) : Prop := ∃ b c, e = .returned (sV y b c) ∧ Lies w' b (kC y.q) ∧ Fits b y.q.length c ∧ Below w.heap.size w w'

theorem l10Balance_any (x : ST) (b : Option Addr) (c : Nat) (ha : 0 ≤ x.a ∧ x.a ≤ 2147483647) (hd : 0 ≤ x.d ∧ x.d ≤ 2147483647) (ht : 0 ≤ x.t ∧ x.t ≤ 2147483647) (hs : 0 ≤ x.s ∧ x.s ≤ 2147483647) (hp : 0 ≤ x.p ∧ x.p ≤ 2147483647) (hn : x.q.length ≤ 4) (w : World) :
    Calls Try.prog 60 #[sV x b c] w fun e w' => e = .returned (.int .i64 (x.a - x.d - x.t - x.s - x.p - x.q.length)) ∧ Below w.heap.size w w' := by
  obtain ⟨l, a, d, t, s, p, q⟩ := x
  dsimp only at *
  show Calls Try.prog 60 #[.agg #[.int .i64 l, .int .i64 a, .int .i64 d, .int .i64 t, .int .i64 s, .int .i64 p, .slice b q.length c]] w (fun e w' => e = .returned (.int .i64 (a - d - t - s - p - q.length)) ∧ Below w.heap.size w w')
  generalize q.length = n at *
  have HB := Lib.hid (dbox w (.cells #[.int .i64 l, .int .i64 a, .int .i64 d, .int .i64 t, .int .i64 s, .int .i64 p, .slice b n c] 24))
  go_enter Try.func60, Try.ntmps60
  go_wp2
  go_ret
  exact ⟨rfl, HB.out⟩
set_option maxHeartbeats 1600000 in
theorem l10Drop_any (x : ST) (rn : Bool) (b : Option Addr) (c : Nat) (hp : 0 ≤ x.p ∧ x.p ≤ 2147483647) (hn : x.q.length ≤ 4) (w : World) :
    Calls Try.prog 57 #[sV x b c, .bool rn] w (LyPost ⟨x.l, x.a, x.d, x.t, x.s, min (x.p + (x.q.length + bitE rn)) 2147483647, []⟩ w) := by
  obtain ⟨l, a, d, t, s, p, q⟩ := x
  dsimp only at *
  have hbt : 0 ≤ bitE rn ∧ bitE rn ≤ 1 := by cases rn <;> decide
  have HBT := Lib.hid (fun X => l06Bit_any rn X)
  generalize hP : LyPost _ w = POST at *
  show Calls Try.prog 57 #[.agg #[.int .i64 l, .int .i64 a, .int .i64 d, .int .i64 t, .int .i64 s, .int .i64 p, .slice b q.length c], .bool rn] w POST
  generalize q.length = n at *
  generalize bitE rn = bt at *
  have HX := Lib.hid (Bx2.start w (.cells #[.int .i64 l, .int .i64 a, .int .i64 d, .int .i64 t, .int .i64 s, .int .i64 p, .slice b n c] 24) (.cells #[.int .i64 0, .int .i64 0, .int .i64 0, .int .i64 0, .int .i64 0, .int .i64 0, .slice none 0 0] 24))
  have HL2 : Hid (w.heap.size + 2 ≤ ((w.alloc (.cells #[.int .i64 l, .int .i64 a, .int .i64 d, .int .i64 t, .int .i64 s, .int .i64 p, .slice b n c] 24)).alloc (.cells #[.int .i64 0, .int .i64 0, .int .i64 0, .int .i64 0, .int .i64 0, .int .i64 0, .slice none 0 0] 24)).heap.size) := Lib.hid (by simp)
  have hw1 : IntKind.i64.wrap (p + (n : Int)) = p + n := IntWalk.i64_in _ (by omega)
  have hw2 : IntKind.i64.wrap (p + (n : Int) + bt) = p + n + bt := IntWalk.i64_in _ (by omega)
  obtain ⟨pn, hpn, hmn⟩ : ∃ pn : Int, min (p + ((n : Int) + bt)) 2147483647 = pn ∧ (if 2147483647 < p + (n : Int) + bt then 2147483647 else p + n + bt) = pn := ⟨_, rfl, by split <;> omega⟩
  rw [hpn] at hP
  clear hpn
  go_enter Try.func57, Try.ntmps57
  go_upto_region 1 with (fail)
  generalize (w.alloc (.cells #[.int .i64 l, .int .i64 a, .int .i64 d, .int .i64 t, .int .i64 s, .int .i64 p, .slice b n c] 24)).alloc (.cells #[.int .i64 0, .int .i64 0, .int .i64 0, .int .i64 0, .int .i64 0, .int .i64 0, .slice none 0 0] 24) = W0 at *
  have HS0 : Hid (Below W0.heap.size W0 W0.drew) := Lib.hid (Below.refl _ _).drew
  have c6 := cell_of_row W0 w.heap.size 5 _ _ _ HX.out.box
  have k6 := frozen_of_row W0 w.heap.size 5 _ _ HX.out.box
  refine wp_region_hl 11 (fun X => Below W0.heap.size W0 X) (by kernel_rfl) rfl rfl (by kernel_rfl) ?_
  refine hl_take (v := ?ve1) 0 rfl (by kernel_rfl) (fun _ _ _ h => h) (Or.inl ⟨by rfl, ?hye1⟩) HS0.out ?reste1
  case hye1 =>
    intro X hSw
    have s0 := cell_of_row X w.heap.size 5 _ _ _ (blk_bel HX.out.box hSw)
    have s1 := cell_of_row X w.heap.size 6 _ _ _ (blk_bel HX.out.box hSw)
    go_simp <;> with_reducible rfl
  try simp only [Act.put, List.setIfInBounds_toArray, List.set_cons_zero, List.set_cons_succ]
  refine hl_take (v := ?ve2) 1 rfl (by kernel_rfl) (fun _ _ _ h => h) (Or.inl ⟨by rfl, ?hye2⟩) HS0.out ?reste2
  case hye2 =>
    intro X hSw
    have s0 := cell_of_row X w.heap.size 5 _ _ _ (blk_bel HX.out.box hSw)
    have s1 := cell_of_row X w.heap.size 6 _ _ _ (blk_bel HX.out.box hSw)
    go_simp <;> with_reducible rfl
  try simp only [Act.put, List.setIfInBounds_toArray, List.set_cons_zero, List.set_cons_succ]
  refine hl_take (v := ?ve3) 2 rfl (by kernel_rfl) (fun _ _ _ h => h) (Or.inl ⟨by rfl, ?hye3⟩) HS0.out ?reste3
  case hye3 =>
    intro X hSw
    have s0 := cell_of_row X w.heap.size 5 _ _ _ (blk_bel HX.out.box hSw)
    have s1 := cell_of_row X w.heap.size 6 _ _ _ (blk_bel HX.out.box hSw)
    go_simp <;> with_reducible rfl
  try simp only [Act.put, List.setIfInBounds_toArray, List.set_cons_zero, List.set_cons_succ]
  refine hl_take (v := ?ve4) 3 rfl (by kernel_rfl) (fun _ _ _ h => h) (Or.inl ⟨by rfl, ?hye4⟩) HS0.out ?reste4
  case hye4 =>
    intro X hSw
    have s0 := cell_of_row X w.heap.size 5 _ _ _ (blk_bel HX.out.box hSw)
    have s1 := cell_of_row X w.heap.size 6 _ _ _ (blk_bel HX.out.box hSw)
    go_simp <;> with_reducible rfl
  try simp only [Act.put, List.setIfInBounds_toArray, List.set_cons_zero, List.set_cons_succ]
  refine hl_take (v := ?ve5) 4 rfl (by kernel_rfl) (fun _ _ _ h => h) (Or.inl ⟨by rfl, ?hye5⟩) HS0.out ?reste5
  case hye5 =>
    intro X hSw
    have s0 := cell_of_row X w.heap.size 5 _ _ _ (blk_bel HX.out.box hSw)
    have s1 := cell_of_row X w.heap.size 6 _ _ _ (blk_bel HX.out.box hSw)
    go_simp <;> with_reducible rfl
  try simp only [Act.put, List.setIfInBounds_toArray, List.set_cons_zero, List.set_cons_succ]
  refine hl_take (v := ?ve6) 5 rfl (by kernel_rfl) (fun _ _ _ h => h) (Or.inl ⟨by rfl, ?hye6⟩) HS0.out ?reste6
  case hye6 =>
    intro X hSw
    have s0 := cell_of_row X w.heap.size 5 _ _ _ (blk_bel HX.out.box hSw)
    have s1 := cell_of_row X w.heap.size 6 _ _ _ (blk_bel HX.out.box hSw)
    go_simp <;> with_reducible rfl
  try simp only [Act.put, List.setIfInBounds_toArray, List.set_cons_zero, List.set_cons_succ]
  refine hl_take (v := ?ve7) 6 rfl (by kernel_rfl) (fun _ _ _ h => h) (Or.inl ⟨by rfl, ?hye7⟩) HS0.out ?reste7
  case hye7 =>
    intro X hSw
    have s0 := cell_of_row X w.heap.size 5 _ _ _ (blk_bel HX.out.box hSw)
    have s1 := cell_of_row X w.heap.size 6 _ _ _ (blk_bel HX.out.box hSw)
    go_simp <;> with_reducible rfl
  try simp only [Act.put, List.setIfInBounds_toArray, List.set_cons_zero, List.set_cons_succ]
  refine hl_one 7 rfl (by kernel_rfl) (fun K hK => ?_)
  go_simp
  refine Calls.mono (HBT.out _) ?_
  rintro e w' ⟨rfl, rfl⟩
  refine hK.out _ _ HS0.out ?_
  clear hK
  try simp only [Act.put, List.setIfInBounds_toArray, List.set_cons_zero, List.set_cons_succ]
  refine hl_take (v := ?ve8) 8 rfl (by kernel_rfl) (fun _ _ _ h => h) (Or.inl ⟨by rfl, ?hye8⟩) HS0.out ?reste8
  case hye8 =>
    intro X hSw
    go_simp <;> with_reducible rfl
  try simp only [Act.put, List.setIfInBounds_toArray, List.set_cons_zero, List.set_cons_succ]
  refine hl_take (v := ?ve9) 9 rfl (by kernel_rfl) (fun _ _ _ h => h) (Or.inl ⟨by rfl, ?hye9⟩) HS0.out ?reste9
  case hye9 =>
    intro X hSw
    go_simp <;> with_reducible rfl
  try simp only [Act.put, List.setIfInBounds_toArray, List.set_cons_zero, List.set_cons_succ]
  refine hl_take (v := ?ve10) 10 rfl (by kernel_rfl) (fun _ _ _ h => h) (Or.inl ⟨by rfl, ?hye10⟩) HS0.out ?reste10
  case hye10 =>
    intro X hSw
    go_simp <;> with_reducible rfl
  try simp only [Act.put, List.setIfInBounds_toArray, List.set_cons_zero, List.set_cons_succ]
  refine hl_done (by kernel_rfl) ?_
  go_simp
  have HX := Lib.hid (show Bx2 w (.cells #[.int .i64 l, .int .i64 a, .int .i64 d, .int .i64 t, .int .i64 s, .int .i64 pn, .slice b n c] 24) (.cells #[.int .i64 0, .int .i64 0, .int .i64 0, .int .i64 0, .int .i64 0, .int .i64 0, .slice none 0 0] 24) (W0.setCell ⟨w.heap.size, 5, none⟩ (.int .i64 pn)).drew from ⟨(bel_set HX.out.bel (Nat.le_refl _) _).drew, wk_set HX.out.box 5 _, blk_far HX.out.box2 (by omega) _⟩)
  have HL2 : Hid (w.heap.size + 2 ≤ (W0.setCell ⟨w.heap.size, 5, none⟩ (.int .i64 pn)).drew.heap.size) := Lib.hid (by simpa [World.setCell] using HL2.out)
  clear c6 k6 hmn hw1 hw2
  generalize (W0.setCell ⟨w.heap.size, 5, none⟩ (.int .i64 pn)).drew = W1 at *
  have hlt : w.heap.size < W1.heap.size := by have := HL2.out; omega
  have c6 := cell_of_row W1 w.heap.size 6 _ _ _ HX.out.box
  have k6 := frozen_of_row W1 w.heap.size 6 _ _ HX.out.box
  go_upto_region 3 with (fail)
  have HX := Lib.hid (show Bx2 w (.cells #[.int .i64 l, .int .i64 a, .int .i64 d, .int .i64 t, .int .i64 s, .int .i64 pn, .slice (some ⟨W1.heap.size, 0, none⟩) 0 0] 24) (.cells #[.int .i64 0, .int .i64 0, .int .i64 0, .int .i64 0, .int .i64 0, .int .i64 0, .slice none 0 0] 24) ((W1.setCell ⟨w.heap.size, 6, none⟩ (.slice (some ⟨W1.heap.size, 0, none⟩) 0 0)).alloc (.cells #[] 3)) from Bx2.to ⟨bel_set HX.out.bel (Nat.le_refl _) _, wk_set HX.out.box 6 _, blk_far HX.out.box2 (by omega) _⟩ (dbox _ _))
  clear c6 k6 hlt HL2
  generalize (W1.setCell ⟨w.heap.size, 6, none⟩ (.slice (some ⟨W1.heap.size, 0, none⟩) 0 0)).alloc (.cells #[] 3) = W2 at *
  generalize W1.heap.size = g0 at *
  have c0 := cell_of_row W2 w.heap.size 0 _ _ _ HX.out.box
  have r0 := cell_of_row W2 (w.heap.size + 1) 0 _ _ _ HX.out.box2
  have f0 := frozen_of_row W2 (w.heap.size + 1) 0 _ _ HX.out.box2
  have c1 := cell_of_row W2 w.heap.size 1 _ _ _ HX.out.box
  have r1 := cell_of_row W2 (w.heap.size + 1) 1 _ _ _ HX.out.box2
  have f1 := frozen_of_row W2 (w.heap.size + 1) 1 _ _ HX.out.box2
  have c2 := cell_of_row W2 w.heap.size 2 _ _ _ HX.out.box
  have r2 := cell_of_row W2 (w.heap.size + 1) 2 _ _ _ HX.out.box2
  have f2 := frozen_of_row W2 (w.heap.size + 1) 2 _ _ HX.out.box2
  have c3 := cell_of_row W2 w.heap.size 3 _ _ _ HX.out.box
  have r3 := cell_of_row W2 (w.heap.size + 1) 3 _ _ _ HX.out.box2
  have f3 := frozen_of_row W2 (w.heap.size + 1) 3 _ _ HX.out.box2
  have c4 := cell_of_row W2 w.heap.size 4 _ _ _ HX.out.box
  have r4 := cell_of_row W2 (w.heap.size + 1) 4 _ _ _ HX.out.box2
  have f4 := frozen_of_row W2 (w.heap.size + 1) 4 _ _ HX.out.box2
  have c5 := cell_of_row W2 w.heap.size 5 _ _ _ HX.out.box
  have r5 := cell_of_row W2 (w.heap.size + 1) 5 _ _ _ HX.out.box2
  have f5 := frozen_of_row W2 (w.heap.size + 1) 5 _ _ HX.out.box2
  have c6 := cell_of_row W2 w.heap.size 6 _ _ _ HX.out.box
  have r6 := cell_of_row W2 (w.heap.size + 1) 6 _ _ _ HX.out.box2
  have f6 := frozen_of_row W2 (w.heap.size + 1) 6 _ _ HX.out.box2
  go_wp2
  refine bodyPost_ret (v := .agg #[.int .i64 l, .int .i64 a, .int .i64 d, .int .i64 t, .int .i64 s, .int .i64 pn, .slice (some ⟨g0, 0, none⟩) 0 0]) (by simp [results, Try.results57, go_sem, r0, r1, r2, r3, r4, r5, r6]) rfl ?_
  rw [← hP]
  exact ⟨some ⟨g0, 0, none⟩, 0, rfl, .inl rfl, ⟨Nat.le_refl _, fun _ => rfl⟩, ev_bel7 HX.out.bel (by omega) _ _ _ _ _ _ _⟩
set_option maxHeartbeats 1600000 in
theorem l10Take_any (x : ST) (aa : Int) (r : List Int) (b : Option Addr) (c : Nat) (hq : x.q = aa :: r) (hn : x.q.length ≤ 4) (hf : Fits b x.q.length c) (w : World) (hz : Lies w b (kC x.q)) :
    Calls Try.prog 53 #[sV x b c] w (LzPost ⟨x.l, x.a, x.d, x.t, x.s, x.p, r⟩ [.int .i64 aa] w) := by
  obtain ⟨i0, hi, hz0, hz1, hz2⟩ := info_parts (show (Try.prog.info? 3).map (fun i => (i.zero, i.size, i.bytes)) = some (some (.int .i64 0), 1, 8) by kernel_rfl)
  have HI := Lib.hid (And.intro hi (And.intro hz0 (And.intro hz1 hz2)))
  clear hi hz0 hz1 hz2
  obtain ⟨l, a, d, t, s, p, q⟩ := x
  dsimp only at *
  subst hq
  obtain ⟨hcn, _⟩ := hf
  obtain ⟨bb, bo, rfl, hbl, hcs⟩ := hz.open (by rw [kC_len]; simp)
  have hd0 : w.cell? ⟨bb, bo, none⟩ = some (.int .i64 aa) := by simpa using hcs 0 _ rfl
  have HS : Hid (∀ X, Below w.heap.size w X → ∀ j u, (kC r)[j]? = some u → X.cell? ((⟨bb, bo + 1, none⟩ : Addr).add j) = some u) := Lib.hid (fun X hX j u hj => by
    have h1 := hcs (j + 1) u (by simpa [kC] using hj)
    have h2 := (hX.cell (p := ⟨bb, bo + (j + 1), none⟩) hbl).trans h1
    rw [show bo + (j + 1) = bo + 1 + j by omega] at h2
    cases j <;> simpa [Addr.add] using h2)
  have H1 := Lib.hid (one_k r)
  have HEL : Hid ((kC r).length = r.length * 1) := Lib.hid (by rw [kC_len, Nat.mul_one])
  generalize hP : LzPost _ _ w = POST at *
  have hl1 : (aa :: r).length = r.length + 1 := rfl
  show Calls Try.prog 53 #[.agg #[.int .i64 l, .int .i64 a, .int .i64 d, .int .i64 t, .int .i64 s, .int .i64 p, .slice (some ⟨bb, bo, none⟩) (r.length + 1) c]] w POST
  have HX := Lib.hid (Bx2.start w (.cells #[.int .i64 l, .int .i64 a, .int .i64 d, .int .i64 t, .int .i64 s, .int .i64 p, .slice (some ⟨bb, bo, none⟩) (r.length + 1) c] 24) (.cells #[.int .i64 0, .int .i64 0, .int .i64 0, .int .i64 0, .int .i64 0, .int .i64 0, .slice none 0 0] 24))
  have HL2 : Hid (w.heap.size + 2 ≤ ((w.alloc (.cells #[.int .i64 l, .int .i64 a, .int .i64 d, .int .i64 t, .int .i64 s, .int .i64 p, .slice (some ⟨bb, bo, none⟩) (r.length + 1) c] 24)).alloc (.cells #[.int .i64 0, .int .i64 0, .int .i64 0, .int .i64 0, .int .i64 0, .int .i64 0, .slice none 0 0] 24)).heap.size) := Lib.hid (by simp)
  rw [hl1] at hn hcn
  clear hl1 hz hcs
  generalize hm : r.length = m at *
  have HM := Lib.hid hm
  clear hm
  go_enter Try.func53, Try.ntmps53
  go_upto_region 1 with (fail)
  have d0 := (HX.out.bel.cell (p := ⟨bb, bo, none⟩) hbl).trans hd0
  generalize (w.alloc (.cells #[.int .i64 l, .int .i64 a, .int .i64 d, .int .i64 t, .int .i64 s, .int .i64 p, .slice (some ⟨bb, bo, none⟩) (m + 1) c] 24)).alloc (.cells #[.int .i64 0, .int .i64 0, .int .i64 0, .int .i64 0, .int .i64 0, .int .i64 0, .slice none 0 0] 24) = W0 at *
  clear hd0
  have hlt : w.heap.size < W0.heap.size := by have := HL2.out; omega
  have hlt2 : bb < W0.heap.size := by omega
  have c6 := cell_of_row W0 w.heap.size 6 _ _ _ HX.out.box
  by_cases hc1 : c = 1
  · skip
    obtain rfl : c = 1 := hc1
    obtain rfl : m = 0 := by omega
    have HR0 : Hid (kC r = []) := Lib.hid (by have := HM.out; rw [List.eq_nil_of_length_eq_zero this]; rfl)
    have HSR : Hid (∀ X, Below w.heap.size w X → ∀ j u, (kC r)[j]? = some u → X.cell? ((⟨bb, bo, none⟩ : Addr).add j) = some u) := Lib.hid (fun X _ j u hj => by rw [HR0.out] at hj; simp at hj)
    go_upto_region 3 with (at_builtin; (refine wpList_append_own_at _ rfl (.tmp 9) (.tmp 12) _ rfl W0.heap.size 3 i0 _ 1 8 Try.underlying22 HI.out.1 HI.out.2.1 HI.out.2.2.1 HI.out.2.2.2 rfl (by decide) (.slice (some ⟨W0.heap.size, 0, none⟩) 0 0) 0 [] rfl (World.ownsRow_lit W0 #[] 0 (Nat.le_refl _) (by decide) rfl) ⟨bb, bo, none⟩ 0 0 (kC r) (by first | rfl | (simp; done)) HEL.out (HSR.out _ (HX.out.bel.trans ((dbox W0 (.cells #[] 3)).mono HX.out.bel.size))) H1.out (by unfold maxLen; omega) (by omega) (by simp) ?_); intro v' w4 g1 g2 _ _; rw [Nat.zero_add, List.nil_append] at g1; obtain ⟨a0, c0, rfl⟩ := wk_slice g1; have G0 := Lib.hid (own_base (B' := w.heap.size + 2) g1 HL2.out); have hg5 : Below W0.heap.size W0 w4 := ((dbox W0 (.cells #[] 3))).grown g2 (by simp) (by intro k hk; simp [Value.ownBlock] at hk; omega); have HX := Lib.hid (HX.out.to hg5); have e6 := cell_of_row w4 w.heap.size 6 _ _ _ HX.out.box; have k6 := frozen_of_row w4 w.heap.size 6 _ _ HX.out.box; clear g1 g2 hg5)
    have HX := Lib.hid (show Bx2 w (.cells #[.int .i64 l, .int .i64 a, .int .i64 d, .int .i64 t, .int .i64 s, .int .i64 p, .slice a0 0 c0] 24) (.cells #[.int .i64 0, .int .i64 0, .int .i64 0, .int .i64 0, .int .i64 0, .int .i64 0, .slice none 0 0] 24) (w4.setCell ⟨w.heap.size, 6, none⟩ (.slice a0 0 c0)) from ⟨bel_set HX.out.bel (Nat.le_refl _) _, wk_set HX.out.box 6 _, blk_far HX.out.box2 (by omega) _⟩)
    have G0 := Lib.hid (own_far (p := w.heap.size) (i := 6) G0.out (by omega) (.slice a0 0 c0))
    clear e6 k6 c6 d0 hlt hlt2
    generalize w4.setCell ⟨w.heap.size, 6, none⟩ (.slice a0 0 c0) = W2 at *
    have cz := cell_of_row W2 w.heap.size 0 _ _ _ HX.out.box
    have r0 := cell_of_row W2 (w.heap.size + 1) 0 _ _ _ HX.out.box2
    have f0 := frozen_of_row W2 (w.heap.size + 1) 0 _ _ HX.out.box2
    have c1 := cell_of_row W2 w.heap.size 1 _ _ _ HX.out.box
    have r1 := cell_of_row W2 (w.heap.size + 1) 1 _ _ _ HX.out.box2
    have f1 := frozen_of_row W2 (w.heap.size + 1) 1 _ _ HX.out.box2
    have c2 := cell_of_row W2 w.heap.size 2 _ _ _ HX.out.box
    have r2 := cell_of_row W2 (w.heap.size + 1) 2 _ _ _ HX.out.box2
    have f2 := frozen_of_row W2 (w.heap.size + 1) 2 _ _ HX.out.box2
    have c3 := cell_of_row W2 w.heap.size 3 _ _ _ HX.out.box
    have r3 := cell_of_row W2 (w.heap.size + 1) 3 _ _ _ HX.out.box2
    have f3 := frozen_of_row W2 (w.heap.size + 1) 3 _ _ HX.out.box2
    have c4 := cell_of_row W2 w.heap.size 4 _ _ _ HX.out.box
    have r4 := cell_of_row W2 (w.heap.size + 1) 4 _ _ _ HX.out.box2
    have f4 := frozen_of_row W2 (w.heap.size + 1) 4 _ _ HX.out.box2
    have c5 := cell_of_row W2 w.heap.size 5 _ _ _ HX.out.box
    have r5 := cell_of_row W2 (w.heap.size + 1) 5 _ _ _ HX.out.box2
    have f5 := frozen_of_row W2 (w.heap.size + 1) 5 _ _ HX.out.box2
    have c6 := cell_of_row W2 w.heap.size 6 _ _ _ HX.out.box
    have r6 := cell_of_row W2 (w.heap.size + 1) 6 _ _ _ HX.out.box2
    have f6 := frozen_of_row W2 (w.heap.size + 1) 6 _ _ HX.out.box2
    go_wp2
    refine bodyPost_ret (v := .tuple #[.agg #[.int .i64 l, .int .i64 a, .int .i64 d, .int .i64 t, .int .i64 s, .int .i64 p, .slice a0 0 c0], .int .i64 aa]) (by simp [results, Try.results53, go_sem, r0, r1, r2, r3, r4, r5, r6]) rfl ?_
    rw [← hP]
    refine ⟨a0, c0, by rw [← HM.out], lies_own (own_set7 G0.out (by omega) _ _ _ _ _ _ _), ?_, ev_bel7 HX.out.bel (by omega) _ _ _ _ _ _ _⟩
    rw [HM.out]
    exact fits_own G0.out
  · skip
    have hc2 : ¬ (1 = c) := fun h => hc1 h.symm
    have HSR := HS
    go_upto_region 3 with (at_builtin; (refine wpList_append_own_at _ rfl (.tmp 9) (.tmp 12) _ rfl W0.heap.size 3 i0 _ 1 8 Try.underlying22 HI.out.1 HI.out.2.1 HI.out.2.2.1 HI.out.2.2.2 rfl (by decide) (.slice (some ⟨W0.heap.size, 0, none⟩) 0 0) 0 [] rfl (World.ownsRow_lit W0 #[] 0 (Nat.le_refl _) (by decide) rfl) ⟨bb, bo + 1, none⟩ m (c - 1) (kC r) (by first | rfl | (simp; done)) HEL.out (HSR.out _ (HX.out.bel.trans ((dbox W0 (.cells #[] 3)).mono HX.out.bel.size))) H1.out (by unfold maxLen; omega) (by omega) (by simp) ?_); intro v' w4 g1 g2 _ _; rw [Nat.zero_add, List.nil_append] at g1; obtain ⟨a0, c0, rfl⟩ := wk_slice g1; have G0 := Lib.hid (own_base (B' := w.heap.size + 2) g1 HL2.out); have hg5 : Below W0.heap.size W0 w4 := ((dbox W0 (.cells #[] 3))).grown g2 (by simp) (by intro k hk; simp [Value.ownBlock] at hk; omega); have HX := Lib.hid (HX.out.to hg5); have e6 := cell_of_row w4 w.heap.size 6 _ _ _ HX.out.box; have k6 := frozen_of_row w4 w.heap.size 6 _ _ HX.out.box; clear g1 g2 hg5)
    have HX := Lib.hid (show Bx2 w (.cells #[.int .i64 l, .int .i64 a, .int .i64 d, .int .i64 t, .int .i64 s, .int .i64 p, .slice a0 m c0] 24) (.cells #[.int .i64 0, .int .i64 0, .int .i64 0, .int .i64 0, .int .i64 0, .int .i64 0, .slice none 0 0] 24) (w4.setCell ⟨w.heap.size, 6, none⟩ (.slice a0 m c0)) from ⟨bel_set HX.out.bel (Nat.le_refl _) _, wk_set HX.out.box 6 _, blk_far HX.out.box2 (by omega) _⟩)
    have G0 := Lib.hid (own_far (p := w.heap.size) (i := 6) G0.out (by omega) (.slice a0 m c0))
    clear e6 k6 c6 d0 hlt hlt2
    generalize w4.setCell ⟨w.heap.size, 6, none⟩ (.slice a0 m c0) = W2 at *
    have cz := cell_of_row W2 w.heap.size 0 _ _ _ HX.out.box
    have r0 := cell_of_row W2 (w.heap.size + 1) 0 _ _ _ HX.out.box2
    have f0 := frozen_of_row W2 (w.heap.size + 1) 0 _ _ HX.out.box2
    have c1 := cell_of_row W2 w.heap.size 1 _ _ _ HX.out.box
    have r1 := cell_of_row W2 (w.heap.size + 1) 1 _ _ _ HX.out.box2
    have f1 := frozen_of_row W2 (w.heap.size + 1) 1 _ _ HX.out.box2
    have c2 := cell_of_row W2 w.heap.size 2 _ _ _ HX.out.box
    have r2 := cell_of_row W2 (w.heap.size + 1) 2 _ _ _ HX.out.box2
    have f2 := frozen_of_row W2 (w.heap.size + 1) 2 _ _ HX.out.box2
    have c3 := cell_of_row W2 w.heap.size 3 _ _ _ HX.out.box
    have r3 := cell_of_row W2 (w.heap.size + 1) 3 _ _ _ HX.out.box2
    have f3 := frozen_of_row W2 (w.heap.size + 1) 3 _ _ HX.out.box2
    have c4 := cell_of_row W2 w.heap.size 4 _ _ _ HX.out.box
    have r4 := cell_of_row W2 (w.heap.size + 1) 4 _ _ _ HX.out.box2
    have f4 := frozen_of_row W2 (w.heap.size + 1) 4 _ _ HX.out.box2
    have c5 := cell_of_row W2 w.heap.size 5 _ _ _ HX.out.box
    have r5 := cell_of_row W2 (w.heap.size + 1) 5 _ _ _ HX.out.box2
    have f5 := frozen_of_row W2 (w.heap.size + 1) 5 _ _ HX.out.box2
    have c6 := cell_of_row W2 w.heap.size 6 _ _ _ HX.out.box
    have r6 := cell_of_row W2 (w.heap.size + 1) 6 _ _ _ HX.out.box2
    have f6 := frozen_of_row W2 (w.heap.size + 1) 6 _ _ HX.out.box2
    go_wp2
    refine bodyPost_ret (v := .tuple #[.agg #[.int .i64 l, .int .i64 a, .int .i64 d, .int .i64 t, .int .i64 s, .int .i64 p, .slice a0 m c0], .int .i64 aa]) (by simp [results, Try.results53, go_sem, r0, r1, r2, r3, r4, r5, r6]) rfl ?_
    rw [← hP]
    refine ⟨a0, c0, by rw [← HM.out], lies_own (own_set7 G0.out (by omega) _ _ _ _ _ _ _), ?_, ev_bel7 HX.out.bel (by omega) _ _ _ _ _ _ _⟩
    rw [HM.out]
    exact fits_own G0.out
end Go.Proofs.Ytgbnoaclklbjbaa
