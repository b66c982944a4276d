/- NewData of impl. -/
import Derived.Test.YtgiegppakoiaiaaNewD
namespace Go.Proofs.Ytgiegppakoiaiaa
open Go.ChangeShapes Go.WideShapes Go.ChangeAt Go.RowKit
set_option linter.unusedVariables false
def NdPost (D : Dat) (y : Int) (w : World) (e : Ending) (w' : World) : Prop := ∃ H : DH, e = .returned (.tuple #[dV H D, .int .i64 y]) ∧ DOwn w.heap.size H D w' ∧ Below w.heap.size w w'
theorem nd_cells (w : World) (us : List Value) (t : TypeId) : ∀ (j : Nat) u, us[j]? = some u → (w.alloc (.cells us.toArray t)).cell? ((⟨w.heap.size, 0, none⟩ : Addr).add j) = some u := by
  intro j u hj
  have h := cell_of_row _ w.heap.size j _ _ _ (heap_alloc_new w (.cells us.toArray t))
  have e : (⟨w.heap.size, 0, none⟩ : Addr).add j = ⟨w.heap.size, j, none⟩ := by
    unfold Addr.add
    split
    · rename_i h0; rw [h0]
    · simp
  rw [e, h]
  simpa using hj
theorem ft1_one (z : FT) : ∀ u ∈ fC z, u.oneCell' = true := by
  obtain ⟨a, b, c, d⟩ := z
  intro u hu
  simp [fC] at hu
  rcases hu with rfl | rfl | rfl | rfl <;> rfl
theorem put_put (a : Act) (i : Nat) (x y : Value) : (a.put (some i) x).put (some i) y = a.put (some i) y := by
  simp [Act.put]
theorem put_comm (a : Act) {i j : Nat} (h : i ≠ j) (x y : Value) : (a.put (some i) x).put (some j) y = (a.put (some j) y).put (some i) x := by
  simp [Act.put, Array.setIfInBounds_comm _ _ h]
theorem ndF_p0 (a : Act) (v : Nat → Value) (x : Value) : (ndF a v).put (some 15) x = ndF a (upd v 0 x) := by
  unfold ndF
  rw [put_comm _ (i := 4) (j := 15) (by decide), put_comm _ (i := 20) (j := 15) (by decide), put_comm _ (i := 19) (j := 15) (by decide), put_comm _ (i := 18) (j := 15) (by decide), put_comm _ (i := 17) (j := 15) (by decide), put_comm _ (i := 16) (j := 15) (by decide), put_put]
  rfl
theorem ndF_p1 (a : Act) (v : Nat → Value) (x : Value) : (ndF a v).put (some 16) x = ndF a (upd v 1 x) := by
  unfold ndF
  rw [put_comm _ (i := 4) (j := 16) (by decide), put_comm _ (i := 20) (j := 16) (by decide), put_comm _ (i := 19) (j := 16) (by decide), put_comm _ (i := 18) (j := 16) (by decide), put_comm _ (i := 17) (j := 16) (by decide), put_put]
  rfl
theorem ndF_p2 (a : Act) (v : Nat → Value) (x : Value) : (ndF a v).put (some 17) x = ndF a (upd v 2 x) := by
  unfold ndF
  rw [put_comm _ (i := 4) (j := 17) (by decide), put_comm _ (i := 20) (j := 17) (by decide), put_comm _ (i := 19) (j := 17) (by decide), put_comm _ (i := 18) (j := 17) (by decide), put_put]
  rfl
theorem ndF_p3 (a : Act) (v : Nat → Value) (x : Value) : (ndF a v).put (some 18) x = ndF a (upd v 3 x) := by
  unfold ndF
  rw [put_comm _ (i := 4) (j := 18) (by decide), put_comm _ (i := 20) (j := 18) (by decide), put_comm _ (i := 19) (j := 18) (by decide), put_put]
  rfl
theorem ndF_p4 (a : Act) (v : Nat → Value) (x : Value) : (ndF a v).put (some 19) x = ndF a (upd v 4 x) := by
  unfold ndF
  rw [put_comm _ (i := 4) (j := 19) (by decide), put_comm _ (i := 20) (j := 19) (by decide), put_put]
  rfl
theorem mk16 : (madeCells (Value.int .i64 0).cells (16 * 1)).toList = kC (List.replicate 16 0) := by kernel_rfl
theorem mk8 : (madeCells (Value.bool false).cells (8 * 1)).toList = flat bI (List.replicate 8 false) := by kernel_rfl
abbrev kft (k : Int) : FT := (k, false, 0, 0)
theorem kft_take (ks : List Int) (j : Nat) (h : j < ks.length) : (ks.take (j + 1)).map kft = (ks.take j).map kft ++ [kft (ks.getD j 0)] := by
  rw [List.take_add_one, List.getElem?_eq_getElem h, List.map_append]
  simp [List.getD, h]
set_option maxRecDepth 100000 in
set_option maxHeartbeats 4000000 in
theorem newData_ok (ks : List Int) (a : Option Addr) (c : Nat) (w : World) (h4 : ks.length ≤ 4096) (hk : kindsB ks = true) (hz : Lies w a (kC ks)) : Calls Try.prog 6 #[.slice a ks.length c] w (NdPost (ndD ks) 0 w) := by
  have HC := Lib.hid (fun w hz => kindsOK_any a c ks (by unfold maxLen; omega) w hz)
  rw [hk] at HC
  have HZ := Lib.hid hz
  have h4' : (ks.length : Int) ≤ 4096 := by omega
  have HKT := Lib.hid (kft_take ks)
  have HP : Hid (∀ g b0 b1 b2 b3 b4 b5 d0 d1 d2 d3 d4 d5 X, NdL w g (.slice b0 16 d0) (.slice b2 8 d2) (.slice b3 8 d3) (.slice b4 8 d4) (.slice b5 8 d5) (.slice b1 ks.length d1) ks.length ((ks.take ks.length).map kft) X → Apart4 (.slice b2 8 d2) (.slice b3 8 d3) (.slice b4 8 d4) (.slice b5 8 d5) → ∀ u0 u1 u2 u3 u4 u5 u6,
      NdPost (ndD ks) 0 w (.returned (.tuple #[.agg #[.slice b0 16 d0, .slice b1 ks.length d1, .slice b2 8 d2, .slice b3 8 d3, .slice b4 8 d4, .slice b5 8 d5, .int .i64 0], .int .i64 0])) (set7 X w.heap.size u0 u1 u2 u3 u4 u5 u6)) := Lib.hid (fun g b0 b1 b2 b3 b4 b5 d0 d1 d2 d3 d4 d5 X h d u0 u1 u2 u3 u4 u5 u6 => by
    rw [List.take_length] at h
    have ho := h.own rfl d
    refine ⟨⟨b0, b1, b2, b3, b4, b5, d0, d1, d2, d3, d4, d5⟩, ?_, (ho.set7 (Nat.lt_succ_self _) _ _ _ _ _ _ _).base (Nat.le_succ _), bel_set7 h.bel (Nat.le_refl _) _ _ _ _ _ _ _⟩
    have e1 : (ndD ks).n1 = ks.length := by simp [ndD, Dat.n1]
    unfold dV
    rw [e1]
    rfl)
  clear hz hk
  obtain ⟨i0, hi, hz0, hz1, hz2⟩ := info_parts (show (Try.prog.info? 3).map (fun i => (i.zero, i.size, i.bytes)) = some (some (.int .i64 0), 1, 8) by kernel_rfl)
  have HI := Lib.hid (And.intro hi (And.intro hz0 (And.intro hz1 hz2)))
  clear hi hz0 hz1 hz2
  obtain ⟨i1, hi, hz0, hz1, hz2⟩ := info_parts (show (Try.prog.info? 4).map (fun i => (i.zero, i.size, i.bytes)) = some (some (.bool false), 1, 1) by kernel_rfl)
  have HJ := Lib.hid (And.intro hi (And.intro hz0 (And.intro hz1 hz2)))
  clear hi hz0 hz1 hz2
  obtain ⟨i2, hi, hz0, hz1, hz2⟩ := info_parts (show (Try.prog.info? 37).map (fun i => (i.zero, i.size, i.bytes)) = some (some (.agg #[.int .i64 0, .bool false, .int .i64 0, .int .i64 0]), 4, 32) by kernel_rfl)
  have HF := Lib.hid (And.intro hi (And.intro hz0 (And.intro hz1 hz2)))
  clear hi hz0 hz1 hz2
  have HL : Hid (ks.length = ks.length) := Lib.hid rfl
  generalize NdPost (ndD ks) 0 w = POST at *
  generalize hn : ks.length = n at *
  have HN := Lib.hid hn
  clear hn HL
  go_enter Try.func6, Try.ntmps6
  go_wp2_with (go_at_call 14; refine (HC.out _ (HZ.out.below ((Below.refl w.heap.size w).alloc (Nat.le_refl _) zO) (Nat.le_refl _))).mono ?_; rintro e w' ⟨rfl, rfl⟩)
  refine wp_region_inv' (ndJ w) (by kernel_rfl) (by kernel_rfl) ?_ ?_ ?_
  · exact ⟨fun _ => undef, by simp only [ndF, Act.put, List.setIfInBounds_toArray, List.set_cons_zero, List.set_cons_succ], GI.start _ _ _ _, ((Below.refl w.heap.size w).alloc (Nat.le_refl _) zO).drew, heap_alloc_new w zO, by simp, by simp, by simp⟩
  · refine InvSteps.cons ?_ (InvSteps.cons ?_ (InvSteps.cons ?_ (InvSteps.cons ?_ (InvSteps.cons ?_ (InvSteps.cons ?_ (InvSteps.cons ?_ (InvSteps.cons ?_ InvSteps.nil)))))))
    · rintro f a w0 ⟨v, rfl, h⟩ hk haf K hK
      refine wp_make_full _ _ _ rfl w0.heap.size 3 i0 _ 1 Try.underlying22 HI.out.1 HI.out.2.1 HI.out.2.2.1 .i64 .i64 _ _ 16 rfl rfl rfl rfl (by rw [HI.out.2.2.2]; omega) (by unfold maxLen; omega) (Nat.le_refl _) (fun w' ho hg => ?_)
      rw [mk16] at ho
      exact hK.out _ _ ⟨upd v 0 _, ndF_p0 _ _ _, h.make (k := 0) (by omega) hk ((Below.refl _ _).grown hg (Nat.le_refl _) (by intro k hk; cases hk)) rfl ho⟩
    · rintro f a w0 ⟨v, rfl, h⟩ hk haf K hK
      refine wp_make_full _ _ _ rfl w0.heap.size 4 i1 _ 1 Try.underlying24 HJ.out.1 HJ.out.2.1 HJ.out.2.2.1 .i64 .i64 _ _ 8 rfl rfl rfl rfl (by rw [HJ.out.2.2.2]; omega) (by unfold maxLen; omega) (Nat.le_refl _) (fun w' ho hg => ?_)
      rw [mk8] at ho
      exact hK.out _ _ ⟨upd v 1 _, ndF_p1 _ _ _, h.make (k := 1) (by omega) hk ((Below.refl _ _).grown hg (Nat.le_refl _) (by intro k hk; cases hk)) rfl ho⟩
    · rintro f a w0 ⟨v, rfl, h⟩ hk haf K hK
      refine wp_make_full _ _ _ rfl w0.heap.size 4 i1 _ 1 Try.underlying24 HJ.out.1 HJ.out.2.1 HJ.out.2.2.1 .i64 .i64 _ _ 8 rfl rfl rfl rfl (by rw [HJ.out.2.2.2]; omega) (by unfold maxLen; omega) (Nat.le_refl _) (fun w' ho hg => ?_)
      rw [mk8] at ho
      exact hK.out _ _ ⟨upd v 2 _, ndF_p2 _ _ _, h.make (k := 2) (by omega) hk ((Below.refl _ _).grown hg (Nat.le_refl _) (by intro k hk; cases hk)) rfl ho⟩
    · rintro f a w0 ⟨v, rfl, h⟩ hk haf K hK
      refine wp_make_full _ _ _ rfl w0.heap.size 4 i1 _ 1 Try.underlying24 HJ.out.1 HJ.out.2.1 HJ.out.2.2.1 .i64 .i64 _ _ 8 rfl rfl rfl rfl (by rw [HJ.out.2.2.2]; omega) (by unfold maxLen; omega) (Nat.le_refl _) (fun w' ho hg => ?_)
      rw [mk8] at ho
      exact hK.out _ _ ⟨upd v 3 _, ndF_p3 _ _ _, h.make (k := 3) (by omega) hk ((Below.refl _ _).grown hg (Nat.le_refl _) (by intro k hk; cases hk)) rfl ho⟩
    · rintro f a w0 ⟨v, rfl, h⟩ hk haf K hK
      refine wp_make_full _ _ _ rfl w0.heap.size 4 i1 _ 1 Try.underlying24 HJ.out.1 HJ.out.2.1 HJ.out.2.2.1 .i64 .i64 _ _ 8 rfl rfl rfl rfl (by rw [HJ.out.2.2.2]; omega) (by unfold maxLen; omega) (Nat.le_refl _) (fun w' ho hg => ?_)
      rw [mk8] at ho
      exact hK.out _ _ ⟨upd v 4 _, ndF_p4 _ _ _, h.make (k := 4) (by omega) hk ((Below.refl _ _).grown hg (Nat.le_refl _) (by intro k hk; cases hk)) rfl ho⟩
    · rintro f a w0 ⟨v, rfl, h⟩ hk haf K hK
      have hh := haf_all haf [0, 1, 2, 3, 4] (by kernel_rfl)
      have h04 : ∀ k, k < 5 → f k = true := fun k hk => hh k (by simp; omega)
      have HR := Lib.hid (h.build h04 hk)
      obtain ⟨b0, d0, e0⟩ := wk_slice (h.gi.row 0 _ rfl (h04 0 (by omega)))
      obtain ⟨b1, d1, e1⟩ := wk_slice (h.gi.row 1 _ rfl (h04 1 (by omega)))
      obtain ⟨b2, d2, e2⟩ := wk_slice (h.gi.row 2 _ rfl (h04 2 (by omega)))
      obtain ⟨b3, d3, e3⟩ := wk_slice (h.gi.row 3 _ rfl (h04 3 (by omega)))
      obtain ⟨b4, d4, e4⟩ := wk_slice (h.gi.row 4 _ rfl (h04 4 (by omega)))
      clear h hh h04 haf hk
      simp only [ndF, Act.put, List.setIfInBounds_toArray, List.set_cons_zero, List.set_cons_succ]
      go_simp
      refine hK.out _ _ ⟨_, ?_, HR.out⟩
      simp [ndF, upd, Act.put, e0, e1, e2, e3, e4]
    · rintro f a w0 ⟨v, rfl, h⟩ hk haf K hK
      have HR := Lib.hid (h.boxed hk)
      clear h haf hk
      simp only [ndF, Act.put, List.setIfInBounds_toArray, List.set_cons_zero, List.set_cons_succ]
      go_simp
      refine hK.out _ _ ⟨_, ?_, HR.out⟩
      simp [ndF, upd, Act.put]
    · rintro f a w0 ⟨v, he, h⟩ hk haf K hK
      have hh := haf_all haf [5, 6] (by kernel_rfl)
      have f5 := hh 5 (by simp)
      have f6 := hh 6 (by simp)
      refine h.use f5 f6 hk ?_
      intro b0 b1 b2 b3 b4 d0 d1 d2 d3 d4 g hS
      have e0 := hS.e0
      have e1 := hS.e1
      have e2 := hS.e2
      have e3 := hS.e3
      have e4 := hS.e4
      have v5 := hS.v5
      have v6 := hS.v6
      have hc := hS.hc
      have HR := Lib.hid hS.next
      have q0 := cell_of_row _ g 0 _ _ _ hc
      have q1 := cell_of_row _ g 1 _ _ _ hc
      have q2 := cell_of_row _ g 2 _ _ _ hc
      have q3 := cell_of_row _ g 3 _ _ _ hc
      have q4 := cell_of_row _ g 4 _ _ _ hc
      have q5 := cell_of_row _ g 5 _ _ _ hc
      have q6 := cell_of_row _ g 6 _ _ _ hc
      have z0 := frozen_of_row _ g 0 _ _ hc
      have z1 := frozen_of_row _ g 1 _ _ hc
      have z2 := frozen_of_row _ g 2 _ _ hc
      have z3 := frozen_of_row _ g 3 _ _ hc
      have z4 := frozen_of_row _ g 4 _ _ hc
      have z5 := frozen_of_row _ g 5 _ _ hc
      have z6 := frozen_of_row _ g 6 _ _ hc
      clear h haf hk hh f5 f6 hc hS
      subst he
      simp only [ndF, Act.put, List.setIfInBounds_toArray, List.set_cons_zero, List.set_cons_succ]
      go_simp
      refine hK.out _ _ ⟨_, ?_, HR.out⟩
      simp [ndF, upd, Act.put, e0, e1, e2, e3, e4, v5, v6]
  · rintro f a' w1 ⟨v, he, h⟩ hall
    refine h.fin hall ?_
    intro b0 b2 b3 b4 b5 d0 d2 d3 d4 d5 g hE
    have e0 := hE.e0
    have e1 := hE.e1
    have e2 := hE.e2
    have e3 := hE.e3
    have e4 := hE.e4
    have v5 := hE.v5
    have v6 := hE.v6
    have HL := Lib.hid hE.at0
    have HAP := Lib.hid hE.ap
    clear h hall hE
    subst he
    simp only [ndF, Act.put, List.setIfInBounds_toArray, List.set_cons_zero, List.set_cons_succ, e0, e1, e2, e3, e4, v5, v6]
    clear e0 e1 e2 e3 e4 v5 v6
    go_simp
    go_wp2
    go_loopw [23, 6] (fun i q wr => ∃ (j : Nat) (b1 : Option Addr) (d1 : Nat), j ≤ n ∧ i = .int .i64 j ∧ Hid (NdL w g (.slice b0 16 d0) (.slice b2 8 d2) (.slice b3 8 d3) (.slice b4 8 d4) (.slice b5 8 d5) (.slice b1 j d1) j ((ks.take j).map kft) wr)) (fun i _ _ => n - (intOf i).toNat)
    case atStart => exact ⟨0, none, 0, Nat.zero_le _, rfl, HL⟩
    case round =>
      obtain ⟨j, b1, d1, hj, rfl, hl⟩ := hrel
      have q1 := cell_of_row wr g 1 _ _ _ hl.out.blk
      by_cases hlt : j < n
      · obtain ⟨b, o, rfl, hbl, hcs⟩ := HZ.out.open (by rw [kC_len, HN.out]; omega)
        have c0 := kind_at hcs (i := j) (by rw [HN.out]; exact hlt)
        have c1 := (hl.out.bel.cell (p := ⟨b, o + j, none⟩) hbl).trans c0
        have HX := Lib.hid (HKT.out j hlt)
        have hW := hl.out.lt
        clear hcs c0
        generalize ks.getD j 0 = x at *
        go_wp2_with (at_builtin; go_must (refine wpList_append_own _ rfl (.tmp 28) (.tmp 31) _ rfl (w.heap.size + 1) 37 i2 _ 4 32 Try.underlying23 HF.out.1 HF.out.2.1 HF.out.2.2.1 HF.out.2.2.2 rfl (by decide) (.slice b1 j d1) j (flat fC ((ks.take j).map kft)) rfl (hl.out.fb.alloc _) ⟨wr.heap.size, 0, none⟩ 1 1 (fC (kft x)) rfl rfl (nd_cells wr (fC (kft x)) 37) (ft1_one _) (by unfold maxLen; omega) (by omega) (by simp; omega) ?_); intro v' w' g1 g2 _; obtain ⟨a', c', rfl⟩ := wk_slice g1; rw [← flat_snoc, ← HX.out] at g1; have G1 := Lib.hid g1; have G2 := Lib.hid g2; have hk := hl.out.blkg ((Below.refl wr.heap.size wr).alloc (Nat.le_refl _) (.cells (fC (kft x)).toArray 37)) g2; have q2 := cell_of_row w' g 1 _ _ _ hk; have z2 := frozen_of_row w' g 1 _ _ hk; clear g1 g2 hk)
        go_roundw
        case rel => exact ⟨j + 1, a', c', by omega, by go_num, by rw [HX.out]; exact Lib.hid (hl.out.push ((Below.refl wr.heap.size wr).alloc (Nat.le_refl _) (.cells (fC (kft x)).toArray 37)) (by rw [← HX.out]; exact G1.out) G2.out)⟩
        case measure => simp [intOf]; omega
      · obtain rfl : j = n := by omega
        have p0 := cell_of_row wr g 0 _ _ _ hl.out.blk
        have p2 := cell_of_row wr g 2 _ _ _ hl.out.blk
        have p3 := cell_of_row wr g 3 _ _ _ hl.out.blk
        have p4 := cell_of_row wr g 4 _ _ _ hl.out.blk
        have p5 := cell_of_row wr g 5 _ _ _ hl.out.blk
        have p6 := cell_of_row wr g 6 _ _ _ hl.out.blk
        have r0 := cell_of_row wr w.heap.size 0 _ _ _ hl.out.res
        have r1 := cell_of_row wr w.heap.size 1 _ _ _ hl.out.res
        have r2 := cell_of_row wr w.heap.size 2 _ _ _ hl.out.res
        have r3 := cell_of_row wr w.heap.size 3 _ _ _ hl.out.res
        have r4 := cell_of_row wr w.heap.size 4 _ _ _ hl.out.res
        have r5 := cell_of_row wr w.heap.size 5 _ _ _ hl.out.res
        have r6 := cell_of_row wr w.heap.size 6 _ _ _ hl.out.res
        have z0 := frozen_of_row wr w.heap.size 0 _ _ hl.out.res
        have z1 := frozen_of_row wr w.heap.size 1 _ _ hl.out.res
        have z2 := frozen_of_row wr w.heap.size 2 _ _ hl.out.res
        have z3 := frozen_of_row wr w.heap.size 3 _ _ hl.out.res
        have z4 := frozen_of_row wr w.heap.size 4 _ _ hl.out.res
        have z5 := frozen_of_row wr w.heap.size 5 _ _ hl.out.res
        have z6 := frozen_of_row wr w.heap.size 6 _ _ hl.out.res
        go_wp2
        refine bodyPost_ret (v := .tuple #[.agg #[.slice b0 16 d0, .slice b1 j d1, .slice b2 8 d2, .slice b3 8 d3, .slice b4 8 d4, .slice b5 8 d5, .int .i64 0], .int .i64 0]) (by simp [results, Try.results6, go_sem, r0, r1, r2, r3, r4, r5, r6]) rfl ?_
        exact HP.out _ _ _ _ _ _ _ _ _ _ _ _ _ _ hl.out HAP.out _ _ _ _ _ _ _
def ndRd (ks : List Int) : Dat := if 4096 < ks.length then nd0 else if kindsB ks = true then ndD ks else nd0
def ndRc (ks : List Int) : Int := if 4096 < ks.length then 2 else if kindsB ks = true then 0 else 1
abbrev nH : DH := ⟨none, none, none, none, none, none, 0, 0, 0, 0, 0, 0⟩
theorem nd0_own (B : Nat) (w : World) : DOwn B nH nd0 w :=
  ⟨World.ownsRow_nil _ _ _ _, World.ownsRow_nil _ _ _ _, World.ownsRow_nil _ _ _ _, World.ownsRow_nil _ _ _ _, World.ownsRow_nil _ _ _ _, World.ownsRow_nil _ _ _ _, fun _ _ h => (by cases h), fun _ _ h => (by cases h), fun _ _ h => (by cases h), fun _ _ h => (by cases h), fun _ _ h => (by cases h), fun _ _ h => (by cases h), fun _ _ h => (by cases h), fun _ _ h => (by cases h), fun _ _ h => (by cases h), fun _ _ h => (by cases h), fun _ _ h => (by cases h), fun _ _ h => (by cases h), fun _ _ h => (by cases h), fun _ _ h => (by cases h), fun _ _ h => (by cases h)⟩
theorem nd0_post (y : Int) (w w' : World) (hb : Below w.heap.size w w') : NdPost nd0 y w (.returned (.tuple #[.agg #[.slice none 0 0, .slice none 0 0, .slice none 0 0, .slice none 0 0, .slice none 0 0, .slice none 0 0, .int .i64 0], .int .i64 y])) w' :=
  ⟨nH, rfl, nd0_own _ _, hb⟩
theorem newData_any (ks : List Int) (a : Option Addr) (c : Nat) (w : World) (hm : ks.length ≤ maxLen) (hz : Lies w a (kC ks)) : Calls Try.prog 6 #[.slice a ks.length c] w (NdPost (ndRd ks) (ndRc ks) w) := by
  by_cases h4 : 4096 < ks.length
  · have e1 : ndRd ks = nd0 := if_pos h4
    have e2 : ndRc ks = 2 := if_pos h4
    rw [e1, e2]
    have HP := Lib.hid (nd0_post 2 w)
    unfold maxLen at hm
    have h4' : (4096 : Int) < ks.length := by omega
    clear e1 e2 hz h4
    generalize ks.length = n at *
    generalize NdPost nd0 2 w = POST at *
    go_enter Try.func6, Try.ntmps6
    go_wp2
    refine bodyPost_ret (v := .tuple #[.agg #[.slice none 0 0, .slice none 0 0, .slice none 0 0, .slice none 0 0, .slice none 0 0, .slice none 0 0, .int .i64 0], .int .i64 2]) (by simp [results, Try.results6, go_sem]) rfl ?_
    exact HP.out _ ((Below.refl w.heap.size w).alloc (Nat.le_refl _) _)
  · cases hk : kindsB ks
    · have e1 : ndRd ks = nd0 := by unfold ndRd; rw [if_neg h4, if_neg (by rw [hk]; simp)]
      have e2 : ndRc ks = 1 := by unfold ndRc; rw [if_neg h4, if_neg (by rw [hk]; simp)]
      rw [e1, e2]
      have HP := Lib.hid (nd0_post 1 w)
      have HC := Lib.hid (fun w hz => kindsOK_any a c ks hm w hz)
      rw [hk] at HC
      have HZ := Lib.hid hz
      have h4' : (ks.length : Int) ≤ 4096 := by omega
      clear e1 e2 hz h4 hk hm
      generalize ks.length = n at *
      generalize NdPost nd0 1 w = POST at *
      go_enter Try.func6, Try.ntmps6
      go_wp2_with (go_at_call 14; refine (HC.out _ (HZ.out.below ((Below.refl w.heap.size w).alloc (Nat.le_refl _) zO) (Nat.le_refl _))).mono ?_; rintro e w' ⟨rfl, rfl⟩)
      refine bodyPost_ret (v := .tuple #[.agg #[.slice none 0 0, .slice none 0 0, .slice none 0 0, .slice none 0 0, .slice none 0 0, .slice none 0 0, .int .i64 0], .int .i64 1]) (by simp [results, Try.results6, go_sem]) rfl ?_
      exact HP.out _ ((Below.refl w.heap.size w).alloc (Nat.le_refl _) _)
    · have e1 : ndRd ks = ndD ks := by unfold ndRd; rw [if_neg h4, if_pos hk]
      have e2 : ndRc ks = 0 := by unfold ndRc; rw [if_neg h4, if_pos hk]
      rw [e1, e2]
      exact newData_ok ks a c w (by omega) hk hz
end Go.Proofs.Ytgiegppakoiaiaa
