/- l06New and NewData of spec. (Written by tools/gen_newd4.py.) -/
import Derived.Test.YtgiegppakoiaiaaNewD3
import Derived.Test.YtgiegppakoiaiaaHeld
namespace Go.Proofs.Ytgiegppakoiaiaa
open Go.ChangeShapes Go.WideShapes Go.ChangeAt Go.RowKit
set_option linter.unusedVariables false
theorem mk16' : (madeCells (Value.int .i64 0).cells (16 * 1)).toList = kC (List.replicate 16 0) := by kernel_rfl
def LnPost (D : Dat) (w : World) (e : Ending) (w' : World) : Prop := ∃ H : DH, e = .returned (dV H D) ∧ DOwn w.heap.size H D w' ∧ Below w.heap.size w w'
theorem hcC (z : FT) (w : World) : ∀ (j : Nat) u, (fC z)[j]? = some u → (w.alloc (.cells #[.int .i64 z.1, .bool z.2.1, .int .i64 z.2.2.1, .int .i64 z.2.2.2] 37)).cell? ((⟨w.heap.size, 0, none⟩ : Addr).add j) = some u := nd_cells w (fC z) 37
set_option maxRecDepth 100000 in
set_option maxHeartbeats 4000000 in
theorem l06New_any (ks : List Int) (a : Option Addr) (c : Nat) (w : World) (h4 : ks.length ≤ 4096) (hz : Lies w a (kC ks)) : Calls Try.prog 13 #[.slice a ks.length c] w (LnPost (ndD ks) w) := by
  have HBO := Lib.hid (fun w => l06Bools_any 8 (by omega) w)
  have HZ := Lib.hid hz
  have h4' : (ks.length : Int) ≤ 4096 := by omega
  have HKT := Lib.hid (kft_take ks)
  have HP : Hid (∀ g b0 b1 b2 b3 b4 b5 d0 d1 d2 d3 d4 d5 X, NdL w g (.slice b0 16 d0) (.slice b2 8 d2) (.slice b3 8 d3) (.slice b4 8 d4) (.slice b5 8 d5) (.slice b1 ks.length d1) ks.length ((ks.take ks.length).map kft) X → Apart4 (.slice b2 8 d2) (.slice b3 8 d3) (.slice b4 8 d4) (.slice b5 8 d5) → ∀ u0 u1 u2 u3 u4 u5 u6,
      LnPost (ndD ks) w (.returned (.agg #[.slice b0 16 d0, .slice b1 ks.length d1, .slice b2 8 d2, .slice b3 8 d3, .slice b4 8 d4, .slice b5 8 d5, .int .i64 0])) (set7 X w.heap.size u0 u1 u2 u3 u4 u5 u6)) := Lib.hid (fun g b0 b1 b2 b3 b4 b5 d0 d1 d2 d3 d4 d5 X h d u0 u1 u2 u3 u4 u5 u6 => by
    rw [List.take_length] at h
    have ho := h.own rfl d
    refine ⟨⟨b0, b1, b2, b3, b4, b5, d0, d1, d2, d3, d4, d5⟩, ?_, (ho.set7 (Nat.lt_succ_self _) _ _ _ _ _ _ _).base (Nat.le_succ _), bel_set7 h.bel (Nat.le_refl _) _ _ _ _ _ _ _⟩
    have e1 : (ndD ks).n1 = ks.length := by simp [ndD, Dat.n1]
    unfold dV
    rw [e1]
    rfl)
  clear hz
  obtain ⟨i0, hi, hz0, hz1, hz2⟩ := info_parts (show (Try.prog.info? 3).map (fun i => (i.zero, i.size, i.bytes)) = some (some (.int .i64 0), 1, 8) by kernel_rfl)
  have HI := Lib.hid (And.intro hi (And.intro hz0 (And.intro hz1 hz2)))
  clear hi hz0 hz1 hz2
  obtain ⟨i2, hi, hz0, hz1, hz2⟩ := info_parts (show (Try.prog.info? 37).map (fun i => (i.zero, i.size, i.bytes)) = some (some (.agg #[.int .i64 0, .bool false, .int .i64 0, .int .i64 0]), 4, 32) by kernel_rfl)
  have HF := Lib.hid (And.intro hi (And.intro hz0 (And.intro hz1 hz2)))
  clear hi hz0 hz1 hz2
  generalize LnPost (ndD ks) w = POST at *
  generalize hn : ks.length = n at *
  have HN := Lib.hid hn
  clear hn
  go_enter Try.func13, Try.ntmps13
  go_wp2_with fail
  refine wp_region_inv' (sdJ w) (by kernel_rfl) (by kernel_rfl) ?_ ?_ ?_
  · exact ⟨fun _ => undef, by simp only [sdF, Act.put, List.setIfInBounds_toArray, List.set_cons_zero, List.set_cons_succ], GI.start _ _ _ _, ((Below.refl w.heap.size w).alloc (Nat.le_refl _) zO).drew, heap_alloc_new w zO, by simp, by simp, by simp⟩
  · refine InvSteps.cons ?_ (InvSteps.cons ?_ (InvSteps.cons ?_ (InvSteps.cons ?_ (InvSteps.cons ?_ (InvSteps.cons ?_ (InvSteps.cons ?_ (InvSteps.cons ?_ (InvSteps.cons ?_ InvSteps.nil))))))))
    · rintro f a w0 ⟨v, rfl, h⟩ hk haf K hK
      refine wp_make_full _ _ _ rfl w0.heap.size 3 i0 _ 1 Try.underlying22 HI.out.1 HI.out.2.1 HI.out.2.2.1 .i64 .i64 _ _ 16 rfl rfl rfl rfl (by rw [HI.out.2.2.2]; omega) (by unfold maxLen; omega) (Nat.le_refl _) (fun w' ho hg => ?_)
      rw [mk16'] at ho
      exact hK.out _ _ ⟨upd v 0 _, sdF_p0 _ _ _, h.make (k := 0) (by omega) hk ((Below.refl _ _).grown hg (Nat.le_refl _) (by intro k hk; cases hk)) rfl ho⟩
    · rintro f a w0 ⟨v, he, h⟩ hk haf K hK
      have hR := Lib.hid (h.make (k := 1) (x := .slice (some ⟨w0.heap.size, 0, none⟩) 0 0) (by omega) hk ((Below.refl w0.heap.size w0).alloc (Nat.le_refl _) (.cells #[] 37)) rfl (World.ownsRow_lit (base := w0.heap.size) (e := 37) (size := 4) w0 #[] 0 (Nat.le_refl _) (Nat.zero_le _) rfl))
      clear h hk haf
      subst he
      go_simp
      exact hK.out _ _ ⟨upd v 1 _, sdF_p1 _ _ _, hR.out⟩
    · rintro f a w0 ⟨v, he, h⟩ hk haf K hK
      go_simp
      refine Calls.mono (HBO.out _) ?_
      rintro e w' ⟨b, d, rfl, ho, hb⟩
      subst he
      exact hK.out _ _ ⟨upd v 2 _, sdF_p2 _ _ _, h.make (k := 2) (by omega) hk hb rfl ho⟩
    · rintro f a w0 ⟨v, he, h⟩ hk haf K hK
      go_simp
      refine Calls.mono (HBO.out _) ?_
      rintro e w' ⟨b, d, rfl, ho, hb⟩
      subst he
      exact hK.out _ _ ⟨upd v 3 _, sdF_p3 _ _ _, h.make (k := 3) (by omega) hk hb rfl ho⟩
    · rintro f a w0 ⟨v, he, h⟩ hk haf K hK
      go_simp
      refine Calls.mono (HBO.out _) ?_
      rintro e w' ⟨b, d, rfl, ho, hb⟩
      subst he
      exact hK.out _ _ ⟨upd v 4 _, sdF_p4 _ _ _, h.make (k := 4) (by omega) hk hb rfl ho⟩
    · rintro f a w0 ⟨v, he, h⟩ hk haf K hK
      go_simp
      refine Calls.mono (HBO.out _) ?_
      rintro e w' ⟨b, d, rfl, ho, hb⟩
      subst he
      exact hK.out _ _ ⟨upd v 5 _, sdF_p5 _ _ _, h.make (k := 5) (by omega) hk hb rfl ho⟩
    · rintro f a w0 ⟨v, he, h⟩ hk haf K hK
      have hh := haf_all haf [0, 1, 2, 3, 4, 5] (by kernel_rfl)
      have h04 : ∀ k, k < 6 → f k = true := fun k hk => hh k (by simp; omega)
      have HR := Lib.hid (h.build h04 hk)
      obtain ⟨b0, d0, e0⟩ := wk_slice (h.gi.row 0 _ rfl (h04 0 (by omega)))
      obtain ⟨b1, d1, e1⟩ := wk_slice (h.gi.row 1 _ rfl (h04 1 (by omega)))
      obtain ⟨b2, d2, e2⟩ := wk_slice (h.gi.row 2 _ rfl (h04 2 (by omega)))
      obtain ⟨b3, d3, e3⟩ := wk_slice (h.gi.row 3 _ rfl (h04 3 (by omega)))
      obtain ⟨b4, d4, e4⟩ := wk_slice (h.gi.row 4 _ rfl (h04 4 (by omega)))
      obtain ⟨b5, d5, e5⟩ := wk_slice (h.gi.row 5 _ rfl (h04 5 (by omega)))
      clear h hh h04 haf hk
      subst he
      simp only [sdF, Act.put, List.setIfInBounds_toArray, List.set_cons_zero, List.set_cons_succ]
      go_simp
      refine hK.out _ _ ⟨_, ?_, HR.out⟩
      simp [sdF, upd, Act.put, e0, e1, e2, e3, e4, e5]
    · rintro f a w0 ⟨v, he, h⟩ hk haf K hK
      have HR := Lib.hid (h.boxed hk)
      clear h haf hk
      subst he
      simp only [sdF, Act.put, List.setIfInBounds_toArray, List.set_cons_zero, List.set_cons_succ]
      go_simp
      refine hK.out _ _ ⟨_, ?_, HR.out⟩
      simp [sdF, upd, Act.put]
    · rintro f a w0 ⟨v, he, h⟩ hk haf K hK
      have hh := haf_all haf [6, 7] (by kernel_rfl)
      have f5 := hh 6 (by simp)
      have f6 := hh 7 (by simp)
      refine h.use f5 f6 hk ?_
      intro b0 b1 b2 b3 b4 b5 d0 d1 d2 d3 d4 d5 g hS
      have e0 := hS.e0
      have e1 := hS.e1
      have e2 := hS.e2
      have e3 := hS.e3
      have e4 := hS.e4
      have e5 := hS.e5
      have v6 := hS.v6
      have v7 := hS.v7
      have hc := hS.hc
      have HR := Lib.hid hS.next
      have q0 := cell_of_row _ g 0 _ _ _ hc
      have z0 := frozen_of_row _ g 0 _ _ hc
      have q1 := cell_of_row _ g 1 _ _ _ hc
      have z1 := frozen_of_row _ g 1 _ _ hc
      have q2 := cell_of_row _ g 2 _ _ _ hc
      have z2 := frozen_of_row _ g 2 _ _ hc
      have q3 := cell_of_row _ g 3 _ _ _ hc
      have z3 := frozen_of_row _ g 3 _ _ hc
      have q4 := cell_of_row _ g 4 _ _ _ hc
      have z4 := frozen_of_row _ g 4 _ _ hc
      have q5 := cell_of_row _ g 5 _ _ _ hc
      have z5 := frozen_of_row _ g 5 _ _ hc
      have q6 := cell_of_row _ g 6 _ _ _ hc
      have z6 := frozen_of_row _ g 6 _ _ hc
      clear h haf hk hh f5 f6 hc hS
      subst he
      simp only [sdF, Act.put, List.setIfInBounds_toArray, List.set_cons_zero, List.set_cons_succ]
      go_simp
      refine hK.out _ _ ⟨_, ?_, HR.out⟩
      simp [sdF, upd, Act.put, e0, e1, e2, e3, e4, e5, v6, v7]
  · rintro f a' w1 ⟨v, he, h⟩ hall
    refine h.fin hall ?_
    intro b0 b1 b2 b3 b4 b5 d0 d1 d2 d3 d4 d5 g hE
    have e0 := hE.e0
    have e1 := hE.e1
    have e2 := hE.e2
    have e3 := hE.e3
    have e4 := hE.e4
    have e5 := hE.e5
    have v6 := hE.v6
    have v7 := hE.v7
    have HL := Lib.hid hE.at0
    have HAP := Lib.hid hE.ap
    clear h hall hE
    subst he
    simp only [sdF, Act.put, List.setIfInBounds_toArray, List.set_cons_zero, List.set_cons_succ, e0, e1, e2, e3, e4, e5, v6, v7]
    clear e0 e1 e2 e3 e4 e5 v6 v7
    go_simp
    go_wp2
    go_loopw [4] (fun i wr => ∃ (j : Nat) (b1 : Option Addr) (d1 : Nat), j ≤ n ∧ i = .int .i64 j ∧ Hid (NdL w g (.slice b0 16 d0) (.slice b2 8 d2) (.slice b3 8 d3) (.slice b4 8 d4) (.slice b5 8 d5) (.slice b1 j d1) j ((ks.take j).map kft) wr)) (fun i _ => n - (intOf i).toNat)
    case atStart => exact ⟨0, b1, d1, Nat.zero_le _, rfl, HL⟩
    case round =>
      obtain ⟨j, b1, d1, hj, rfl, hl⟩ := hrel
      by_cases hlt : j < n
      · obtain ⟨b, o, rfl, hbl, hcs⟩ := HZ.out.open (by rw [kC_len, HN.out]; omega)
        have c0 := kind_at hcs (i := j) (by rw [HN.out]; exact hlt)
        have HC0 := Lib.hid c0
        have HX := Lib.hid (HKT.out j hlt)
        have hW := hl.out.lt
        clear hcs c0
        generalize ks.getD j 0 = x at *
        have HSW := Lib.hid (And.intro (show wr.drew.heap[g]? = some (.cells #[.slice b0 16 d0, .slice b1 j d1, .slice b2 8 d2, .slice b3 8 d3, .slice b4 8 d4, .slice b5 8 d5, .int .i64 0] 26) from hl.out.blk) (show Below w.heap.size w wr.drew from hl.out.bel.drew))
        go_wp2_with fail
        refine wp_region_hl 10 (fun X => X.heap[g]? = some (.cells #[.slice b0 16 d0, .slice b1 j d1, .slice b2 8 d2, .slice b3 8 d3, .slice b4 8 d4, .slice b5 8 d5, .int .i64 0] 26) ∧ Below w.heap.size w X) (by kernel_rfl) rfl rfl (by kernel_rfl) ?_
        refine hl_take (v := ?v0) 0 rfl (by kernel_rfl) (fun _ _ _ h => h) (Or.inl ⟨by rfl, ?hy0⟩) HSW.out ?rest0
        case hy0 =>
          intro X hSw
          have c1 := cell_of_row X g 1 _ _ _ hSw.1
          have c2 := (hSw.2.cell (p := ⟨b, o + j, none⟩) hbl).trans HC0.out
          go_simp <;> with_reducible rfl
        try simp only [Act.put, List.setIfInBounds_toArray, List.set_cons_zero, List.set_cons_succ]
        refine hl_take (v := ?v1) 1 rfl (by kernel_rfl) (fun _ _ _ h => h) (Or.inl ⟨by rfl, ?hy1⟩) HSW.out ?rest1
        case hy1 =>
          intro X hSw
          have c1 := cell_of_row X g 1 _ _ _ hSw.1
          have c2 := (hSw.2.cell (p := ⟨b, o + j, none⟩) hbl).trans HC0.out
          go_simp <;> with_reducible rfl
        try simp only [Act.put, List.setIfInBounds_toArray, List.set_cons_zero, List.set_cons_succ]
        refine hl_take (v := ?v2) 2 rfl (by kernel_rfl) (fun _ _ _ h => h) (Or.inl ⟨by rfl, ?hy2⟩) HSW.out ?rest2
        case hy2 =>
          intro X hSw
          have c1 := cell_of_row X g 1 _ _ _ hSw.1
          have c2 := (hSw.2.cell (p := ⟨b, o + j, none⟩) hbl).trans HC0.out
          go_simp <;> with_reducible rfl
        try simp only [Act.put, List.setIfInBounds_toArray, List.set_cons_zero, List.set_cons_succ]
        refine hl_take (v := ?v3) 3 rfl (by kernel_rfl) (fun _ _ _ h => h) (Or.inl ⟨by rfl, ?hy3⟩) HSW.out ?rest3
        case hy3 =>
          intro X hSw
          have c1 := cell_of_row X g 1 _ _ _ hSw.1
          have c2 := (hSw.2.cell (p := ⟨b, o + j, none⟩) hbl).trans HC0.out
          go_simp <;> with_reducible rfl
        try simp only [Act.put, List.setIfInBounds_toArray, List.set_cons_zero, List.set_cons_succ]
        refine hl_take (v := ?v4) 4 rfl (by kernel_rfl) (fun _ _ _ h => h) (Or.inl ⟨by rfl, ?hy4⟩) HSW.out ?rest4
        case hy4 =>
          intro X hSw
          have c1 := cell_of_row X g 1 _ _ _ hSw.1
          have c2 := (hSw.2.cell (p := ⟨b, o + j, none⟩) hbl).trans HC0.out
          go_simp <;> with_reducible rfl
        try simp only [Act.put, List.setIfInBounds_toArray, List.set_cons_zero, List.set_cons_succ]
        refine hl_take (v := ?v5) 5 rfl (by kernel_rfl) (fun _ _ _ h => h) (Or.inl ⟨by rfl, ?hy5⟩) HSW.out ?rest5
        case hy5 =>
          intro X hSw
          have c1 := cell_of_row X g 1 _ _ _ hSw.1
          have c2 := (hSw.2.cell (p := ⟨b, o + j, none⟩) hbl).trans HC0.out
          go_simp <;> with_reducible rfl
        try simp only [Act.put, List.setIfInBounds_toArray, List.set_cons_zero, List.set_cons_succ]
        refine hl_take (v := ?v6) 6 rfl (by kernel_rfl) (fun _ _ _ h => h) (Or.inl ⟨by rfl, ?hy6⟩) HSW.out ?rest6
        case hy6 =>
          intro X hSw
          have c1 := cell_of_row X g 1 _ _ _ hSw.1
          have c2 := (hSw.2.cell (p := ⟨b, o + j, none⟩) hbl).trans HC0.out
          go_simp <;> with_reducible rfl
        try simp only [Act.put, List.setIfInBounds_toArray, List.set_cons_zero, List.set_cons_succ]
        refine hl_one 7 rfl (by kernel_rfl) (fun K hK => ?_)
        go_simp
        have HB2 := Lib.hid (show Below wr.heap.size wr (wr.drew.alloc (.cells #[.int .i64 x, .bool false, .int .i64 0, .int .i64 0] 37)) from (Below.refl wr.heap.size wr).drew.alloc (Nat.le_refl _) _)
        have HL2 := Lib.hid (hl.out.to HB2.out)
        refine hK.out _ _ ⟨HL2.out.blk, HL2.out.bel⟩ ?_
        clear hK
        try simp only [Act.put, List.setIfInBounds_toArray, List.set_cons_zero, List.set_cons_succ]
        refine hl_one 8 rfl (by kernel_rfl) (fun K hK => ?_)
        refine wp_append_own _ (.tmp 19) (.tmp 25) _ rfl (w.heap.size + 1) 37 i2 _ 4 32 Try.underlying23 HF.out.1 HF.out.2.1 HF.out.2.2.1 HF.out.2.2.2 rfl (by decide) (.slice b1 j d1) j _ rfl HL2.out.fb ⟨wr.heap.size, 0, none⟩ 1 1 (fC (kft x)) rfl rfl (hcC (kft x) wr.drew) (ft1_one _) (by unfold maxLen; omega) (by omega) HL2.out.lt (fun v' w4 g1 g2 _ => ?_)
        obtain ⟨a', c', rfl⟩ := wk_slice g1
        rw [← flat_snoc, ← HX.out] at g1
        have G1 := Lib.hid g1
        have G2 := Lib.hid g2
        have hk := hl.out.blkg HB2.out g2
        have q2 := cell_of_row w4 g 1 _ _ _ hk
        have z2 := frozen_of_row w4 g 1 _ _ hk
        have HS4 := Lib.hid (And.intro hk (HL2.out.bel.grown g2 HL2.out.bel.size (fun q e => by have := (HL2.out.fb.lt q e).1; omega)))
        refine hK.out _ _ HS4.out ?_
        clear hK g1 g2 hk
        try simp only [Act.put, List.setIfInBounds_toArray, List.set_cons_zero, List.set_cons_succ]
        refine hl_one 9 rfl (by kernel_rfl) (fun K hK => ?_)
        go_simp
        refine hK.out _ _ HS4.out ?_
        clear hK
        try simp only [Act.put, List.setIfInBounds_toArray, List.set_cons_zero, List.set_cons_succ]
        refine hl_done (by kernel_rfl) ?_
        go_simp
        go_wp2
        go_roundw
        case rel => exact ⟨j + 1, a', c', by omega, by go_num, by rw [HX.out]; exact Lib.hid (hl.out.push HB2.out (by rw [← HX.out]; exact G1.out) G2.out)⟩
        case measure => simp [intOf]; omega
      · obtain rfl : j = n := by omega
        have p1 := cell_of_row wr g 1 _ _ _ hl.out.blk
        have p0 := cell_of_row wr g 0 _ _ _ hl.out.blk
        have p2 := cell_of_row wr g 2 _ _ _ hl.out.blk
        have p3 := cell_of_row wr g 3 _ _ _ hl.out.blk
        have p4 := cell_of_row wr g 4 _ _ _ hl.out.blk
        have p5 := cell_of_row wr g 5 _ _ _ hl.out.blk
        have p6 := cell_of_row wr g 6 _ _ _ hl.out.blk
        have r0 := cell_of_row wr w.heap.size 0 _ _ _ hl.out.res
        have z0 := frozen_of_row wr w.heap.size 0 _ _ hl.out.res
        have r1 := cell_of_row wr w.heap.size 1 _ _ _ hl.out.res
        have z1 := frozen_of_row wr w.heap.size 1 _ _ hl.out.res
        have r2 := cell_of_row wr w.heap.size 2 _ _ _ hl.out.res
        have z2 := frozen_of_row wr w.heap.size 2 _ _ hl.out.res
        have r3 := cell_of_row wr w.heap.size 3 _ _ _ hl.out.res
        have z3 := frozen_of_row wr w.heap.size 3 _ _ hl.out.res
        have r4 := cell_of_row wr w.heap.size 4 _ _ _ hl.out.res
        have z4 := frozen_of_row wr w.heap.size 4 _ _ hl.out.res
        have r5 := cell_of_row wr w.heap.size 5 _ _ _ hl.out.res
        have z5 := frozen_of_row wr w.heap.size 5 _ _ hl.out.res
        have r6 := cell_of_row wr w.heap.size 6 _ _ _ hl.out.res
        have z6 := frozen_of_row wr w.heap.size 6 _ _ hl.out.res
        go_wp2
        refine bodyPost_ret (v := .agg #[.slice b0 16 d0, .slice b1 j d1, .slice b2 8 d2, .slice b3 8 d3, .slice b4 8 d4, .slice b5 8 d5, .int .i64 0]) (by simp [results, Try.results13, go_sem, r0, r1, r2, r3, r4, r5, r6]) rfl ?_
        exact HP.out _ _ _ _ _ _ _ _ _ _ _ _ _ _ hl.out HAP.out _ _ _ _ _ _ _
theorem specNewData_any (ks : List Int) (a : Option Addr) (c : Nat) (w : World) (hm : ks.length ≤ maxLen) (hz : Lies w a (kC ks)) : Calls Try.prog 4 #[.slice a ks.length c] w (NdPost (ndRd ks) (ndRc ks) w) := by
  by_cases h4 : 4096 < ks.length
  · have e1 : ndRd ks = nd0 := if_pos h4
    have e2 : ndRc ks = 2 := if_pos h4
    rw [e1, e2]
    have HP := Lib.hid (nd0_post 2 w)
    unfold maxLen at hm
    have h4' : (4096 : Int) < ks.length := by omega
    clear e1 e2 hz h4
    generalize ks.length = n at *
    generalize NdPost nd0 2 w = POST at *
    go_enter Try.func4, Try.ntmps4
    go_wp2
    refine bodyPost_ret (v := .tuple #[.agg #[.slice none 0 0, .slice none 0 0, .slice none 0 0, .slice none 0 0, .slice none 0 0, .slice none 0 0, .int .i64 0], .int .i64 2]) (by simp [results, Try.results4, go_sem]) rfl ?_
    exact HP.out _ ((Below.refl w.heap.size w).alloc (Nat.le_refl _) _)
  have h4' : (ks.length : Int) ≤ 4096 := by omega
  have HC := Lib.hid (fun w hz => l04Kinds_any a c ks hm w hz)
  have HZ := Lib.hid hz
  cases hk : kindsB ks
  · have e1 : ndRd ks = nd0 := by unfold ndRd; rw [if_neg h4, if_neg (by rw [hk]; simp)]
    have e2 : ndRc ks = 1 := by unfold ndRc; rw [if_neg h4, if_neg (by rw [hk]; simp)]
    rw [e1, e2]
    have HP := Lib.hid (nd0_post 1 w)
    rw [hk] at HC
    clear e1 e2 hz h4 hk hm
    generalize ks.length = n at *
    generalize NdPost nd0 1 w = POST at *
    go_enter Try.func4, Try.ntmps4
    go_wp2_with (go_at_call 12; refine (HC.out _ (HZ.out.below ((Below.refl w.heap.size w).alloc (Nat.le_refl _) zO) (Nat.le_refl _))).mono ?_; rintro e w' ⟨rfl, rfl⟩)
    refine bodyPost_ret (v := .tuple #[.agg #[.slice none 0 0, .slice none 0 0, .slice none 0 0, .slice none 0 0, .slice none 0 0, .slice none 0 0, .int .i64 0], .int .i64 1]) (by simp [results, Try.results4, go_sem]) rfl ?_
    exact HP.out _ ((Below.refl w.heap.size w).alloc (Nat.le_refl _) _)
  · have e1 : ndRd ks = ndD ks := by unfold ndRd; rw [if_neg h4, if_pos hk]
    have e2 : ndRc ks = 0 := by unfold ndRc; rw [if_neg h4, if_pos hk]
    rw [e1, e2]
    have HN := Lib.hid (fun w hz => l06New_any ks a c w (by omega) hz)
    rw [hk] at HC
    have HP : Hid (∀ H w1 u0 u1 u2 u3 u4 u5 u6, DOwn (w.heap.size + 1) H (ndD ks) w1 → Below w.heap.size w w1 → NdPost (ndD ks) 0 w (.returned (.tuple #[dV H (ndD ks), .int .i64 0])) (set7 w1 w.heap.size u0 u1 u2 u3 u4 u5 u6)) := Lib.hid (fun H w1 u0 u1 u2 u3 u4 u5 u6 ho hb => ⟨H, rfl, (ho.set7 (Nat.lt_succ_self _) _ _ _ _ _ _ _).base (Nat.le_succ _), bel_set7 hb (Nat.le_refl _) _ _ _ _ _ _ _⟩)
    have HBz := Lib.hid ((Below.refl w.heap.size w).alloc (Nat.le_refl _) zO)
    have HKz := Lib.hid (heap_alloc_new w zO)
    have HSz : Hid ((w.alloc zO).heap.size = w.heap.size + 1) := Lib.hid (by simp)
    clear e1 e2 hz h4 hk hm
    generalize ks.length = n at *
    generalize NdPost (ndD ks) 0 w = POST at *
    generalize ndD ks = D at *
    go_enter Try.func4, Try.ntmps4
    go_wp2_with (go_at_call 12; refine (HC.out _ (HZ.out.below HBz.out (Nat.le_refl _))).mono ?_; rintro e w' ⟨rfl, rfl⟩)
    go_wp2_with fail
    refine Calls.mono (HN.out _ (HZ.out.below HBz.out (Nat.le_refl _))) ?_
    rintro e w1 ⟨H, rfl, ho, hb⟩
    have hres := blk_b HKz.out hb
    have HB1 := Lib.hid (HBz.out.trans (hb.mono HBz.out.size))
    rw [HSz.out] at ho
    have HO := Lib.hid ho
    clear ho hb
    have r0 := cell_of_row w1 w.heap.size 0 _ _ _ hres
    have z0 := frozen_of_row w1 w.heap.size 0 _ _ hres
    have r1 := cell_of_row w1 w.heap.size 1 _ _ _ hres
    have z1 := frozen_of_row w1 w.heap.size 1 _ _ hres
    have r2 := cell_of_row w1 w.heap.size 2 _ _ _ hres
    have z2 := frozen_of_row w1 w.heap.size 2 _ _ hres
    have r3 := cell_of_row w1 w.heap.size 3 _ _ _ hres
    have z3 := frozen_of_row w1 w.heap.size 3 _ _ hres
    have r4 := cell_of_row w1 w.heap.size 4 _ _ _ hres
    have z4 := frozen_of_row w1 w.heap.size 4 _ _ hres
    have r5 := cell_of_row w1 w.heap.size 5 _ _ _ hres
    have z5 := frozen_of_row w1 w.heap.size 5 _ _ hres
    have r6 := cell_of_row w1 w.heap.size 6 _ _ _ hres
    have z6 := frozen_of_row w1 w.heap.size 6 _ _ hres
    clear hres
    go_wp2
    refine bodyPost_ret (v := .tuple #[dV H D, .int .i64 0]) (by simp [results, Try.results4, go_sem, r0, r1, r2, r3, r4, r5, r6]) rfl ?_
    exact HP.out _ _ _ _ _ _ _ _ _ HO.out HB1.out
end Go.Proofs.Ytgiegppakoiaiaa
