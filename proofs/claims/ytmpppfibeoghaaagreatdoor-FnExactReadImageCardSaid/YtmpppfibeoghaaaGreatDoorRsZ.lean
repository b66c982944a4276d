/- spec's reader: fail, number, many. -/
import Derived.Test.YtmpppfibeoghaaaGreatDoorRdB
import Derived.Deep.QuietTactic
import Derived.BigQuiet
namespace Go.Proofs.YtmpppfibeoghaaaGreatDoor
open Go.ChangeShapes Go.WideShapes Go.ChangeAt Go.RowKit Go.PlainAid
set_option linter.unusedVariables false
theorem three_c {X : World} {b : Nat} {v0 v1 v2 : Value} {t : TypeId} (h : X.heap[b]? = some (.cells #[v0, v1, v2] t)) : (X.cell? ⟨b, 0, none⟩ = some v0 ∧ X.cell? ⟨b, 1, none⟩ = some v1 ∧ X.cell? ⟨b, 2, none⟩ = some v2) ∧ X.frozen? ⟨b, 0, none⟩ = false ∧ X.frozen? ⟨b, 1, none⟩ = false ∧ X.frozen? ⟨b, 2, none⟩ = false :=
  ⟨⟨cell_of_row X b 0 _ _ _ h, cell_of_row X b 1 _ _ _ h, cell_of_row X b 2 _ _ _ h⟩, frozen_of_row X b 0 _ _ h, frozen_of_row X b 1 _ _ h, frozen_of_row X b 2 _ _ h⟩
def RsEnd (R : Nat) (t : ByteArray) (s : RS) (w : World) (v : Value) (e : Ending) (w' : World) : Prop := e = .returned v ∧ w'.heap[R]? = some (sO t s) ∧ w.grownBy w' (some R)
theorem rdg_dn {R : Nat} {w w' : World} (h : w.grownBy w' (some R)) (n : Nat) : w.grownBy (w'.drewN n) (some R) := ⟨h.os, h.tape, h.output, h.size, h.block⟩
theorem sfail_any (R : Nat) (t : ByteArray) (s : RS) (c : Int) (w : World) (h : w.heap[R]? = some (sO t s)) :
    Calls Tryz.prog 163 #[.pointer (some ⟨R, 0, none⟩), .int .i64 c] w (RsEnd R t (failP c s) w (.tuple #[])) := by
  obtain ⟨⟨c0, c1, c2⟩, f0, f1, f2⟩ := three_c h
  have H := Lib.hid h
  clear h
  by_cases h0 : s.c = 0
  · have HF : Hid (failP c s = ⟨s.p, c⟩) := Lib.hid (if_pos h0)
    rw [h0] at c2
    have HW : Hid ((w.setCell ⟨R, 2, none⟩ (.int .i64 c)).heap[R]? = some (sO t ⟨s.p, c⟩)) := Lib.hid (wk_set H.out 2 (.int .i64 c))
    have HG := Lib.hid (rdg_set (R := R) (i := 2) w (.int .i64 c))
    clear h0
    go_enter Tryz.func163, Tryz.ntmps163
    go_wp2
    go_end0
    exact ⟨rfl, by rw [HF.out]; exact HW.out, HG.out⟩
  · have HF : Hid (failP c s = s) := Lib.hid (if_neg h0)
    have hb : (s.c == 0) = false := by rw [beq_eq_false_iff_ne]; exact h0
    have HG := Lib.hid (World.grownBy.refl w (some R))
    clear h0
    generalize s.c = sc at *
    go_enter Tryz.func163, Tryz.ntmps163
    go_wp2
    go_end0
    exact ⟨rfl, by rw [HF.out]; exact H.out, HG.out⟩
set_option maxHeartbeats 1000000 in
theorem snumber_any (R : Nat) (t : ByteArray) (s : RS) (k : Nat) (hk : k = 1 ∨ k = 2 ∨ k = 4) (hp : s.p ≤ t.size) (ht : t.size ≤ 65536) (w : World) (h : w.heap[R]? = some (sO t s)) :
    Calls Tryz.prog 137 #[.pointer (some ⟨R, 0, none⟩), .int .i64 (k : Int)] w (RsEnd R t (numS t k s) w (.int .i64 (numP t k s))) := by
  obtain ⟨⟨c0, c1, c2⟩, f0, f1, f2⟩ := three_c h
  have H := Lib.hid h
  have HG0 := Lib.hid (World.grownBy.refl w (some R))
  have hk4 : k ≤ 4 := by omega
  by_cases ho : s.c ≠ 0 ∨ t.size < s.p + k
  · have HN : Hid (numP t k s = 0) := Lib.hid (if_pos ho)
    have HSS : Hid (numS t k s = failP 16 s) := Lib.hid (if_pos ho)
    have HFA := Lib.hid (fun X hx => sfail_any R t s 16 X hx)
    clear h
    generalize numS t k s = s2 at *
    generalize numP t k s = v at *
    by_cases hc : s.c ≠ 0
    · have hcb : (s.c != 0) = true := by rw [bne_iff_ne]; exact hc
      clear hc ho
      generalize hsc : s.c = sc at *
      clear hsc
      go_enter Tryz.func137, Tryz.ntmps137
      go_wp2_with fail
      go_quiet (fail)
      have ho1 : (w.drewN nq).heap[R]? = some (sO t s) := H.out
      go_wp2_with fail
      refine Calls.mono (HFA.out _ ho1) ?_
      rintro e w2 ⟨rfl, ho2, hg2⟩
      have HO2 := Lib.hid ho2
      have HG2 := Lib.hid (row_tr (rdg_dn HG0.out nq) hg2)
      clear ho1 ho2 hg2 c0 c1 c2 f0 f1 f2
      go_wp2
      go_ret
      exact ⟨by rw [HN.out]; rfl, by rw [HSS.out]; exact HO2.out, HG2.out⟩
    · have hc0 : s.c = 0 := by simpa using hc
      have hlt : (t.size : Int) - (s.p : Int) < (k : Int) := by omega
      rw [hc0] at c2
      clear hc ho
      generalize hsp : s.p = p at *
      clear hsp hc0
      go_enter Tryz.func137, Tryz.ntmps137
      go_wp2_with fail
      go_quiet (fail)
      have ho1 : (w.drewN nq).heap[R]? = some (sO t s) := H.out
      go_wp2_with fail
      refine Calls.mono (HFA.out _ ho1) ?_
      rintro e w2 ⟨rfl, ho2, hg2⟩
      have HO2 := Lib.hid ho2
      have HG2 := Lib.hid (row_tr (rdg_dn HG0.out nq) hg2)
      clear ho1 ho2 hg2 c0 c1 c2 f0 f1 f2
      go_wp2
      go_ret
      exact ⟨by rw [HN.out]; rfl, by rw [HSS.out]; exact HO2.out, HG2.out⟩
  · have hc : s.c = 0 := by
      by_cases q : s.c = 0
      · exact q
      · exact absurd (.inl q) ho
    have hle : s.p + k ≤ t.size := by omega
    have HN : Hid (numP t k s = takeF t s.p k) := Lib.hid (if_neg ho)
    have HSS : Hid (numS t k s = ⟨s.p + k, 0⟩) := Lib.hid (if_neg ho)
    have HTK := Lib.hid (fun X => l01Take_any t (by omega) s.p (k : Int) (sizeOK_k hk) (by omega) X)
    have HW : Hid (∀ n, (((w.drewN n).setCell ⟨R, 1, none⟩ (.int .i64 ((s.p : Int) + (k : Int)))).heap[R]? = some (sO t ⟨s.p + k, 0⟩))) := Lib.hid (fun n => by
      have := wk_set (w := w.drewN n) h 1 (.int .i64 ((s.p : Int) + (k : Int)))
      rw [hc] at this
      rw [this]
      show some (Obj.cells #[.string t, .int .i64 ((s.p : Int) + (k : Int)), .int .i64 0] 120) = some (Obj.cells #[.string t, .int .i64 ((s.p + k : Nat) : Int), .int .i64 0] 120)
      rw [Int.natCast_add])
    have HG := Lib.hid (fun n => row_tr (rdg_dn HG0.out n) (rdg_set (R := R) (i := 1) (w.drewN n) (.int .i64 ((s.p : Int) + (k : Int)))))
    rw [hc] at c2
    have hge : ¬ (t.size : Int) - (s.p : Int) < (k : Int) := by omega
    have hpt : (s.p : Int) ≤ 65536 := by omega
    clear h hc ho hle
    generalize numS t k s = s2 at *
    generalize numP t k s = v at *
    generalize hsp : s.p = p at *
    clear hsp
    go_enter Tryz.func137, Tryz.ntmps137
    go_wp2_with fail
    go_quiet (fail)
    go_wp2_with fail
    go_quiet ((go_at_call 135; with_reducible refine Calls.mono (HTK.out _) ?_; exact fun e w' h => ⟨h.1, _, h.2.symm⟩))
    go_wp2
    go_ret
    exact ⟨by rw [HN.out]; rfl, by rw [HSS.out]; exact HW.out _, HG.out _⟩
theorem many_any (R : Nat) (t : ByteArray) (s : RS) (most : Int) (hmost : 0 ≤ most ∧ most ≤ 100) (hp : s.p ≤ t.size) (ht : t.size ≤ 65536) (w : World) (h : w.heap[R]? = some (sO t s)) :
    Calls Tryz.prog 136 #[.pointer (some ⟨R, 0, none⟩), .int .i64 most] w (RsEnd R t (cntS t most s) w (.int .i64 (cntP t most s))) := by
  have HNB := Lib.hid (snumber_any R t s 1 (.inl rfl) hp ht w h)
  have HFA := Lib.hid (fun X hx => sfail_any R t (numS t 1 s) 6 X hx)
  clear h
  by_cases h1 : numP t 1 s < 0 ∨ most < numP t 1 s
  · have HP : Hid (cntP t most s = 0) := Lib.hid (if_pos h1)
    have HQ : Hid (cntS t most s = failP 6 (numS t 1 s)) := Lib.hid (if_pos h1)
    have HIN := Lib.hid (fun X => tkIn_is (show tkIn (numP t 1 s) 0 most = false from decide_eq_false (by omega)) X)
    clear h1
    generalize numP t 1 s = n at *
    generalize numS t 1 s = s1 at *
    generalize cntP t most s = v at *
    generalize cntS t most s = s2 at *
    go_enter Tryz.func136, Tryz.ntmps136
    go_wp2_with fail
    refine Calls.mono HNB.out ?_
    rintro e w2 ⟨rfl, ho2, hg2⟩
    have HO2 := Lib.hid ho2
    have HG2 := Lib.hid hg2
    clear ho2 hg2
    go_wp2_with fail
    refine Calls.mono (HIN.out _) ?_
    rintro e w3 ⟨rfl, rfl⟩
    go_wp2_with fail
    refine Calls.mono (HFA.out _ HO2.out) ?_
    rintro e w3 ⟨rfl, ho3, hg3⟩
    have HO3 := Lib.hid ho3
    have HG3 := Lib.hid (row_tr HG2.out hg3)
    clear ho3 hg3
    go_wp2
    go_ret
    exact ⟨by rw [HP.out]; rfl, by rw [HQ.out]; exact HO3.out, HG3.out⟩
  · have HP : Hid (cntP t most s = numP t 1 s) := Lib.hid (if_neg h1)
    have HQ : Hid (cntS t most s = numS t 1 s) := Lib.hid (if_neg h1)
    have HIN := Lib.hid (fun X => tkIn_is (show tkIn (numP t 1 s) 0 most = true from decide_eq_true (by omega)) X)
    clear h1
    generalize numP t 1 s = n at *
    generalize numS t 1 s = s1 at *
    generalize cntP t most s = v at *
    generalize cntS t most s = s2 at *
    go_enter Tryz.func136, Tryz.ntmps136
    go_wp2_with fail
    refine Calls.mono HNB.out ?_
    rintro e w2 ⟨rfl, ho2, hg2⟩
    have HO2 := Lib.hid ho2
    have HG2 := Lib.hid hg2
    clear ho2 hg2
    go_wp2_with fail
    refine Calls.mono (HIN.out _) ?_
    rintro e w3 ⟨rfl, rfl⟩
    go_wp2
    go_ret
    exact ⟨by rw [HP.out]; rfl, by rw [HQ.out]; exact HO2.out, HG2.out⟩
/-- A code of n bytes, behind the state s1. -/
def SCEnd (R : Nat) (t : ByteArray) (s : RS) (L : List Ins) (w : World) (e : Ending) (w' : World) : Prop :=
  ∃ v, e = .returned v ∧ w'.ownsRow w.heap.size 128 2 v L.length (flat insC L) ∧ w'.heap[R]? = some (sO t s) ∧ w.grownBy w' (some R)
theorem own_nS {w : World} {B size n R : Nat} {v : Value} {xs : List Value} {t : ByteArray} {s : RS} (h : w.ownsRow B 128 size v n xs) (hp : w.heap[R]? = some (sO t s)) : v.ownBlock ≠ some R := own_ne h hp (by decide)
theorem lit0_own (w : World) : (w.alloc (.cells #[] 128)).ownsRow w.heap.size 128 2 (.slice (some ⟨w.heap.size, 0, none⟩) 0 0) 0 [] := World.ownsRow_lit w #[] 0 (Nat.le_refl _) (by decide) rfl
set_option maxHeartbeats 2000000 in
theorem code1_any (R : Nat) (t : ByteArray) (s : RS) (hp : s.p ≤ t.size) (ht : t.size ≤ 65536) (w : World) (h : w.heap[R]? = some (sO t (numS t 2 s))) :
    Calls Tryz.prog 138 #[.pointer (some ⟨R, 0, none⟩), .int .i64 (numP t 2 s)] w (SCEnd R t (codS t s) (codP t s) w) := by
  have hRw : R < w.heap.size := (Array.getElem?_eq_some_iff.1 h).1
  obtain ⟨⟨c0, c1, c2⟩, f0, f1, f2⟩ := three_c h
  have H := Lib.hid h
  have hp1 := numS_le (t := t) (k := 2) hp
  have hr := num2_rng t s
  have HG0 := Lib.hid (World.grownBy.refl w (some R))
  by_cases ho : codOff t s
  · have HE := Lib.hid (cod_off ho)
    have HFA := Lib.hid (fun X hx => sfail_any R t (numS t 2 s) 16 X hx)
    have HL0 : Hid (∀ X, SCEnd R t (codS t s) (codP t s) w (.returned (.slice (some ⟨X, 0, none⟩) 0 0)) = fun w' => SCEnd R t (codS t s) (codP t s) w (.returned (.slice (some ⟨X, 0, none⟩) 0 0)) w') := Lib.hid (fun _ => rfl)
    by_cases hc : (numS t 2 s).c ≠ 0
    · have hcb : ((numS t 2 s).c != 0) = true := by rw [bne_iff_ne]; exact hc
      have HS : Hid (codS t s = numS t 2 s) := Lib.hid (by rw [HE.out.2]; unfold failP; rw [if_neg hc])
      have HL : Hid (codP t s = []) := Lib.hid HE.out.1
      clear hc ho HE h HL0
      generalize codS t s = s2 at *
      generalize codP t s = L at *
      generalize numP t 2 s = n at *
      generalize numS t 2 s = s1 at *
      generalize hsc : s1.c = sc at *
      clear hsc
      go_enter Tryz.func138, Tryz.ntmps138
      go_wp2
      go_ret
      refine ⟨_, rfl, ?_, ?_, rdg_bel (dbox _ _)⟩
      · rw [HL.out]; exact lit0_own w
      · rw [HS.out]; exact blk_bel H.out (dbox _ _)
    · have hc0 : (numS t 2 s).c = 0 := by simpa using hc
      have hoff : numP t 2 s < 0 ∨ (t.size : Int) - ((numS t 2 s).p : Int) < numP t 2 s := by
        unfold codOff at ho
        rcases ho with q | q | q
        · exact absurd q hc
        · exact .inl q
        · exact .inr (by omega)
      rw [← HE.out.2] at HFA
      have HL : Hid (codP t s = []) := Lib.hid HE.out.1
      have hps : ((numS t 2 s).p : Int) ≤ (t.size : Int) := by omega
      have HPZ : (numS t 2 s).p ≤ 65536 := by omega
      rw [hc0] at c2
      clear hc ho HE h hc0 HL0
      generalize codS t s = s2 at *
      generalize codP t s = L at *
      generalize numP t 2 s = n at *
      generalize numS t 2 s = s1 at *
      generalize hsp : s1.p = p at *
      clear hsp
      by_cases hn : n < 0
      · clear hoff
        go_enter Tryz.func138, Tryz.ntmps138
        go_wp2_with fail
        go_quiet (fail)
        have ho1 : (w.drewN nq).heap[R]? = some (sO t s1) := H.out
        go_wp2_with fail
        refine Calls.mono (HFA.out _ ho1) ?_
        rintro e w2 ⟨rfl, ho2, hg2⟩
        have HO2 := Lib.hid ho2
        have HG2 := Lib.hid (row_tr (rdg_dn HG0.out nq) hg2)
        clear ho1 ho2 hg2 c0 c1 c2 f0 f1 f2
        go_wp2
        go_ret
        refine ⟨_, rfl, ?_, ?_, row_tr HG2.out (rdg_bel (dbox _ _))⟩
        · rw [HL.out]; exact own_base (lit0_own w2) HG2.out.size
        · exact blk_bel HO2.out (dbox _ _)
      · have hlt : (t.size : Int) - (p : Int) < n := by omega
        have hti : (t.size : Int) ≤ 65536 := by omega
        have hpi : (p : Int) ≤ 65536 := by omega
        have hwr : IntKind.i64.wrap ((t.size : Int) - (p : Int)) = (t.size : Int) - (p : Int) := IntWalk.i64_in _ (by omega)
        have hnf : decide (n < 0) = false := decide_eq_false hn
        have hltd : decide ((t.size : Int) - (p : Int) < n) = true := decide_eq_true hlt
        clear hoff
        go_enter Tryz.func138, Tryz.ntmps138
        go_wp2_with fail
        go_quiet (fail)
        have ho1 : (w.drewN nq).heap[R]? = some (sO t s1) := H.out
        go_wp2_with fail
        refine Calls.mono (HFA.out _ ho1) ?_
        rintro e w2 ⟨rfl, ho2, hg2⟩
        have HO2 := Lib.hid ho2
        have HG2 := Lib.hid (row_tr (rdg_dn HG0.out nq) hg2)
        clear ho1 ho2 hg2 c0 c1 c2 f0 f1 f2
        go_wp2
        go_ret
        refine ⟨_, rfl, ?_, ?_, row_tr HG2.out (rdg_bel (dbox _ _))⟩
        · rw [HL.out]; exact own_base (lit0_own w2) HG2.out.size
        · exact blk_bel HO2.out (dbox _ _)
  · have HE := Lib.hid (cod_ok ho)
    obtain ⟨h1, h2, h3⟩ : (numS t 2 s).c = 0 ∧ 0 ≤ numP t 2 s ∧ (numS t 2 s).p + (numP t 2 s).toNat ≤ t.size := by
      unfold codOff at ho
      refine ⟨?_, by omega, by omega⟩
      by_cases q : (numS t 2 s).c = 0
      · exact q
      · exact absurd (.inl q) ho
    have hcs : (codT t s).size ≤ 65536 := by
      unfold codT
      rw [exz_size h3]
      omega
    have HRE := Lib.hid (fun X => l02ReadBytes_any (codT t s) (by omega) X)
    have HCT : Hid (codT t s = t.extract (numS t 2 s).p ((numS t 2 s).p + (numP t 2 s).toNat)) := Lib.hid rfl
    have HL : Hid (codP t s = (readF (codT t s)).1) := Lib.hid HE.out.1
    have HS2 : Hid (codS t s = ⟨(numS t 2 s).p + (numP t 2 s).toNat, (readF (codT t s)).2⟩) := Lib.hid HE.out.2
    clear ho hp1 hr HE hcs c0 c1 c2 f0 f1 f2 h
    generalize codS t s = s2 at *
    generalize codP t s = L at *
    obtain ⟨m, hm⟩ := Int.eq_ofNat_of_zero_le h2
    rw [hm] at HCT HS2 h3 ⊢
    rw [Int.toNat_natCast] at HCT HS2 h3
    clear hm h2
    generalize numS t 2 s = s1 at *
    obtain ⟨p, c1⟩ := s1
    dsimp only at h1 h3 HCT HS2
    subst h1
    generalize codT t s = U at *
    generalize readF U = RR at *
    obtain ⟨zs, c⟩ := RR
    dsimp only at HRE HL HS2
    have hUe := HCT.out
    subst hUe
    have HFA := Lib.hid (fun X hx => sfail_any R t ⟨p + m, 0⟩ c X hx)
    have HFS : Hid (failP c ⟨p + m, 0⟩ = ⟨p + m, c⟩) := Lib.hid (by unfold failP; rw [if_pos rfl])
    have hwp : IntKind.i64.wrap ((p : Int) + (m : Int)) = (p : Int) + (m : Int) := IntWalk.i64_in _ (by omega)
    have hti : (t.size : Int) ≤ 65536 := by omega
    have hpm : (p : Int) + (m : Int) ≤ 65536 := by omega
    have hpt : (p : Int) + (m : Int) ≤ (t.size : Int) := by omega
    have hnl : ¬ (t.size : Int) - (p : Int) < (m : Int) := by omega
    have hwr : IntKind.i64.wrap ((t.size : Int) - (p : Int)) = (t.size : Int) - (p : Int) := IntWalk.i64_in _ (by omega)
    have hnld : decide ((t.size : Int) - (p : Int) < (m : Int)) = false := decide_eq_false hnl
    have hcp : ((p : Int) + (m : Int)).toNat = p + m := by omega
    obtain ⟨⟨c0, c1, c2⟩, f0, f1, f2⟩ := three_c H.out
    have HXX : True := trivial
    · go_enter Tryz.func138, Tryz.ntmps138
      go_wp2_with fail
      go_quiet (fail)
      go_wp2_with fail
      refine wp_region_hl 20 (fun X => X.heap[R]? = some (sO t ⟨p, 0⟩)) (by kernel_rfl) rfl rfl (by kernel_rfl) ?_
      have HS6 : (w.drewN nq).drew.heap[R]? = some (sO t ⟨p, 0⟩) := H.out
      clear c0 c1 c2 f0 f1 f2
      refine hl_take (v := ?vb0) 0 rfl (by kernel_rfl) (fun _ _ _ h => h) (Or.inl ⟨by rfl, ?hyb0⟩) HS6 ?restb0
      case hyb0 =>
        intro X hSw
        go_simp <;> with_reducible rfl
      try simp only [Act.put, List.setIfInBounds_toArray, List.set_cons_zero, List.set_cons_succ]
      refine hl_take (v := ?vb1) 1 rfl (by kernel_rfl) (fun _ _ _ h => h) (Or.inl ⟨by rfl, ?hyb1⟩) HS6 ?restb1
      case hyb1 =>
        intro X hSw
        go_simp <;> with_reducible rfl
      try simp only [Act.put, List.setIfInBounds_toArray, List.set_cons_zero, List.set_cons_succ]
      refine hl_take (v := ?vb2) 2 rfl (by kernel_rfl) (fun _ _ _ h => h) (Or.inl ⟨by rfl, ?hyb2⟩) HS6 ?restb2
      case hyb2 =>
        intro X hSw
        go_simp <;> with_reducible rfl
      try simp only [Act.put, List.setIfInBounds_toArray, List.set_cons_zero, List.set_cons_succ]
      refine hl_take (v := ?vb3) 3 rfl (by kernel_rfl) (fun _ _ _ h => h) (Or.inl ⟨by rfl, ?hyb3⟩) HS6 ?restb3
      case hyb3 =>
        intro X hSw
        obtain ⟨⟨c0, c1, c2⟩, f0, f1, f2⟩ := three_c hSw
        go_simp <;> with_reducible rfl
      try simp only [Act.put, List.setIfInBounds_toArray, List.set_cons_zero, List.set_cons_succ]
      refine hl_take (v := ?vb4) 4 rfl (by kernel_rfl) (fun _ _ _ h => h) (Or.inl ⟨by rfl, ?hyb4⟩) HS6 ?restb4
      case hyb4 =>
        intro X hSw
        go_simp <;> with_reducible rfl
      try simp only [Act.put, List.setIfInBounds_toArray, List.set_cons_zero, List.set_cons_succ]
      refine hl_take (v := ?vb5) 5 rfl (by kernel_rfl) (fun _ _ _ h => h) (Or.inl ⟨by rfl, ?hyb5⟩) HS6 ?restb5
      case hyb5 =>
        intro X hSw
        go_simp <;> with_reducible rfl
      try simp only [Act.put, List.setIfInBounds_toArray, List.set_cons_zero, List.set_cons_succ]
      refine hl_take (v := ?vb6) 6 rfl (by kernel_rfl) (fun _ _ _ h => h) (Or.inl ⟨by rfl, ?hyb6⟩) HS6 ?restb6
      case hyb6 =>
        intro X hSw
        go_simp <;> with_reducible rfl
      try simp only [Act.put, List.setIfInBounds_toArray, List.set_cons_zero, List.set_cons_succ]
      refine hl_take (v := ?vb7) 7 rfl (by kernel_rfl) (fun _ _ _ h => h) (Or.inl ⟨by rfl, ?hyb7⟩) HS6 ?restb7
      case hyb7 =>
        intro X hSw
        obtain ⟨⟨c0, c1, c2⟩, f0, f1, f2⟩ := three_c hSw
        go_simp <;> with_reducible rfl
      try simp only [Act.put, List.setIfInBounds_toArray, List.set_cons_zero, List.set_cons_succ]
      refine hl_take (v := ?vb8) 8 rfl (by kernel_rfl) (fun _ _ _ h => h) (Or.inl ⟨by rfl, ?hyb8⟩) HS6 ?restb8
      case hyb8 =>
        intro X hSw
        go_simp <;> with_reducible rfl
      try simp only [Act.put, List.setIfInBounds_toArray, List.set_cons_zero, List.set_cons_succ]
      refine hl_take (v := ?vb9) 9 rfl (by kernel_rfl) (fun _ _ _ h => h) (Or.inl ⟨by rfl, ?hyb9⟩) HS6 ?restb9
      case hyb9 =>
        intro X hSw
        go_simp <;> with_reducible rfl
      try simp only [Act.put, List.setIfInBounds_toArray, List.set_cons_zero, List.set_cons_succ]
      refine hl_take (v := ?vb10) 10 rfl (by kernel_rfl) (fun _ _ _ h => h) (Or.inl ⟨by rfl, ?hyb10⟩) HS6 ?restb10
      case hyb10 =>
        intro X hSw
        go_simp <;> with_reducible rfl
      try simp only [Act.put, List.setIfInBounds_toArray, List.set_cons_zero, List.set_cons_succ]
      refine hl_take (v := ?vb11) 11 rfl (by kernel_rfl) (fun _ _ _ h => h) (Or.inl ⟨by rfl, ?hyb11⟩) HS6 ?restb11
      case hyb11 =>
        intro X hSw
        obtain ⟨⟨c0, c1, c2⟩, f0, f1, f2⟩ := three_c hSw
        go_simp <;> with_reducible rfl
      try simp only [Act.put, List.setIfInBounds_toArray, List.set_cons_zero, List.set_cons_succ]
      refine hl_take (v := ?vb12) 12 rfl (by kernel_rfl) (fun _ _ _ h => h) (Or.inl ⟨by rfl, ?hyb12⟩) HS6 ?restb12
      case hyb12 =>
        intro X hSw
        go_simp <;> with_reducible rfl
      try simp only [Act.put, List.setIfInBounds_toArray, List.set_cons_zero, List.set_cons_succ]
      refine hl_take (v := ?vb13) 13 rfl (by kernel_rfl) (fun _ _ _ h => h) (Or.inl ⟨by rfl, ?hyb13⟩) HS6 ?restb13
      case hyb13 =>
        intro X hSw
        go_simp <;> with_reducible rfl
      try simp only [Act.put, List.setIfInBounds_toArray, List.set_cons_zero, List.set_cons_succ]
      refine hl_take (v := ?vb14) 14 rfl (by kernel_rfl) (fun _ _ _ h => h) (Or.inl ⟨by rfl, ?hyb14⟩) HS6 ?restb14
      case hyb14 =>
        intro X hSw
        go_simp
        rw [if_pos (show (0 : Int) ≤ (p : Int) + (m : Int) by omega), if_pos (show (p : Int) ≤ (p : Int) + (m : Int) by omega)]
      try simp only [Act.put, List.setIfInBounds_toArray, List.set_cons_zero, List.set_cons_succ]
      refine hl_one 15 rfl (by kernel_rfl) (fun K hK => ?_)
      go_simp
      refine Calls.mono (HRE.out _) ?_
      rintro e u8 ⟨v, rfl, hv, hb⟩
      have HS6 := blk_bel HS6 hb
      refine hK.out _ _ HS6 ?_
      have HV := Lib.hid hv
      have HG := Lib.hid (rdg_bel (R := R) hb)
      clear hK hv hb
      try simp only [Act.put, List.setIfInBounds_toArray, List.set_cons_zero, List.set_cons_succ]
      refine hl_take (v := ?vb16) 16 rfl (by kernel_rfl) (fun _ _ _ h => h) (Or.inl ⟨by rfl, ?hyb16⟩) HS6 ?restb16
      case hyb16 =>
        intro X hSw
        go_simp <;> with_reducible rfl
      try simp only [Act.put, List.setIfInBounds_toArray, List.set_cons_zero, List.set_cons_succ]
      refine hl_take (v := ?vb17) 17 rfl (by kernel_rfl) (fun _ _ _ h => h) (Or.inl ⟨by rfl, ?hyb17⟩) HS6 ?restb17
      case hyb17 =>
        intro X hSw
        go_simp <;> with_reducible rfl
      try simp only [Act.put, List.setIfInBounds_toArray, List.set_cons_zero, List.set_cons_succ]
      refine hl_take (v := ?vb18) 18 rfl (by kernel_rfl) (fun _ _ _ h => h) (Or.inl ⟨by rfl, ?hyb18⟩) HS6 ?restb18
      case hyb18 =>
        intro X hSw
        go_simp <;> with_reducible rfl
      try simp only [Act.put, List.setIfInBounds_toArray, List.set_cons_zero, List.set_cons_succ]
      refine hl_take (v := ?vb19) 19 rfl (by kernel_rfl) (fun _ _ _ h => h) (Or.inl ⟨by rfl, ?hyb19⟩) HS6 ?restb19
      case hyb19 =>
        intro X hSw
        go_simp <;> with_reducible rfl
      try simp only [Act.put, List.setIfInBounds_toArray, List.set_cons_zero, List.set_cons_succ]
      refine hl_done (by kernel_rfl) ?_
      go_simp
      obtain ⟨⟨c0, c1, c2⟩, f0, f1, f2⟩ := three_c HS6
      have HO7 : Hid ((u8.setCell ⟨R, 1, none⟩ (.int .i64 ((p : Int) + (m : Int)))).heap[R]? = some (sO t ⟨p + m, 0⟩)) := Lib.hid (by
        rw [wk_set HS6 1 (.int .i64 ((p : Int) + (m : Int)))]
        show some (Obj.cells #[.string t, .int .i64 ((p : Int) + (m : Int)), .int .i64 0] 120) = some (Obj.cells #[.string t, .int .i64 ((p + m : Nat) : Int), .int .i64 0] 120)
        rw [Int.natCast_add])
      have HG7 : Hid (u8.grownBy (u8.setCell ⟨R, 1, none⟩ (.int .i64 ((p : Int) + (m : Int)))) (some R)) := Lib.hid (rdg_set (R := R) (i := 1) u8 _)
      have hne : v.ownBlock ≠ some R := own_nS HV.out HS6
      have HV7 := Lib.hid (HV.out.kept HG7.out (Or.inr hne))
      have HGA : Hid (w.grownBy u8 (some R)) := Lib.hid (row_tr (rdg_dn (rdg_dn HG0.out nq) 1) HG.out)
      have HQ : Hid (2 = 2) := Lib.hid rfl
      clear HS6 HV hne HG
      go_wp2_with fail
      refine Calls.mono (HFA.out _ HO7.out) ?_
      rintro e w9 ⟨rfl, ho9, hg9⟩
      rw [HFS.out] at ho9
      have HO9 := Lib.hid ho9
      have HG9 := Lib.hid (row_tr (row_tr HGA.out HG7.out) hg9)
      have hne : v.ownBlock ≠ some R := own_nS HV7.out HO7.out
      have HV9 := Lib.hid (HV7.out.kept hg9 (Or.inr hne))
      clear ho9 hg9 hne HO7 HG7 HV7 HGA c0 c1 c2 f0 f1 f2
      go_wp2
      go_ret
      exact ⟨v, rfl, by rw [HL.out]; exact HV9.out, by rw [HS2.out]; exact HO9.out, HG9.out⟩
end Go.Proofs.YtmpppfibeoghaaaGreatDoor
namespace Go.Proofs.YtmpppfibeoghaaaGreatDoor
open Go.ChangeShapes Go.WideShapes Go.ChangeAt Go.RowKit Go.PlainAid
set_option linter.unusedVariables false
/-- Routines appended one by one. -/
structure SRs (B : Nat) (a : Option Addr) (c : Nat) (ls : List (List Ins)) (w : World) : Prop where
  rows : ∃ rs : List RTp, rs.length = ls.length ∧ w.ownsRow B 74 1 (.slice a ls.length c) ls.length (flat rpC rs) ∧
    ∀ j, j < ls.length → (rs.getD j r0).2.1 = (ls.getD j []).length ∧ w.ownsRow B 128 2 (.slice (rs.getD j r0).1 (ls.getD j []).length (rs.getD j r0).2.2) (ls.getD j []).length (flat insC (ls.getD j []))
structure SQ (B : Nat) (h : PH) (D : Pgm) (w : World) : Prop where
  ks : w.ownsRow B 3 1 (.slice h.a0 D.n0 h.c0) D.n0 (kC D.ks)
  rs : SRs B h.a1 h.c1 D.rs w
  ts : w.ownsRow B 78 6 (.slice h.a2 D.n2 h.c2) D.n2 (flat tC D.ts)
  sa : w.ownsRow B 4 1 (.slice h.a3 D.n3 h.c3) D.n3 (flat bI D.sa)
/-- A block of another type than the rows' elements. -/
def Out4 (t : TypeId) : Prop := t ≠ 3 ∧ t ≠ 74 ∧ t ≠ 128 ∧ t ≠ 78 ∧ t ≠ 4
theorem SRs.kp {B c k : Nat} {a : Option Addr} {ls : List (List Ins)} {w w' : World} {cs : Array Value} {t : TypeId} {fz : Nat × Nat} (h : SRs B a c ls w) (hk : w.heap[k]? = some (.cells cs t fz)) (h1 : t ≠ 74) (h2 : t ≠ 128) (hg : w.grownBy w' (some k)) : SRs B a c ls w' := by
  obtain ⟨rs, e1, e2, e3⟩ := h.rows
  exact ⟨rs, e1, e2.kept hg (Or.inr (own_ne e2 hk h1)), fun j hj => ⟨(e3 j hj).1, (e3 j hj).2.kept hg (Or.inr (own_ne (e3 j hj).2 hk h2))⟩⟩
theorem SQ.kp {B k : Nat} {h : PH} {D : Pgm} {w w' : World} {cs : Array Value} {t : TypeId} {fz : Nat × Nat} (q : SQ B h D w) (hk : w.heap[k]? = some (.cells cs t fz)) (ht : Out4 t) (hg : w.grownBy w' (some k)) : SQ B h D w' :=
  ⟨q.ks.kept hg (Or.inr (own_ne q.ks hk ht.1)), q.rs.kp hk ht.2.1 ht.2.2.1 hg, q.ts.kept hg (Or.inr (own_ne q.ts hk ht.2.2.2.1)), q.sa.kept hg (Or.inr (own_ne q.sa hk ht.2.2.2.2))⟩
theorem SRs.el {B c B' size' n' : Nat} {e' : TypeId} {a : Option Addr} {v : Value} {ys : List Value} {ls : List (List Ins)} {w w' : World} (h : SRs B a c ls w) (h' : w.ownsRow B' e' size' v n' ys) (h1 : e' ≠ 74) (h2 : e' ≠ 128) (hg : w.grownBy w' v.ownBlock) : SRs B a c ls w' := by
  obtain ⟨rs, e1, e2, e3⟩ := h.rows
  exact ⟨rs, e1, e2.kept hg (own_ne2 e2 h' h1), fun j hj => ⟨(e3 j hj).1, (e3 j hj).2.kept hg (own_ne2 (e3 j hj).2 h' h2)⟩⟩
theorem blk_el {w w' : World} {B k size n : Nat} {e t : TypeId} {v : Value} {xs : List Value} {cs : Array Value} {fz : Nat × Nat} (h : w.ownsRow B e size v n xs) (hk : w.heap[k]? = some (.cells cs t fz)) (ht : t ≠ e) (hg : w.grownBy w' v.ownBlock) : w'.heap[k]? = some (.cells cs t fz) :=
  (hg.block k (Array.getElem?_eq_some_iff.1 hk).1 (fun e0 => own_ne h hk ht e0.symm)).trans hk
theorem rdg_own {w0 w w' : World} {R size n : Nat} {e : TypeId} {v : Value} {xs : List Value} (h : w0.grownBy w (some R)) (ho : w.ownsRow w0.heap.size e size v n xs) (hg : w.grownBy w' v.ownBlock) : w0.grownBy w' (some R) :=
  ⟨hg.os.trans h.os, hg.tape.trans h.tape, hg.output.trans h.output, Nat.le_trans h.size hg.size, fun k hk hr => (hg.block k (Nat.lt_of_lt_of_le hk h.size) (fun e0 => by have := (ho.lt k e0.symm).1; omega)).trans (h.block k hk hr)⟩
/-- Where program is: the reader, the result's box, the program's box. -/
structure PgSt (w0 : World) (R rb xb : Nat) (t : ByteArray) (s : RS) (h : PH) (D : Pgm) (w : World) : Prop where
  g : w0.grownBy w (some R)
  r : w.heap[R]? = some (sO t s)
  q : SQ w0.heap.size h D w
  x : w.heap[xb]? = some (pO h D 28)
  b : w.heap[rb]? = some (pO ph0 pgm0 28)
theorem out_rd : Out4 120 := by refine ⟨?_, ?_, ?_, ?_, ?_⟩ <;> decide
theorem out_pg : Out4 28 := by refine ⟨?_, ?_, ?_, ?_, ?_⟩ <;> decide
theorem blk_rg {w w' : World} {R k : Nat} {O O' : Obj} (hg : w.grownBy w' (some R)) (hR : w.heap[R]? = some O) (hk : w.heap[k]? = some O') (hne : O' ≠ O) : w'.heap[k]? = some O' :=
  (hg.block k (Array.getElem?_eq_some_iff.1 hk).1 (fun e => hne (by cases e; rw [hR] at hk; exact (Option.some.inj hk).symm))).trans hk
theorem pO_ne {h : PH} {D : Pgm} {t : ByteArray} {s : RS} : pO h D 28 ≠ sO t s := by intro e; simp at e
/-- The reader has moved on. -/
theorem PgSt.rd {w0 w w' : World} {R rb xb : Nat} {t : ByteArray} {s s' : RS} {h : PH} {D : Pgm} (p : PgSt w0 R rb xb t s h D w) (ho : w'.heap[R]? = some (sO t s')) (hg : w.grownBy w' (some R)) : PgSt w0 R rb xb t s' h D w' :=
  ⟨row_tr p.g hg, ho, p.q.kp p.r out_rd hg, blk_rg hg p.r p.x pO_ne, blk_rg hg p.r p.b pO_ne⟩
theorem SRs.bel {B c : Nat} {a : Option Addr} {ls : List (List Ins)} {w w' : World} (h : SRs B a c ls w) (hb : Below w.heap.size w w') : SRs B a c ls w' := by
  obtain ⟨rs, e1, e2, e3⟩ := h.rows
  exact ⟨rs, e1, own_bl e2 hb, fun j hj => ⟨(e3 j hj).1, own_bl (e3 j hj).2 hb⟩⟩
theorem SQ.bel {B : Nat} {h : PH} {D : Pgm} {w w' : World} (q : SQ B h D w) (hb : Below w.heap.size w w') : SQ B h D w' := ⟨own_bl q.ks hb, q.rs.bel hb, own_bl q.ts hb, own_bl q.sa hb⟩
theorem PgSt.bel {w0 w w' : World} {R rb xb : Nat} {t : ByteArray} {s : RS} {h : PH} {D : Pgm} (p : PgSt w0 R rb xb t s h D w) (hb : Below w.heap.size w w') : PgSt w0 R rb xb t s h D w' :=
  ⟨row_tr p.g (rdg_bel hb), blk_bel p.r hb, p.q.bel hb, blk_bel p.x hb, blk_bel p.b hb⟩
/-- A cell of the program's box is stored. -/
theorem set_grown {w : World} {k i : Nat} (u : Value) : w.grownBy (w.setCell ⟨k, i, none⟩ u) (some k) := rdg_set (R := k) (i := i) w u
def PH.p0 (h : PH) (a : Option Addr) (c : Nat) : PH := { h with a0 := a, c0 := c }
def PH.p1 (h : PH) (a : Option Addr) (c : Nat) : PH := { h with a1 := a, c1 := c }
def PH.p2 (h : PH) (a : Option Addr) (c : Nat) : PH := { h with a2 := a, c2 := c }
def PH.p3 (h : PH) (a : Option Addr) (c : Nat) : PH := { h with a3 := a, c3 := c }
def Pgm.addK (D : Pgm) (x : Int) : Pgm := { D with ks := D.ks ++ [x] }
def Pgm.addR (D : Pgm) (x : List Ins) : Pgm := { D with rs := D.rs ++ [x] }
def Pgm.addT (D : Pgm) (x : TT) : Pgm := { D with ts := D.ts ++ [x] }
def Pgm.addS (D : Pgm) (x : Bool) : Pgm := { D with sa := D.sa ++ [x] }
/-- Behind an append to the kinds: the store into the box. -/
theorem PgSt.k {w0 w w' : World} {R rb xb : Nat} {t : ByteArray} {s : RS} {h : PH} {D : Pgm} (p : PgSt w0 R rb xb t s h D w) (hrx : rb ≠ xb) (hRx : R ≠ xb) (hx : w0.heap.size ≤ xb) (x : Int) {v' : Value}
    (ho : w'.ownsRow w0.heap.size 3 1 v' (D.n0 + 1) (kC D.ks ++ [.int .i64 x])) (hg : w.grownBy w' (Value.ownBlock (.slice h.a0 D.n0 h.c0))) :
    w'.heap[xb]? = some (pO h D 28) ∧ ∃ a c, v' = .slice a (D.n0 + 1) c ∧ PgSt w0 R rb xb t s (h.p0 a c) (D.addK x) (w'.setCell ⟨xb, 0, none⟩ (.slice a (D.n0 + 1) c)) := by
  obtain ⟨a, c, rfl⟩ := wk_slice ho
  have hx' := blk_el p.q.ks p.x out_pg.1 hg
  have hg2 := set_grown (w := w') (k := xb) (i := 0) (.slice a (D.n0 + 1) c)
  have e0 : (D.addK x).n0 = D.n0 + 1 := by simp [Pgm.addK, Pgm.n0]
  have hq : SQ w0.heap.size (h.p0 a c) (D.addK x) w' := ⟨by rw [e0]; show w'.ownsRow _ _ _ _ _ (kC (D.ks ++ [x])); unfold kC; rw [List.map_append]; exact ho, p.q.rs.el p.q.ks (by decide) (by decide) hg, p.q.ts.kept hg (own_ne2 p.q.ts p.q.ks (by decide)), p.q.sa.kept hg (own_ne2 p.q.sa p.q.ks (by decide))⟩
  refine ⟨hx', a, c, rfl, rdg_new (rdg_own p.g p.q.ks hg) hx _, blk_far (blk_el p.q.ks p.r out_rd.1 hg) hRx _, hq.kp hx' out_pg hg2, ?_, blk_far (blk_el p.q.ks p.b out_pg.1 hg) hrx _⟩
  rw [wk_set hx' 0, ← e0]
  rfl
theorem PgSt.t {w0 w w' : World} {R rb xb : Nat} {t : ByteArray} {s : RS} {h : PH} {D : Pgm} (p : PgSt w0 R rb xb t s h D w) (hrx : rb ≠ xb) (hRx : R ≠ xb) (hx : w0.heap.size ≤ xb) (x : TT) {v' : Value}
    (ho : w'.ownsRow w0.heap.size 78 6 v' (D.n2 + 1) (flat tC D.ts ++ tC x)) (hg : w.grownBy w' (Value.ownBlock (.slice h.a2 D.n2 h.c2))) :
    w'.heap[xb]? = some (pO h D 28) ∧ ∃ a c, v' = .slice a (D.n2 + 1) c ∧ PgSt w0 R rb xb t s (h.p2 a c) (D.addT x) (w'.setCell ⟨xb, 2, none⟩ (.slice a (D.n2 + 1) c)) := by
  obtain ⟨a, c, rfl⟩ := wk_slice ho
  have hx' := blk_el p.q.ts p.x out_pg.2.2.2.1 hg
  have hg2 := set_grown (w := w') (k := xb) (i := 2) (.slice a (D.n2 + 1) c)
  have e0 : (D.addT x).n2 = D.n2 + 1 := by simp [Pgm.addT, Pgm.n2]
  have hq : SQ w0.heap.size (h.p2 a c) (D.addT x) w' := ⟨p.q.ks.kept hg (own_ne2 p.q.ks p.q.ts (by decide)), p.q.rs.el p.q.ts (by decide) (by decide) hg, by rw [e0]; show w'.ownsRow _ _ _ _ _ (flat tC (D.ts ++ [x])); rw [flat_snoc]; exact ho, p.q.sa.kept hg (own_ne2 p.q.sa p.q.ts (by decide))⟩
  refine ⟨hx', a, c, rfl, rdg_new (rdg_own p.g p.q.ts hg) hx _, blk_far (blk_el p.q.ts p.r out_rd.2.2.2.1 hg) hRx _, hq.kp hx' out_pg hg2, ?_, blk_far (blk_el p.q.ts p.b out_pg.2.2.2.1 hg) hrx _⟩
  rw [wk_set hx' 2, ← e0]
  rfl
theorem PgSt.s {w0 w w' : World} {R rb xb : Nat} {t : ByteArray} {s : RS} {h : PH} {D : Pgm} (p : PgSt w0 R rb xb t s h D w) (hrx : rb ≠ xb) (hRx : R ≠ xb) (hx : w0.heap.size ≤ xb) (x : Bool) {v' : Value}
    (ho : w'.ownsRow w0.heap.size 4 1 v' (D.n3 + 1) (flat bI D.sa ++ [.bool x])) (hg : w.grownBy w' (Value.ownBlock (.slice h.a3 D.n3 h.c3))) :
    w'.heap[xb]? = some (pO h D 28) ∧ ∃ a c, v' = .slice a (D.n3 + 1) c ∧ PgSt w0 R rb xb t s (h.p3 a c) (D.addS x) (w'.setCell ⟨xb, 3, none⟩ (.slice a (D.n3 + 1) c)) := by
  obtain ⟨a, c, rfl⟩ := wk_slice ho
  have hx' := blk_el p.q.sa p.x out_pg.2.2.2.2 hg
  have hg2 := set_grown (w := w') (k := xb) (i := 3) (.slice a (D.n3 + 1) c)
  have e0 : (D.addS x).n3 = D.n3 + 1 := by simp [Pgm.addS, Pgm.n3]
  have hq : SQ w0.heap.size (h.p3 a c) (D.addS x) w' := ⟨p.q.ks.kept hg (own_ne2 p.q.ks p.q.sa (by decide)), p.q.rs.el p.q.sa (by decide) (by decide) hg, p.q.ts.kept hg (own_ne2 p.q.ts p.q.sa (by decide)), by rw [e0]; show w'.ownsRow _ _ _ _ _ (flat bI (D.sa ++ [x])); rw [flat_snoc]; exact ho⟩
  refine ⟨hx', a, c, rfl, rdg_new (rdg_own p.g p.q.sa hg) hx _, blk_far (blk_el p.q.sa p.r out_rd.2.2.2.2 hg) hRx _, hq.kp hx' out_pg hg2, ?_, blk_far (blk_el p.q.sa p.b out_pg.2.2.2.2 hg) hrx _⟩
  rw [wk_set hx' 3, ← e0]
  rfl
theorem SRs.row {B c : Nat} {a : Option Addr} {ls : List (List Ins)} {w : World} (h : SRs B a c ls w) : ∃ xs, w.ownsRow B 74 1 (.slice a ls.length c) ls.length xs := by
  obtain ⟨rs, e1, e2, e3⟩ := h.rows
  exact ⟨_, e2⟩
/-- One routine more. -/
theorem PgSt.r1 {w0 w w' : World} {R rb xb : Nat} {t : ByteArray} {s : RS} {h : PH} {D : Pgm} (p : PgSt w0 R rb xb t s h D w) (hrx : rb ≠ xb) (hRx : R ≠ xb) (hx : w0.heap.size ≤ xb) (L : List Ins) {b : Option Addr} {d : Nat} {v' : Value} (rs : List RTp)
    (hrl : rs.length = D.n1) (ho0 : w.ownsRow w0.heap.size 74 1 (.slice h.a1 D.n1 h.c1) D.n1 (flat rpC rs))
    (hej : ∀ j, j < D.n1 → (rs.getD j r0).2.1 = (D.rs.getD j []).length ∧ w.ownsRow w0.heap.size 128 2 (.slice (rs.getD j r0).1 (D.rs.getD j []).length (rs.getD j r0).2.2) (D.rs.getD j []).length (flat insC (D.rs.getD j [])))
    (hL : w.ownsRow w0.heap.size 128 2 (.slice b L.length d) L.length (flat insC L))
    (ho : w'.ownsRow w0.heap.size 74 1 v' (D.n1 + 1) (flat rpC rs ++ [.slice b L.length d])) (hg : w.grownBy w' (Value.ownBlock (.slice h.a1 D.n1 h.c1))) :
    w'.heap[xb]? = some (pO h D 28) ∧ ∃ a c, v' = .slice a (D.n1 + 1) c ∧ PgSt w0 R rb xb t s (h.p1 a c) (D.addR L) (w'.setCell ⟨xb, 1, none⟩ (.slice a (D.n1 + 1) c)) := by
  obtain ⟨a, c, rfl⟩ := wk_slice ho
  have hx' := blk_el ho0 p.x out_pg.2.1 hg
  have hg2 := set_grown (w := w') (k := xb) (i := 1) (.slice a (D.n1 + 1) c)
  have e0 : (D.rs ++ [L]).length = D.n1 + 1 := by simp [Pgm.n1]
  have hrl' : rs.length = D.rs.length := hrl
  have hq : SQ w0.heap.size (h.p1 a c) (D.addR L) w' := by
    refine ⟨p.q.ks.kept hg (own_ne2 p.q.ks ho0 (by decide)), ⟨rs ++ [(b, L.length, d)], by show _ = (D.rs ++ [L]).length; simp [hrl'], ?_, fun j hj => ?_⟩, p.q.ts.kept hg (own_ne2 p.q.ts ho0 (by decide)), p.q.sa.kept hg (own_ne2 p.q.sa ho0 (by decide))⟩
    · show w'.ownsRow _ _ _ (.slice a (D.rs ++ [L]).length c) (D.rs ++ [L]).length _
      rw [e0, flat_snoc]; exact ho
    · have hj' : j < (D.rs ++ [L]).length := hj
      show ((rs ++ [(b, L.length, d)]).getD j r0).2.1 = ((D.rs ++ [L]).getD j []).length ∧ w'.ownsRow _ _ _ (.slice ((rs ++ [(b, L.length, d)]).getD j r0).1 ((D.rs ++ [L]).getD j []).length ((rs ++ [(b, L.length, d)]).getD j r0).2.2) ((D.rs ++ [L]).getD j []).length (flat insC ((D.rs ++ [L]).getD j []))
      by_cases q : j < D.rs.length
      · have f1 : (rs ++ [(b, L.length, d)]).getD j r0 = rs.getD j r0 := gd_lt (by omega)
        have f2 : (D.rs ++ [L]).getD j [] = D.rs.getD j [] := by simp [List.getD, List.getElem?_append_left q]
        rw [f1, f2]
        exact ⟨(hej j q).1, (hej j q).2.kept hg (own_ne2 (hej j q).2 ho0 (by decide))⟩
      · obtain rfl : j = D.rs.length := by simp at hj'; omega
        have f1 : (rs ++ [(b, L.length, d)]).getD D.rs.length r0 = (b, L.length, d) := by rw [← hrl']; exact gd_eq
        have f2 : (D.rs ++ [L]).getD D.rs.length [] = L := by simp [List.getD]
        rw [f1, f2]
        exact ⟨rfl, hL.kept hg (own_ne2 hL ho0 (by decide))⟩
  refine ⟨hx', a, c, rfl, rdg_new (rdg_own p.g ho0 hg) hx _, blk_far (blk_el ho0 p.r out_rd.2.1 hg) hRx _, hq.kp hx' out_pg hg2, ?_, blk_far (blk_el ho0 p.b out_pg.2.1 hg) hrx _⟩
  have e1 : (D.addR L).n1 = D.n1 + 1 := e0
  rw [wk_set hx' 1, ← e1]
  rfl
end Go.Proofs.YtmpppfibeoghaaaGreatDoor
namespace Go.Proofs.YtmpppfibeoghaaaGreatDoor
open Go.ChangeShapes Go.WideShapes Go.ChangeAt Go.RowKit Go.PlainAid
set_option linter.unusedVariables false
theorem new_cells8 (w : World) (us : List Value) (t : TypeId) : ∀ (j : Nat) u, us[j]? = some u → (w.alloc (.cells us.toArray t)).cell? ((⟨w.heap.size, 0, none⟩ : Addr).add j) = some u := by
  intro j u hj
  have h := cell_of_row _ w.heap.size j _ _ _ (heap_alloc_new w (.cells us.toArray t))
  have e : (⟨w.heap.size, 0, none⟩ : Addr).add j = ⟨w.heap.size, j, none⟩ := by
    unfold Addr.add
    split
    · rename_i h0; rw [h0]
    · simp
  rw [e, h]
  simpa using hj
theorem rv_int {a b : Int} (h : a = b) : Value.int .i64 a = .int .i64 b := by rw [h]
abbrev bO : Obj := .cells #[.slice none 0 0, .slice none 0 0, .slice none 0 0, .slice none 0 0] 28
abbrev pgH (w : World) : PH := ⟨some ⟨w.heap.size + 1, 0, none⟩, some ⟨w.heap.size + 1 + 1, 0, none⟩, some ⟨w.heap.size + 1 + 1 + 1, 0, none⟩, some ⟨w.heap.size + 1 + 1 + 1 + 1, 0, none⟩, 0, 0, 0, 0⟩
abbrev pgV (w : World) : World := (((((w.alloc bO).alloc (.cells #[] 3)).alloc (.cells #[] 74)).alloc (.cells #[] 78)).alloc (.cells #[] 4)).alloc (.cells #[.slice (some ⟨w.heap.size + 1, 0, none⟩) 0 0, .slice (some ⟨w.heap.size + 1 + 1, 0, none⟩) 0 0, .slice (some ⟨w.heap.size + 1 + 1 + 1, 0, none⟩) 0 0, .slice (some ⟨w.heap.size + 1 + 1 + 1 + 1, 0, none⟩) 0 0] 28)
theorem PgSt.start {w : World} {R : Nat} {t : ByteArray} {s : RS} (h : w.heap[R]? = some (sO t s)) : PgSt w R w.heap.size (w.heap.size + 1 + 1 + 1 + 1 + 1) t s (pgH w) pgm0 (pgV w) := by
  have b1 := dbox w bO
  have b2 := dbox (w.alloc bO) (.cells #[] 3)
  have b3 := dbox ((w.alloc bO).alloc (.cells #[] 3)) (.cells #[] 74)
  have b4 := dbox (((w.alloc bO).alloc (.cells #[] 3)).alloc (.cells #[] 74)) (.cells #[] 78)
  have b5 := dbox ((((w.alloc bO).alloc (.cells #[] 3)).alloc (.cells #[] 74)).alloc (.cells #[] 78)) (.cells #[] 4)
  have b6 := dbox (((((w.alloc bO).alloc (.cells #[] 3)).alloc (.cells #[] 74)).alloc (.cells #[] 78)).alloc (.cells #[] 4)) (pO (pgH w) pgm0 28)
  have r1 := World.ownsRow_lit (base := w.heap.size) (e := 3) (size := 1) (w.alloc bO) #[] 0 (by simp <;> omega) (Nat.zero_le _) rfl
  have r2 := World.ownsRow_lit (base := w.heap.size) (e := 74) (size := 1) ((w.alloc bO).alloc (.cells #[] 3)) #[] 0 (by simp <;> omega) (Nat.zero_le _) rfl
  have r3 := World.ownsRow_lit (base := w.heap.size) (e := 78) (size := 6) (((w.alloc bO).alloc (.cells #[] 3)).alloc (.cells #[] 74)) #[] 0 (by simp <;> omega) (by decide) rfl
  have r4 := World.ownsRow_lit (base := w.heap.size) (e := 4) (size := 1) ((((w.alloc bO).alloc (.cells #[] 3)).alloc (.cells #[] 74)).alloc (.cells #[] 78)) #[] 0 (by simp <;> omega) (Nat.zero_le _) rfl
  have z1 : (w.alloc bO).heap.size = w.heap.size + 1 := by simp
  have z2 : ((w.alloc bO).alloc (.cells #[] 3)).heap.size = w.heap.size + 1 + 1 := by simp
  have z3 : (((w.alloc bO).alloc (.cells #[] 3)).alloc (.cells #[] 74)).heap.size = w.heap.size + 1 + 1 + 1 := by simp
  have z4 : ((((w.alloc bO).alloc (.cells #[] 3)).alloc (.cells #[] 74)).alloc (.cells #[] 78)).heap.size = w.heap.size + 1 + 1 + 1 + 1 := by simp
  have z5 : (((((w.alloc bO).alloc (.cells #[] 3)).alloc (.cells #[] 74)).alloc (.cells #[] 78)).alloc (.cells #[] 4)).heap.size = w.heap.size + 1 + 1 + 1 + 1 + 1 := by simp
  rw [z1] at r1
  rw [z2] at r2
  rw [z3] at r3
  rw [z4] at r4
  refine ⟨row_tr (row_tr (row_tr (row_tr (row_tr (rdg_bel b1) (rdg_bel b2)) (rdg_bel b3)) (rdg_bel b4)) (rdg_bel b5)) (rdg_bel b6), blk_bel (blk_bel (blk_bel (blk_bel (blk_bel (blk_bel h b1) b2) b3) b4) b5) b6, ⟨?_, ⟨[], rfl, ?_, fun j hj => by simp [pgm0] at hj⟩, ?_, ?_⟩, ?_, blk_bel (blk_bel (blk_bel (blk_bel (blk_bel (heap_alloc_new w bO) b2) b3) b4) b5) b6⟩
  · exact own_bl (own_bl (own_bl (own_bl (own_bl r1 b3) b4) b5) b6) (Below.refl _ _)
  · exact own_bl (own_bl (own_bl r2 b4) b5) b6
  · exact own_bl (own_bl r3 b5) b6
  · exact own_bl r4 b6
  · have := heap_alloc_new (((((w.alloc bO).alloc (.cells #[] 3)).alloc (.cells #[] 74)).alloc (.cells #[] 78)).alloc (.cells #[] 4)) (pO (pgH w) pgm0 28)
    rw [z5] at this
    exact this
theorem PgSt.dw {w0 w : World} {R rb xb : Nat} {t : ByteArray} {s : RS} {h : PH} {D : Pgm} (p : PgSt w0 R rb xb t s h D w) : PgSt w0 R rb xb t s h D w.drew := p.bel (Below.refl _ _).drew
def dK (t : ByteArray) (s : RS) (k : Nat) : Pgm := ⟨manyP (numP t 1) (numS t 1) k s, [], [], []⟩
theorem dK_add (t : ByteArray) (s : RS) (k : Nat) : (dK t s k).addK (numP t 1 (manyS (numS t 1) k s)) = dK t s (k + 1) := by unfold dK Pgm.addK; rw [manyP_snoc]
theorem dK_n (t : ByteArray) (s : RS) (k : Nat) : (dK t s k).n0 = k := manyP_len _ _ _ _
noncomputable def dR (t : ByteArray) (ks : List Int) (s : RS) (k : Nat) : Pgm := ⟨ks, manyP (codP t) (codS t) k s, [], []⟩
theorem dR_add (t : ByteArray) (ks : List Int) (s : RS) (k : Nat) : (dR t ks s k).addR (codP t (manyS (codS t) k s)) = dR t ks s (k + 1) := by unfold dR Pgm.addR; rw [manyP_snoc]
theorem dR_n (t : ByteArray) (ks : List Int) (s : RS) (k : Nat) : (dR t ks s k).n1 = k := manyP_len _ _ _ _
def dT (t : ByteArray) (ks : List Int) (rs : List (List Ins)) (s : RS) (k : Nat) : Pgm := ⟨ks, rs, manyP (tskP t) (tkS6 t) k s, []⟩
theorem dT_add (t : ByteArray) (ks : List Int) (rs : List (List Ins)) (s : RS) (k : Nat) : (dT t ks rs s k).addT (tskP t (manyS (tkS6 t) k s)) = dT t ks rs s (k + 1) := by unfold dT Pgm.addT; rw [manyP_snoc]
theorem dT_n (t : ByteArray) (ks : List Int) (rs : List (List Ins)) (s : RS) (k : Nat) : (dT t ks rs s k).n2 = k := manyP_len _ _ _ _
def dS (ks : List Int) (rs : List (List Ins)) (ts : List TT) (n : Int) (k : Nat) : Pgm := ⟨ks, rs, ts, (List.range k).map (pinB n)⟩
theorem dS_add (ks : List Int) (rs : List (List Ins)) (ts : List TT) (n : Int) (k : Nat) : (dS ks rs ts n k).addS (pinB n k) = dS ks rs ts n (k + 1) := by unfold dS Pgm.addS; rw [List.range_succ, List.map_append]; rfl
theorem dS_n (ks : List Int) (rs : List (List Ins)) (ts : List TT) (n : Int) (k : Nat) : (dS ks rs ts n k).n3 = k := by simp [dS, Pgm.n3]
/-- A task in a box of its own. -/
abbrev tB (a b c d e f : Int) : Obj := .cells #[.int .i64 a, .int .i64 b, .int .i64 c, .int .i64 d, .int .i64 e, .int .i64 f] 78
structure PgT (w0 : World) (R rb xb T : Nat) (t : ByteArray) (s : RS) (h : PH) (D : Pgm) (a b c d e f : Int) (w : World) : Prop where
  p : PgSt w0 R rb xb t s h D w
  x : w.heap[T]? = some (tB a b c d e f)
  far : ∀ q, Value.ownBlock (.slice h.a2 D.n2 h.c2) = some q → q ≠ T
  nw : w0.heap.size ≤ T ∧ T ≠ R ∧ T ≠ rb ∧ T ≠ xb
theorem tB_ne {a b c d e f : Int} {t : ByteArray} {s : RS} : tB a b c d e f ≠ sO t s := by intro q; simp at q
theorem PgSt.task {w0 w : World} {R rb xb : Nat} {t : ByteArray} {s : RS} {h : PH} {D : Pgm} (p : PgSt w0 R rb xb t s h D w) (a b c d e f : Int) : PgT w0 R rb xb w.heap.size t s h D a b c d e f (w.alloc (tB a b c d e f)) := by
  have hR := (Array.getElem?_eq_some_iff.1 p.r).1
  have hx := (Array.getElem?_eq_some_iff.1 p.x).1
  have hb := (Array.getElem?_eq_some_iff.1 p.b).1
  exact ⟨p.bel (dbox _ _), heap_alloc_new _ _, fun q hq => by have := (p.q.ts.lt q hq).2; omega, p.g.size, by omega, by omega, by omega⟩
theorem PgT.rd {w0 w w' : World} {R rb xb T : Nat} {t : ByteArray} {s s' : RS} {h : PH} {D : Pgm} {a b c d e f : Int} (p : PgT w0 R rb xb T t s h D a b c d e f w) (ho : w'.heap[R]? = some (sO t s')) (hg : w.grownBy w' (some R)) : PgT w0 R rb xb T t s' h D a b c d e f w' :=
  ⟨p.p.rd ho hg, blk_rg hg p.p.r p.x tB_ne, p.far, p.nw⟩
theorem out_t : 78 ≠ 3 ∧ 78 ≠ 74 ∧ 78 ≠ 128 ∧ 78 ≠ 4 := by refine ⟨?_, ?_, ?_, ?_⟩ <;> decide
theorem PgT.set {w0 w : World} {R rb xb T : Nat} {t : ByteArray} {s : RS} {h : PH} {D : Pgm} {a b c d e f a' b' c' d' e' f' : Int} (p : PgT w0 R rb xb T t s h D a b c d e f w) (i : Nat) (u : Value)
    (hu : (#[.int .i64 a, .int .i64 b, .int .i64 c, .int .i64 d, .int .i64 e, .int .i64 f] : Array Value).setIfInBounds i u = #[.int .i64 a', .int .i64 b', .int .i64 c', .int .i64 d', .int .i64 e', .int .i64 f']) :
    PgT w0 R rb xb T t s h D a' b' c' d' e' f' (w.setCell ⟨T, i, none⟩ u) := by
  have hg : w.grownBy (w.setCell ⟨T, i, none⟩ u) (some T) := set_grown u
  obtain ⟨n1, n2, n3, n4⟩ := p.nw
  refine ⟨⟨rdg_new p.p.g n1 u, blk_far p.p.r (Ne.symm n2) u, ⟨p.p.q.ks.kept hg (Or.inr (own_ne p.p.q.ks p.x out_t.1)), p.p.q.rs.kp p.x out_t.2.1 out_t.2.2.1 hg, p.p.q.ts.kept hg (Or.inr (fun q => p.far T q rfl)), p.p.q.sa.kept hg (Or.inr (own_ne p.p.q.sa p.x out_t.2.2.2))⟩, blk_far p.p.x (Ne.symm n4) u, blk_far p.p.b (Ne.symm n3) u⟩, ?_, p.far, p.nw⟩
  rw [wk_set p.x i u, hu]
theorem pin_tab : ∀ (j : Fin 256) (k : Fin 8), (bits BinOp.and IntKind.i64 ((j.val : Int) - 128) (wrap64 (2 ^ k.val)) != 0) = pinB ((j.val : Int) - 128) k.val := by decide +kernel
theorem pin_and {n : Int} {k : Nat} (hn : -128 ≤ n ∧ n ≤ 127) (hk : k < 8) : (bits BinOp.and IntKind.i64 n (wrap64 (2 ^ k)) != 0) = pinB n k := by
  have h := pin_tab ⟨(n + 128).toNat, by omega⟩ ⟨k, hk⟩
  have e : (((n + 128).toNat : Nat) : Int) - 128 = n := by omega
  simp only [e] at h
  exact h
/-- The contracts of the six numbers of a task. -/
def NumC (R : Nat) (t : ByteArray) (s : RS) (k : Int) (s' : RS) (x : Int) : Prop :=
  ∀ X : World, X.heap[R]? = some (sO t s) → Calls Tryz.prog 137 #[.pointer (some ⟨R, 0, none⟩), .int .i64 k] X (RsEnd R t s' X (.int .i64 x))
theorem task_nums (R : Nat) (t : ByteArray) (s : RS) (hp : s.p ≤ t.size) (ht : t.size ≤ 65536) :
    ∃ (s1 s2 s3 s4 s5 : RS) (x0 x1 x2 x3 x4 x5 : Int), tskP t s = ⟨x0, x1, x2, x3, x4, x5⟩ ∧ NumC R t s 1 s1 x0 ∧ NumC R t s1 4 s2 x1 ∧ NumC R t s2 4 s3 x2 ∧ NumC R t s3 1 s4 x3 ∧ NumC R t s4 1 s5 x4 ∧ NumC R t s5 1 (tkS6 t s) x5 := by
  refine ⟨tkS1 t s, tkS2 t s, tkS3 t s, tkS4 t s, tkS5 t s, _, _, _, _, _, _, rfl, ?_, ?_, ?_, ?_, ?_, ?_⟩
  · exact fun X hx => snumber_any R t s 1 (.inl rfl) hp ht X hx
  · exact fun X hx => snumber_any R t (tkS1 t s) 4 (.inr (.inr rfl)) (numS_le hp) ht X hx
  · exact fun X hx => snumber_any R t (tkS2 t s) 4 (.inr (.inr rfl)) (numS_le (numS_le hp)) ht X hx
  · exact fun X hx => snumber_any R t (tkS3 t s) 1 (.inl rfl) (numS_le (numS_le (numS_le hp))) ht X hx
  · exact fun X hx => snumber_any R t (tkS4 t s) 1 (.inl rfl) (numS_le (numS_le (numS_le (numS_le hp)))) ht X hx
  · exact fun X hx => snumber_any R t (tkS5 t s) 1 (.inl rfl) (numS_le (numS_le (numS_le (numS_le (numS_le hp))))) ht X hx
/-- What program answers. -/
def PgEnd (R : Nat) (t : ByteArray) (s : RS) (D : Pgm) (w : World) (e : Ending) (w' : World) : Prop :=
  ∃ h : PH, e = .returned (pV h D) ∧ SQ w.heap.size h D w' ∧ w'.heap[R]? = some (sO t s) ∧ w.grownBy w' (some R)
theorem SRs.lies {B c : Nat} {a : Option Addr} {ls : List (List Ins)} {w : World} (h : SRs B a c ls w) : RL w a ls := by
  obtain ⟨rs, e1, e2, e3⟩ := h.rows
  exact ⟨rs, e1, lies_own e2, fun j hj => ⟨(e3 j hj).1, lies_own (e3 j hj).2⟩⟩
theorem SRs.fr {B c p i : Nat} {a : Option Addr} {ls : List (List Ins)} {w : World} (h : SRs B a c ls w) (hp : p < B) (u : Value) : SRs B a c ls (w.setCell ⟨p, i, none⟩ u) := by
  obtain ⟨rs, e1, e2, e3⟩ := h.rows
  exact ⟨rs, e1, own_far e2 hp u, fun j hj => ⟨(e3 j hj).1, own_far (e3 j hj).2 hp u⟩⟩
theorem SQ.fr {B p i : Nat} {h : PH} {D : Pgm} {w : World} (q : SQ B h D w) (hp : p < B) (u : Value) : SQ B h D (w.setCell ⟨p, i, none⟩ u) :=
  ⟨own_far q.ks hp u, q.rs.fr hp u, own_far q.ts hp u, own_far q.sa hp u⟩
theorem SQ.box4 {B p : Nat} {h : PH} {D : Pgm} {w : World} {cs : Array Value} (q : SQ B h D w) (hk : w.heap[p]? = some (.cells cs 28 (0, 0))) (u0 u1 u2 u3 : Value) :
    SQ B h D ((((w.setCell ⟨p, 0, none⟩ u0).setCell ⟨p, 1, none⟩ u1).setCell ⟨p, 2, none⟩ u2).setCell ⟨p, 3, none⟩ u3) := by
  have k1 := wk_set hk 0 u0
  have k2 := wk_set k1 1 u1
  have k3 := wk_set k2 2 u2
  exact (((q.kp hk out_pg (set_grown u0)).kp k1 out_pg (set_grown u1)).kp k2 out_pg (set_grown u2)).kp k3 out_pg (set_grown u3)
theorem SRs.dn {B B' c : Nat} {a : Option Addr} {ls : List (List Ins)} {w : World} (h : SRs B a c ls w) (hB : B' ≤ B) : SRs B' a c ls w := by
  obtain ⟨rs, e1, e2, e3⟩ := h.rows
  exact ⟨rs, e1, own_base e2 hB, fun j hj => ⟨(e3 j hj).1, own_base (e3 j hj).2 hB⟩⟩
theorem SQ.dn {B B' : Nat} {h : PH} {D : Pgm} {w : World} (q : SQ B h D w) (hB : B' ≤ B) : SQ B' h D w := ⟨own_base q.ks hB, q.rs.dn hB, own_base q.ts hB, own_base q.sa hB⟩
theorem SQ.lies {B : Nat} {h : PH} {D : Pgm} {w : World} (q : SQ B h D w) : PLies w h D := ⟨lies_own q.ks, q.rs.lies, lies_own q.ts, lies_own q.sa⟩

set_option maxRecDepth 100000 in
set_option maxHeartbeats 8000000 in
theorem sprogram_any (R : Nat) (t : ByteArray) (ht : t.size ≤ 65536) (w : World) (h0 : w.heap[R]? = some (sO t ⟨0, 0⟩)) :
    Calls Tryz.prog 99 #[.pointer (some ⟨R, 0, none⟩)] w (PgEnd R t (stG t) (pgmP t) w) := by
  obtain ⟨i0, hi, hz0, hz1, hz2⟩ := info_parts (show (Tryz.prog.info? 3).map (fun i => (i.zero, i.size, i.bytes)) = some (some (.int .i64 0), 1, 8) by kernel_rfl)
  have HI := Lib.hid (And.intro hi (And.intro hz0 (And.intro hz1 hz2)))
  clear hi hz0 hz1 hz2
  obtain ⟨i1, hi, hz0, hz1, hz2⟩ := info_parts (show (Tryz.prog.info? 74).map (fun i => (i.zero, i.size, i.bytes)) = some (some (.agg #[.slice none 0 0]), 1, 24) by kernel_rfl)
  have HR := Lib.hid (And.intro hi (And.intro hz0 (And.intro hz1 hz2)))
  clear hi hz0 hz1 hz2
  obtain ⟨i2, hi, hz0, hz1, hz2⟩ := info_parts (show (Tryz.prog.info? 78).map (fun i => (i.zero, i.size, i.bytes)) = some (some (.agg #[.int .i64 0, .int .i64 0, .int .i64 0, .int .i64 0, .int .i64 0, .int .i64 0]), 6, 48) by kernel_rfl)
  have HT := Lib.hid (And.intro hi (And.intro hz0 (And.intro hz1 hz2)))
  clear hi hz0 hz1 hz2
  obtain ⟨i3, hi, hz0, hz1, hz2⟩ := info_parts (show (Tryz.prog.info? 4).map (fun i => (i.zero, i.size, i.bytes)) = some (some (.bool false), 1, 1) by kernel_rfl)
  have HO := Lib.hid (And.intro hi (And.intro hz0 (And.intro hz1 hz2)))
  clear hi hz0 hz1 hz2
  have hR := (Array.getElem?_eq_some_iff.1 h0).1
  have hRx : R ≠ w.heap.size + 1 + 1 + 1 + 1 + 1 := by omega
  have hrx : w.heap.size ≠ w.heap.size + 1 + 1 + 1 + 1 + 1 := by omega
  have hxb : w.heap.size ≤ w.heap.size + 1 + 1 + 1 + 1 + 1 := by omega
  have HST := Lib.hid (PgSt.start h0)
  have HTZ : t.size ≤ 65536 := ht
  have HM0 := Lib.hid (fun X hx => many_any R t ⟨0, 0⟩ 8 (by omega) (Nat.zero_le _) ht X hx)
  have hr0 := cnt_rng (t := t) (most := 8) (s := ⟨0, 0⟩) (by omega)
  have hp0 : (stA t).p ≤ t.size := cntS_le (t := t) (most := 8) (s := ⟨0, 0⟩) (Nat.zero_le _)
  have hpB : (stB t).p ≤ t.size := manyS_le (fun s h => numS_le h) (nA t) (stA t) hp0
  have HM1 := Lib.hid (fun X hx => many_any R t (stB t) 6 (by omega) hpB ht X hx)
  have hr1 := cnt_rng (t := t) (most := 6) (s := stB t) (by omega)
  have hpC : (stC t).p ≤ t.size := cntS_le hpB
  have hpD : (stD t).p ≤ t.size := manyS_le (fun s h => codS_le h) (nC t) (stC t) hpC
  have HM2 := Lib.hid (fun X hx => many_any R t (stD t) 5 (by omega) hpD ht X hx)
  have hr2 := cnt_rng (t := t) (most := 5) (s := stD t) (by omega)
  have hpE : (stE t).p ≤ t.size := cntS_le hpD
  have hpF : (stF t).p ≤ t.size := manyS_le (fun s h => tkS6_le h) (nE t) (stE t) hpE
  have HN5 := Lib.hid (fun X hx => snumber_any R t (stF t) 1 (.inl rfl) hpF ht X hx)
  have hpn := num1_rng t (stF t)
  have HPM : Hid (pgmP t = dS (manyP (numP t 1) (numS t 1) (nA t) (stA t)) (manyP (codP t) (codS t) (nC t) (stC t)) (manyP (tskP t) (tkS6 t) (nE t) (stE t)) (numP t 1 (stF t)) 8) := Lib.hid rfl
  have HSB : Hid (manyS (numS t 1) (nA t) (stA t) = stB t) := Lib.hid rfl
  have HSD : Hid (manyS (codS t) (nC t) (stC t) = stD t) := Lib.hid rfl
  have HSF : Hid (manyS (tkS6 t) (nE t) (stE t) = stF t) := Lib.hid rfl
  have HSG : Hid (numS t 1 (stF t) = stG t) := Lib.hid rfl
  obtain ⟨vA, hvA⟩ := Int.eq_ofNat_of_zero_le hr0.1
  obtain ⟨vC, hvC⟩ := Int.eq_ofNat_of_zero_le hr1.1
  obtain ⟨vE, hvE⟩ := Int.eq_ofNat_of_zero_le hr2.1
  have hA : nA t = vA := by unfold nA; rw [hvA]; rfl
  have hC : nC t = vC := by unfold nC; rw [hvC]; rfl
  have hE : nE t = vE := by unfold nE; rw [hvE]; rfl
  rw [hvA] at HM0 hr0
  rw [hvC] at HM1 hr1
  rw [hvE] at HM2 hr2
  rw [show cntS t 8 ⟨0, 0⟩ = stA t from rfl] at HM0
  rw [show cntS t 6 (stB t) = stC t from rfl] at HM1
  rw [show cntS t 5 (stD t) = stE t from rfl] at HM2
  rw [hA] at HPM HSB
  rw [hC] at HPM HSD
  rw [hE] at HPM HSF
  clear hA hC hE hvA hvC hvE h0 ht hpB hpD hpF
  generalize stG t = sG at *
  generalize stF t = sF at *
  generalize stE t = sE at *
  generalize stD t = sD at *
  generalize stC t = sC at *
  generalize stB t = sB at *
  generalize stA t = sA at *
  generalize numP t 1 sF = bt at *
  generalize pgmP t = PG at *
  have hA8 : vA ≤ 8 := by omega
  have hC6 : vC ≤ 6 := by omega
  have hE5 : vE ≤ 5 := by omega
  clear hr0 hr1 hr2
  have HDK := Lib.hid (fun k => dK_add t sA k)
  have HSK := Lib.hid (fun k => manyS_snoc (numS t 1) k sA)
  have HNK := Lib.hid (fun k => dK_n t sA k)
  have HPK : Hid (∀ k, (manyS (numS t 1) k sA).p ≤ t.size) := Lib.hid (fun k => manyS_le (fun s h => numS_le h) k sA hp0)
  have HDR := Lib.hid (fun ks k => dR_add t ks sC k)
  have HSR := Lib.hid (fun k => manyS_snoc (codS t) k sC)
  have HNR := Lib.hid (fun ks k => dR_n t ks sC k)
  have HPR : Hid (∀ k, (manyS (codS t) k sC).p ≤ t.size) := Lib.hid (fun k => manyS_le (fun s h => codS_le h) k sC hpC)
  have HDT := Lib.hid (fun ks rs k => dT_add t ks rs sE k)
  have HST6 := Lib.hid (fun k => manyS_snoc (tkS6 t) k sE)
  have HNT := Lib.hid (fun ks rs k => dT_n t ks rs sE k)
  have HPT : Hid (∀ k, (manyS (tkS6 t) k sE).p ≤ t.size) := Lib.hid (fun k => manyS_le (fun s h => tkS6_le h) k sE hpE)
  clear hp0 hpC hpE
  go_enter Tryz.func99, Tryz.ntmps99
  go_wp2_with fail
  refine Calls.mono (HM0.out (pgV w) HST.out.r) ?_
  rintro e w1 ⟨rfl, ho1, hg1⟩
  have HS : Hid (PgSt w R w.heap.size (w.heap.size + 1 + 1 + 1 + 1 + 1) t (manyS (numS t 1) 0 sA) (pgH w) (dK t sA 0) w1) := Lib.hid (HST.out.rd ho1 hg1)
  clear ho1 hg1 HST HM0
  go_wp2_with fail
  go_loopw [4] (fun i wr => ∃ (m k : Nat) (h : PH), m + k = vA ∧ i = .int .i64 (m : Int) ∧ Hid (PgSt w R w.heap.size (w.heap.size + 1 + 1 + 1 + 1 + 1) t (manyS (numS t 1) k sA) h (dK t sA k) wr)) (fun i _ => (intOf i).toNat)
  case atStart => exact ⟨vA, 0, _, rfl, rfl, HS⟩
  case round =>
    clear HS
    obtain ⟨m, k, h, hmk, rfl, hst⟩ := hrel
    cases m with
    | succ m =>
      have HD := Lib.hid (HDK.out k)
      have HSq := Lib.hid (HSK.out k)
      have HN := Lib.hid (fun X hx => snumber_any R t (manyS (numS t 1) k sA) 1 (.inl rfl) (HPK.out k) HTZ X hx)
      have hn0 : (dK t sA k).n0 ≤ 8 := by rw [HNK.out]; omega
      have hpos : (0 : Int) < ((m + 1 : Nat) : Int) := by omega
      clear HM1 HM2 HN5
      generalize dK t sA k = D at *
      generalize numP t 1 (manyS (numS t 1) k sA) = x at *
      generalize manyS (numS t 1) k sA = s at *
      go_wp2_with fail
      have P0 := Lib.hid hst.out.dw
      clear hst
      refine wp_region_hl 7 (fun X => X.heap[w.heap.size + 1 + 1 + 1 + 1 + 1]? = some (pO h D 28)) (by kernel_rfl) rfl rfl (by kernel_rfl) ?_
      refine hl_take (v := ?vk0) 0 rfl (by kernel_rfl) (fun _ _ _ h => h) (Or.inl ⟨by rfl, ?hyk0⟩) P0.out.x ?restk0
      case hyk0 =>
        intro X hSw
        go_simp <;> with_reducible rfl
      try simp only [Act.put, List.setIfInBounds_toArray, List.set_cons_zero, List.set_cons_succ]
      refine hl_take (v := ?vk1) 1 rfl (by kernel_rfl) (fun _ _ _ h => h) (Or.inl ⟨by rfl, ?hyk1⟩) P0.out.x ?restk1
      case hyk1 =>
        intro X hSw
        have c0 := cell_of_row X (w.heap.size + 1 + 1 + 1 + 1 + 1) 0 _ _ _ hSw
        go_simp <;> with_reducible rfl
      try simp only [Act.put, List.setIfInBounds_toArray, List.set_cons_zero, List.set_cons_succ]
      refine hl_take (v := ?vk2) 2 rfl (by kernel_rfl) (fun _ _ _ h => h) (Or.inl ⟨by rfl, ?hyk2⟩) P0.out.x ?restk2
      case hyk2 =>
        intro X hSw
        go_simp <;> with_reducible rfl
      try simp only [Act.put, List.setIfInBounds_toArray, List.set_cons_zero, List.set_cons_succ]
      refine hl_one 3 rfl (by kernel_rfl) (fun K hK => ?_)
      go_simp
      refine Calls.mono (HN.out _ P0.out.r) ?_
      rintro e w2 ⟨rfl, ho2, hg2⟩
      rw [← HSq.out] at ho2
      have P1 := Lib.hid (P0.out.rd ho2 hg2)
      refine hK.out _ _ P1.out.x ?_
      clear hK ho2 hg2 P0
      try simp only [Act.put, List.setIfInBounds_toArray, List.set_cons_zero, List.set_cons_succ]
      refine hl_one 4 rfl (by kernel_rfl) (fun K hK => ?_)
      go_simp
      have P2 := Lib.hid (P1.out.bel (dbox w2 (.cells #[.int .i64 x] 3)))
      have hsz := P1.out.g.size
      refine hK.out _ _ P2.out.x ?_
      clear hK P1
      try simp only [Act.put, List.setIfInBounds_toArray, List.set_cons_zero, List.set_cons_succ]
      refine hl_one 5 rfl (by kernel_rfl) (fun K hK => ?_)
      refine wp_append_own _ (.tmp 22) (.tmp 25) _ rfl w.heap.size 3 i0 _ 1 8 Tryz.underlying23 HI.out.1 HI.out.2.1 HI.out.2.2.1 HI.out.2.2.2 rfl (by decide) (.slice h.a0 D.n0 h.c0) D.n0 (kC D.ks) rfl P2.out.q.ks ⟨w2.heap.size, 0, none⟩ 1 1 [.int .i64 x] rfl rfl (new_cells8 w2 [.int .i64 x] 3) (by simp [Value.oneCell']) (by unfold maxLen; omega) (by omega) (by simp; omega) (fun v' w4 g1 g2 _ => ?_)
      obtain ⟨hx', a, c, rfl, P3⟩ := P2.out.k hrx hRx hxb x g1 g2
      rw [HD.out] at P3
      have P3 := Lib.hid P3
      refine hK.out _ _ hx' ?_
      clear hK g1 g2 P2
      try simp only [Act.put, List.setIfInBounds_toArray, List.set_cons_zero, List.set_cons_succ]
      refine hl_take (v := ?vk6) 6 rfl (by kernel_rfl) (fun _ _ _ h => h) (Or.inl ⟨by rfl, ?hyk6⟩) hx' ?restk6
      case hyk6 =>
        intro X hSw
        go_simp <;> with_reducible rfl
      try simp only [Act.put, List.setIfInBounds_toArray, List.set_cons_zero, List.set_cons_succ]
      refine hl_done (by kernel_rfl) ?_
      have c0 := cell_of_row w4 (w.heap.size + 1 + 1 + 1 + 1 + 1) 0 _ _ _ hx'
      have f0 := frozen_of_row w4 (w.heap.size + 1 + 1 + 1 + 1 + 1) 0 _ _ hx'
      go_simp
      clear c0 f0 hx'
      go_wp2
      go_roundw
      case rel => exact ⟨m, k + 1, _, by omega, rv_int (by omega), P3⟩
      case measure => simp [intOf]
    | zero =>
      obtain rfl : k = vA := by omega
      rw [HSB.out] at hst
      have hst := Lib.hid hst.out
      clear HDK HSK HNK HPK HI
      have HKS : Hid (dK t sA k = dR t (manyP (numP t 1) (numS t 1) k sA) sC 0) := Lib.hid rfl
      generalize dK t sA k = D at *
      generalize manyP (numP t 1) (numS t 1) k sA = KS at *
      go_wp2_with fail
      refine Calls.mono (HM1.out _ hst.out.r) ?_
      rintro e w3 ⟨rfl, ho3, hg3⟩
      have HS : Hid (PgSt w R w.heap.size (w.heap.size + 1 + 1 + 1 + 1 + 1) t (manyS (codS t) 0 sC) h (dR t KS sC 0) w3) := Lib.hid (by rw [← HKS.out]; exact hst.out.rd ho3 hg3)
      clear ho3 hg3 hst HM1 HKS
      generalize hh : h = hA at *
      clear hh
      go_wp2_with fail
      go_loopw [5] (fun i wr => ∃ (m k : Nat) (h : PH), m + k = vC ∧ i = .int .i64 (m : Int) ∧ Hid (PgSt w R w.heap.size (w.heap.size + 1 + 1 + 1 + 1 + 1) t (manyS (codS t) k sC) h (dR t KS sC k) wr)) (fun i _ => (intOf i).toNat)
      case atStart => exact ⟨vC, 0, _, rfl, rfl, HS⟩
      case round =>
        clear HS
        obtain ⟨m, k, h, hmk, rfl, hst⟩ := hrel
        cases m with
        | succ m =>
          have HD := Lib.hid (HDR.out KS k)
          have HSq := Lib.hid (HSR.out k)
          have HN := Lib.hid (fun X hx => snumber_any R t (manyS (codS t) k sC) 2 (.inr (.inl rfl)) (HPR.out k) HTZ X hx)
          have HC := Lib.hid (fun X hx => code1_any R t (manyS (codS t) k sC) (HPR.out k) HTZ X hx)
          have hn1 : (dR t KS sC k).n1 ≤ 6 := by rw [HNR.out]; omega
          have hpos : (0 : Int) < ((m + 1 : Nat) : Int) := by omega
          clear HM2 HN5
          rw [← HSq.out] at HC
          generalize dR t KS sC k = D at *
          generalize codP t (manyS (codS t) k sC) = L at *
          generalize numP t 2 (manyS (codS t) k sC) = x at *
          generalize numS t 2 (manyS (codS t) k sC) = s2 at *
          generalize manyS (codS t) k sC = s at *
          go_wp2_with fail
          have P0 := Lib.hid hst.out.dw
          clear hst
          refine wp_region_hl 10 (fun X => X.heap[w.heap.size + 1 + 1 + 1 + 1 + 1]? = some (pO h D 28)) (by kernel_rfl) rfl rfl (by kernel_rfl) ?_
          refine hl_take (v := ?vr0) 0 rfl (by kernel_rfl) (fun _ _ _ h => h) (Or.inl ⟨by rfl, ?hyr0⟩) P0.out.x ?restr0
          case hyr0 =>
            intro X hSw
            go_simp <;> with_reducible rfl
          try simp only [Act.put, List.setIfInBounds_toArray, List.set_cons_zero, List.set_cons_succ]
          refine hl_take (v := ?vr1) 1 rfl (by kernel_rfl) (fun _ _ _ h => h) (Or.inl ⟨by rfl, ?hyr1⟩) P0.out.x ?restr1
          case hyr1 =>
            intro X hSw
            have c0 := cell_of_row X (w.heap.size + 1 + 1 + 1 + 1 + 1) 1 _ _ _ hSw
            go_simp <;> with_reducible rfl
          try simp only [Act.put, List.setIfInBounds_toArray, List.set_cons_zero, List.set_cons_succ]
          refine hl_take (v := ?vr2) 2 rfl (by kernel_rfl) (fun _ _ _ h => h) (Or.inl ⟨by rfl, ?hyr2⟩) P0.out.x ?restr2
          case hyr2 =>
            intro X hSw
            go_simp <;> with_reducible rfl
          try simp only [Act.put, List.setIfInBounds_toArray, List.set_cons_zero, List.set_cons_succ]
          refine hl_take (v := ?vr3) 3 rfl (by kernel_rfl) (fun _ _ _ h => h) (Or.inl ⟨by rfl, ?hyr3⟩) P0.out.x ?restr3
          case hyr3 =>
            intro X hSw
            go_simp <;> with_reducible rfl
          try simp only [Act.put, List.setIfInBounds_toArray, List.set_cons_zero, List.set_cons_succ]
          refine hl_one 4 rfl (by kernel_rfl) (fun K hK => ?_)
          go_simp
          refine Calls.mono (HN.out _ P0.out.r) ?_
          rintro e w2 ⟨rfl, ho2, hg2⟩
          have P1 := Lib.hid (P0.out.rd ho2 hg2)
          refine hK.out _ _ P1.out.x ?_
          clear hK ho2 hg2 P0
          try simp only [Act.put, List.setIfInBounds_toArray, List.set_cons_zero, List.set_cons_succ]
          refine hl_one 5 rfl (by kernel_rfl) (fun K hK => ?_)
          go_simp
          refine Calls.mono (HC.out _ P1.out.r) ?_
          rintro e w5 ⟨v, rfl, hv5, ho5, hg5⟩
          obtain ⟨va, vc, rfl⟩ := wk_slice hv5
          have P2 := Lib.hid (P1.out.rd ho5 hg5)
          have HL2 := Lib.hid (own_base hv5 P1.out.g.size)
          refine hK.out _ _ P2.out.x ?_
          clear hK hv5 ho5 hg5 P1
          try simp only [Act.put, List.setIfInBounds_toArray, List.set_cons_zero, List.set_cons_succ]
          refine hl_take (v := ?vr6) 6 rfl (by kernel_rfl) (fun _ _ _ h => h) (Or.inl ⟨by rfl, ?hyr6⟩) P2.out.x ?restr6
          case hyr6 =>
            intro X hSw
            go_simp <;> with_reducible rfl
          try simp only [Act.put, List.setIfInBounds_toArray, List.set_cons_zero, List.set_cons_succ]
          refine hl_one 7 rfl (by kernel_rfl) (fun K hK => ?_)
          go_simp
          have P3 := Lib.hid (P2.out.bel (dbox w5 (.cells #[.slice va L.length vc] 74)))
          have HL3 := Lib.hid (own_bl HL2.out (dbox w5 (.cells #[.slice va L.length vc] 74)))
          have hsz := P2.out.g.size
          refine hK.out _ _ P3.out.x ?_
          clear hK P2 HL2
          try simp only [Act.put, List.setIfInBounds_toArray, List.set_cons_zero, List.set_cons_succ]
          obtain ⟨rs, hrl, ho0, hej⟩ := P3.out.q.rs.rows
          refine hl_one 8 rfl (by kernel_rfl) (fun K hK => ?_)
          refine wp_append_own _ (.tmp 35) (.tmp 41) _ rfl w.heap.size 74 i1 _ 1 24 Tryz.underlying24 HR.out.1 HR.out.2.1 HR.out.2.2.1 HR.out.2.2.2 rfl (by decide) (.slice h.a1 D.n1 h.c1) D.n1 (flat rpC rs) rfl ho0 ⟨w5.heap.size, 0, none⟩ 1 1 [.slice va L.length vc] rfl rfl (new_cells8 w5 [.slice va L.length vc] 74) (by simp [Value.oneCell']) (by unfold maxLen; omega) (by omega) (by simp; omega) (fun v' w4 g1 g2 _ => ?_)
          obtain ⟨hx', a, c, rfl, P4⟩ := P3.out.r1 hrx hRx hxb L rs hrl ho0 hej HL3.out g1 g2
          rw [HD.out] at P4
          have P4 := Lib.hid P4
          refine hK.out _ _ hx' ?_
          clear hK g1 g2 P3 ho0 hej HL3
          try simp only [Act.put, List.setIfInBounds_toArray, List.set_cons_zero, List.set_cons_succ]
          refine hl_take (v := ?vr9) 9 rfl (by kernel_rfl) (fun _ _ _ h => h) (Or.inl ⟨by rfl, ?hyr9⟩) hx' ?restr9
          case hyr9 =>
            intro X hSw
            go_simp <;> with_reducible rfl
          try simp only [Act.put, List.setIfInBounds_toArray, List.set_cons_zero, List.set_cons_succ]
          refine hl_done (by kernel_rfl) ?_
          have c0 := cell_of_row w4 (w.heap.size + 1 + 1 + 1 + 1 + 1) 1 _ _ _ hx'
          have f0 := frozen_of_row w4 (w.heap.size + 1 + 1 + 1 + 1 + 1) 1 _ _ hx'
          go_simp
          clear c0 f0 hx'
          go_wp2
          go_roundw
          case rel => exact ⟨m, k + 1, _, by omega, rv_int (by omega), P4⟩
          case measure => simp [intOf]
        | zero =>
          obtain rfl : k = vC := by omega
          rw [HSD.out] at hst
          have hst := Lib.hid hst.out
          clear HDR HSR HNR HPR HR
          have HKT : Hid (dR t KS sC k = dT t KS (manyP (codP t) (codS t) k sC) sE 0) := Lib.hid rfl
          generalize dR t KS sC k = D at *
          generalize manyP (codP t) (codS t) k sC = RT at *
          go_wp2_with fail
          refine Calls.mono (HM2.out _ hst.out.r) ?_
          rintro e w6 ⟨rfl, ho3, hg3⟩
          have HS : Hid (PgSt w R w.heap.size (w.heap.size + 1 + 1 + 1 + 1 + 1) t (manyS (tkS6 t) 0 sE) h (dT t KS RT sE 0) w6) := Lib.hid (by rw [← HKT.out]; exact hst.out.rd ho3 hg3)
          clear ho3 hg3 hst HM2 HKT
          generalize hh : h = hB at *
          clear hh
          go_wp2_with fail
          go_loopw [6] (fun i wr => ∃ (m k : Nat) (h : PH), m + k = vE ∧ i = .int .i64 (m : Int) ∧ Hid (PgSt w R w.heap.size (w.heap.size + 1 + 1 + 1 + 1 + 1) t (manyS (tkS6 t) k sE) h (dT t KS RT sE k) wr)) (fun i _ => (intOf i).toNat)
          case atStart => exact ⟨vE, 0, _, rfl, rfl, HS⟩
          case round =>
            clear HS
            obtain ⟨m, k, h, hmk, rfl, hst⟩ := hrel
            cases m with
            | succ m =>
              have HD := Lib.hid (HDT.out KS RT k)
              have HSq := Lib.hid (HST6.out k)
              obtain ⟨s1, s2, s3, s4, s5, x0, x1, x2, x3, x4, x5, hx, N0, N1, N2, N3, N4, N5⟩ := task_nums R t (manyS (tkS6 t) k sE) (HPT.out k) HTZ
              rw [hx] at HD
              rw [← HSq.out] at N5
              have hn2 : (dT t KS RT sE k).n2 ≤ 5 := by rw [HNT.out]; omega
              have hpos : (0 : Int) < ((m + 1 : Nat) : Int) := by omega
              have N0 := Lib.hid N0
              have N1 := Lib.hid N1
              have N2 := Lib.hid N2
              have N3 := Lib.hid N3
              have N4 := Lib.hid N4
              have N5 := Lib.hid N5
              clear HN5 hx
              generalize dT t KS RT sE k = D at *
              generalize manyS (tkS6 t) k sE = s at *
              go_wp2_with fail
              refine Calls.mono (N0.out _ hst.out.r) ?_
              rintro e u0 ⟨rfl, ho2, hg2⟩
              have Q := Lib.hid ((hst.out.rd ho2 hg2).task x0 0 0 0 0 0)
              have hTR : ¬ u0.heap.size = R := Q.out.nw.2.1
              have hTx : ¬ u0.heap.size = w.heap.size + 1 + 1 + 1 + 1 + 1 := Q.out.nw.2.2.2
              have hxT : ¬ w.heap.size + 1 + 1 + 1 + 1 + 1 = u0.heap.size := fun e => hTx e.symm
              have hsz : w.heap.size ≤ u0.heap.size := Q.out.nw.1
              clear ho2 hg2 hst
              go_wp2_with fail
              refine Calls.mono (N1.out _ Q.out.p.r) ?_
              rintro e u1 ⟨rfl, ho2, hg2⟩
              have Q := Lib.hid (Q.out.rd ho2 hg2)
              clear ho2 hg2
              have c1 := cell_of_row u1 u0.heap.size 1 _ _ _ Q.out.x
              have f1 := frozen_of_row u1 u0.heap.size 1 _ _ Q.out.x
              have Q := Lib.hid (Q.out.set 1 (.int .i64 x1) rfl)
              go_wp2_with fail
              refine Calls.mono (N2.out _ Q.out.p.r) ?_
              rintro e u2 ⟨rfl, ho2, hg2⟩
              have Q := Lib.hid (Q.out.rd ho2 hg2)
              clear ho2 hg2
              have c2 := cell_of_row u2 u0.heap.size 2 _ _ _ Q.out.x
              have f2 := frozen_of_row u2 u0.heap.size 2 _ _ Q.out.x
              have Q := Lib.hid (Q.out.set 2 (.int .i64 x2) rfl)
              go_wp2_with fail
              refine Calls.mono (N3.out _ Q.out.p.r) ?_
              rintro e u3 ⟨rfl, ho2, hg2⟩
              have Q := Lib.hid (Q.out.rd ho2 hg2)
              clear ho2 hg2
              have c3 := cell_of_row u3 u0.heap.size 3 _ _ _ Q.out.x
              have f3 := frozen_of_row u3 u0.heap.size 3 _ _ Q.out.x
              have Q := Lib.hid (Q.out.set 3 (.int .i64 x3) rfl)
              go_wp2_with fail
              refine Calls.mono (N4.out _ Q.out.p.r) ?_
              rintro e u4 ⟨rfl, ho2, hg2⟩
              have Q := Lib.hid (Q.out.rd ho2 hg2)
              clear ho2 hg2
              have c4 := cell_of_row u4 u0.heap.size 4 _ _ _ Q.out.x
              have f4 := frozen_of_row u4 u0.heap.size 4 _ _ Q.out.x
              have Q := Lib.hid (Q.out.set 4 (.int .i64 x4) rfl)
              go_wp2_with fail
              refine Calls.mono (N5.out _ Q.out.p.r) ?_
              rintro e u5 ⟨rfl, ho2, hg2⟩
              have Q := Lib.hid (Q.out.rd ho2 hg2)
              clear ho2 hg2
              have c5 := cell_of_row u5 u0.heap.size 5 _ _ _ Q.out.x
              have f5 := frozen_of_row u5 u0.heap.size 5 _ _ Q.out.x
              obtain ⟨q0, q1, q2, q3, q4, _⟩ := six_v Q.out.x
              have cx := cell_of_row u5 (w.heap.size + 1 + 1 + 1 + 1 + 1) 2 _ _ _ Q.out.p.x
              have hu5 := (Array.getElem?_eq_some_iff.1 Q.out.x).1
              have hx5 := (Array.getElem?_eq_some_iff.1 Q.out.p.x).1
              have Q := Lib.hid (Q.out.set 5 (.int .i64 x5) rfl)
              have P2 := Lib.hid (Q.out.p.bel (dbox (u5.setCell ⟨u0.heap.size, 5, none⟩ (.int .i64 x5)) (.cells #[.int .i64 x0, .int .i64 x1, .int .i64 x2, .int .i64 x3, .int .i64 x4, .int .i64 x5] 78)))
              have hsz5 : w.heap.size ≤ (u5.setCell ⟨u0.heap.size, 5, none⟩ (.int .i64 x5)).heap.size := Q.out.p.g.size
              have hnc := new_cells8 (u5.setCell ⟨u0.heap.size, 5, none⟩ (.int .i64 x5)) [.int .i64 x0, .int .i64 x1, .int .i64 x2, .int .i64 x3, .int .i64 x4, .int .i64 x5] 78
              rw [show (u5.setCell ⟨u0.heap.size, 5, none⟩ (.int .i64 x5)).heap.size = u5.heap.size by simp [World.setCell]] at hnc
              have HNC := Lib.hid hnc
              clear hnc
              clear Q N0 N1 N2 N3 N4 N5 hst
              go_wp2_with (at_builtin; go_must (refine wpList_append_own _ rfl (.tmp 69) (.tmp 71) _ rfl w.heap.size 78 i2 _ 6 48 Tryz.underlying25 HT.out.1 HT.out.2.1 HT.out.2.2.1 HT.out.2.2.2 rfl (by decide) (.slice h.a2 D.n2 h.c2) D.n2 (flat tC D.ts) rfl P2.out.q.ts ⟨u5.heap.size, 0, none⟩ 1 1 [.int .i64 x0, .int .i64 x1, .int .i64 x2, .int .i64 x3, .int .i64 x4, .int .i64 x5] rfl rfl HNC.out (by simp [Value.oneCell']) (by unfold maxLen; omega) (by omega) (by simp; omega) ?_); intro v' w4 g1 g2 _; obtain ⟨hx', a, c, rfl, P3⟩ := P2.out.t hrx hRx hxb ⟨x0, x1, x2, x3, x4, x5⟩ g1 g2; rw [HD.out] at P3; have P3 := Lib.hid P3; have z0 := cell_of_row w4 (w.heap.size + 1 + 1 + 1 + 1 + 1) 2 _ _ _ hx'; have zf := frozen_of_row w4 (w.heap.size + 1 + 1 + 1 + 1 + 1) 2 _ _ hx'; clear hx' g1 g2 P2 HNC)
              go_roundw
              case rel => exact ⟨m, k + 1, _, by omega, rv_int (by omega), P3⟩
              case measure => simp [intOf]
            | zero =>
              obtain rfl : k = vE := by omega
              rw [HSF.out] at hst
              have hst := Lib.hid hst.out
              clear HDT HST6 HNT HPT HT
              have HKT : Hid (dT t KS RT sE k = dS KS RT (manyP (tskP t) (tkS6 t) k sE) bt 0) := Lib.hid rfl
              generalize dT t KS RT sE k = D at *
              generalize manyP (tskP t) (tkS6 t) k sE = TT6 at *
              go_wp2_with fail
              refine Calls.mono (HN5.out _ hst.out.r) ?_
              rintro e w7 ⟨rfl, ho3, hg3⟩
              rw [HSG.out] at ho3
              have HS : Hid (PgSt w R w.heap.size (w.heap.size + 1 + 1 + 1 + 1 + 1) t sG h (dS KS RT TT6 bt 0) w7) := Lib.hid (by rw [← HKT.out]; exact hst.out.rd ho3 hg3)
              clear ho3 hg3 hst HN5 HKT
              generalize hh : h = hC at *
              clear hh
              have HDS := Lib.hid (fun k => dS_add KS RT TT6 bt k)
              have HNS := Lib.hid (fun k => dS_n KS RT TT6 bt k)
              go_wp2_with fail
              go_loopw [9] (fun i wr => ∃ (k : Nat) (h : PH), k ≤ 8 ∧ i = .int .i64 (k : Int) ∧ Hid (PgSt w R w.heap.size (w.heap.size + 1 + 1 + 1 + 1 + 1) t sG h (dS KS RT TT6 bt k) wr)) (fun i _ => 8 - (intOf i).toNat)
              case atStart => exact ⟨0, _, Nat.zero_le _, rfl, HS⟩
              case round =>
                clear HS
                obtain ⟨k, h, hk, rfl, hst⟩ := hrel
                by_cases hlt : k < 8
                · have HD := Lib.hid (HDS.out k)
                  have hn3 : (dS KS RT TT6 bt k).n3 ≤ 8 := by rw [HNS.out]; omega
                  have HB := Lib.hid (pin_and hpn hlt)
                  generalize dS KS RT TT6 bt k = D at *
                  have hki : (k : Int) < 8 := by omega
                  have cx := cell_of_row wr (w.heap.size + 1 + 1 + 1 + 1 + 1) 3 _ _ _ hst.out.x
                  have hxl := (Array.getElem?_eq_some_iff.1 hst.out.x).1
                  have hsz := hst.out.g.size
                  have P2 := Lib.hid (hst.out.bel (dbox wr (.cells #[.bool (bits BinOp.and IntKind.i64 bt (wrap64 (2 ^ k)) != 0)] 4)))
                  have HNC := Lib.hid (new_cells8 wr [.bool (bits BinOp.and IntKind.i64 bt (wrap64 (2 ^ k)) != 0)] 4)
                  clear hst
                  go_wp2_with (at_builtin; go_must (refine wpList_append_own _ rfl (.tmp 81) (.tmp 88) _ rfl w.heap.size 4 i3 _ 1 1 Tryz.underlying26 HO.out.1 HO.out.2.1 HO.out.2.2.1 HO.out.2.2.2 rfl (by decide) (.slice h.a3 D.n3 h.c3) D.n3 (flat bI D.sa) rfl P2.out.q.sa ⟨wr.heap.size, 0, none⟩ 1 1 [.bool (bits BinOp.and IntKind.i64 bt (wrap64 (2 ^ k)) != 0)] rfl rfl HNC.out (by simp [Value.oneCell']) (by unfold maxLen; omega) (by omega) (by simp; omega) ?_); intro v' w4 g1 g2 _; obtain ⟨hx', a, c, rfl, P3⟩ := P2.out.s hrx hRx hxb (bits BinOp.and IntKind.i64 bt (wrap64 (2 ^ k)) != 0) g1 g2; rw [HB.out, HD.out] at P3; have P3 := Lib.hid P3; have z0 := cell_of_row w4 (w.heap.size + 1 + 1 + 1 + 1 + 1) 3 _ _ _ hx'; have zf := frozen_of_row w4 (w.heap.size + 1 + 1 + 1 + 1 + 1) 3 _ _ hx'; clear hx' g1 g2 P2 HNC)
                  go_roundw
                  case rel => exact ⟨k + 1, _, by omega, by go_num, P3⟩
                  case measure => simp [intOf]; omega
                · obtain rfl : k = 8 := by omega
                  have P := Lib.hid hst.out
                  have HPL := Lib.hid P.out.q
                  clear hst hlt HDS HNS
                  rw [← HPM.out] at P HPL
                  have c0 := cell_of_row wr (w.heap.size + 1 + 1 + 1 + 1 + 1) 0 _ _ _ P.out.x
                  have c1 := cell_of_row wr (w.heap.size + 1 + 1 + 1 + 1 + 1) 1 _ _ _ P.out.x
                  have c2 := cell_of_row wr (w.heap.size + 1 + 1 + 1 + 1 + 1) 2 _ _ _ P.out.x
                  have c3 := cell_of_row wr (w.heap.size + 1 + 1 + 1 + 1 + 1) 3 _ _ _ P.out.x
                  have r0 := cell_of_row wr w.heap.size 0 _ _ _ P.out.b
                  have r1 := cell_of_row wr w.heap.size 1 _ _ _ P.out.b
                  have r2 := cell_of_row wr w.heap.size 2 _ _ _ P.out.b
                  have r3 := cell_of_row wr w.heap.size 3 _ _ _ P.out.b
                  have f0 := frozen_of_row wr w.heap.size 0 _ _ P.out.b
                  have f1 := frozen_of_row wr w.heap.size 1 _ _ P.out.b
                  have f2 := frozen_of_row wr w.heap.size 2 _ _ P.out.b
                  have f3 := frozen_of_row wr w.heap.size 3 _ _ P.out.b
                  go_wp2
                  refine bodyPost_ret (v := pV h PG) (by simp [results, Tryz.results99, go_sem, r0, r1, r2, r3]) rfl ?_
                  refine ⟨h, rfl, ?_, ?_, ?_⟩
                  · exact HPL.out.box4 P.out.b _ _ _ _
                  · exact blk_far (blk_far (blk_far (blk_far P.out.r (by omega) _) (by omega) _) (by omega) _) (by omega) _
                  · exact rdg_new (rdg_new (rdg_new (rdg_new P.out.g (Nat.le_refl _) _) (Nat.le_refl _) _) (Nat.le_refl _) _) (Nat.le_refl _) _
end Go.Proofs.YtmpppfibeoghaaaGreatDoor
namespace Go.Proofs.YtmpppfibeoghaaaGreatDoor
open Go.ChangeShapes Go.WideShapes Go.ChangeAt Go.RowKit Go.PlainAid
set_option linter.unusedVariables false
def SmPost (D : Pgm) (c : Int) (w : World) (e : Ending) (w' : World) : Prop := ∃ h : PH, e = .returned (.tuple #[pV h D, .int .i64 c]) ∧ SQ w.heap.size h D w' ∧ Below w.heap.size w w'
theorem bel_rdg2 {w a X : World} {R : Nat} (hb : Below w.heap.size w a) (g : a.grownBy X (some R)) (hR : w.heap.size ≤ R) : Below w.heap.size w X := hb.grown g hb.size (fun k hk => by cases hk; exact hR)
theorem sq0 (B : Nat) (w : World) : SQ B ph0 pgm0 w :=
  ⟨World.ownsRow_nil _ _ _ _, ⟨[], rfl, World.ownsRow_nil _ _ _ _, (fun j hj => by cases hj)⟩, World.ownsRow_nil _ _ _ _, World.ownsRow_nil _ _ _ _⟩
theorem sm_nil {w w' : World} {c : Int} {D : Pgm} (hD : D = pgm0) (hb : Below w.heap.size w w') : SmPost D c w (.returned (.tuple #[.agg #[.slice none 0 0, .slice none 0 0, .slice none 0 0, .slice none 0 0], .int .i64 c])) w' := by
  subst hD
  exact ⟨ph0, rfl, sq0 _ _, hb⟩
set_option maxRecDepth 100000 in
set_option maxHeartbeats 4000000 in
theorem l08Read_any (s : ByteArray) (hs : s.size ≤ 65536) (w : World) : Calls Tryz.prog 36 #[.string s] w (SmPost (rmD s) (rmC s) w) := by
  have HX := Lib.hid (Bx.start w bO)
  have HRF := Lib.hid (fun X => l01ReadFrame_any s hs X)
  rw [← rdS_in hs, ← rdC_in hs] at HRF
  have hsz := rdS_size s
  by_cases hc : rdC s ≠ 0
  · obtain ⟨e1, e2⟩ := rm_bad hc
    have HP : Hid (∀ w', Below w.heap.size w w' → SmPost (rmD s) (rmC s) w (.returned (.tuple #[.agg #[.slice none 0 0, .slice none 0 0, .slice none 0 0, .slice none 0 0], .int .i64 (rdC s)])) w') := Lib.hid (fun w' hb => by rw [e1]; exact sm_nil e2 hb)
    have hcb : (rdC s != 0) = true := by rw [bne_iff_ne]; exact hc
    clear hc e1 e2 hsz
    generalize SmPost (rmD s) (rmC s) w = POST at *
    generalize rdC s = c at *
    generalize rdS s = u at *
    go_enter Tryz.func36, Tryz.ntmps36
    go_wp2_with fail
    refine Calls.mono (HRF.out _) ?_
    rintro e w1 ⟨rfl, hb⟩
    have HX := Lib.hid (HX.out.to hb)
    have HB := Lib.hid HX.out.box
    clear hb
    have q0 := cell_of_row _ w.heap.size 0 _ _ _ HB.out
    have q1 := cell_of_row _ w.heap.size 1 _ _ _ HB.out
    have q2 := cell_of_row _ w.heap.size 2 _ _ _ HB.out
    have q3 := cell_of_row _ w.heap.size 3 _ _ _ HB.out
    have qf0 := frozen_of_row _ w.heap.size 0 _ _ HB.out
    have qf1 := frozen_of_row _ w.heap.size 1 _ _ HB.out
    have qf2 := frozen_of_row _ w.heap.size 2 _ _ HB.out
    have qf3 := frozen_of_row _ w.heap.size 3 _ _ HB.out
    go_wp2
    refine bodyPost_ret (v := .tuple #[.agg #[.slice none 0 0, .slice none 0 0, .slice none 0 0, .slice none 0 0], .int .i64 c]) (by simp [results, Tryz.results36, go_sem, q0, q1, q2, q3]) rfl ?_
    exact HP.out _ (bel_set (bel_set (bel_set (bel_set HX.out.bel (Nat.le_refl _) _) (Nat.le_refl _) _) (Nat.le_refl _) _) (Nat.le_refl _) _)
  · have hc0 : rdC s = 0 := by simpa using hc
    have HE1 : Hid ((stG (rdS s)).c ≠ 0 → rmC s = (stG (rdS s)).c ∧ rmD s = pgm0) := Lib.hid (fun q => by
      have e : endP (rdS s) (stG (rdS s)) = (endP (rdS s) (stG (rdS s))) := rfl
      have g : (endP (rdS s) (stG (rdS s))).c = (stG (rdS s)).c := by rw [end_code, if_pos q]
      have := rm_end hc0 (by rw [g]; exact q)
      rw [g] at this
      exact this)
    have HE2 : Hid ((stG (rdS s)).c = 0 → (stG (rdS s)).p ≠ (rdS s).size → rmC s = 8 ∧ rmD s = pgm0) := Lib.hid (fun q k => by
      have g : (endP (rdS s) (stG (rdS s))).c = 8 := by rw [end_code, if_neg (fun h => h q), if_pos k]
      have := rm_end hc0 (by rw [g]; decide)
      rw [g] at this
      exact this)
    have HG : Hid ((stG (rdS s)).c = 0 → (stG (rdS s)).p = (rdS s).size → (endP (rdS s) (stG (rdS s))).c = 0) := Lib.hid (fun q k => by rw [end_code, if_neg (fun h => h q), if_neg (fun h => h k)])
    have HE3 : Hid ((stG (rdS s)).c = 0 → (stG (rdS s)).p = (rdS s).size → (ckF (pgmP (rdS s))).2 ≠ 0 → rmC s = (ckF (pgmP (rdS s))).2 ∧ rmD s = pgm0) := Lib.hid (fun q k n => rm_no hc0 (HG.out q k) n)
    have HE4 : Hid ((stG (rdS s)).c = 0 → (stG (rdS s)).p = (rdS s).size → (ckF (pgmP (rdS s))).2 = 0 → rmC s = 0 ∧ rmD s = pgmP (rdS s)) := Lib.hid (fun q k n => rm_yes hc0 (HG.out q k) n)
    have HPG := Lib.hid (fun R X hx => sprogram_any R (rdS s) hsz X hx)
    have HCK := Lib.hid (fun h X hz => l08Check_any h (pgmP (rdS s)) (pgm_le _ maxLen (by unfold maxLen; omega)) X hz)
    have HPP : Hid (SmPost (rmD s) (rmC s) w = SmPost (rmD s) (rmC s) w) := Lib.hid rfl
    rw [hc0] at HRF
    clear HG hc hc0
    generalize rmD s = RD at *
    generalize rmC s = RC at *
    generalize rdS s = u at *
    generalize stG u = sG at *
    generalize pgmP u = D at *
    generalize hP : SmPost RD RC w = POST at HPP ⊢
    clear HPP
    have HP0 : Hid (∀ c, RC = c → RD = pgm0 → ∀ w', Below w.heap.size w w' → POST (.returned (.tuple #[.agg #[.slice none 0 0, .slice none 0 0, .slice none 0 0, .slice none 0 0], .int .i64 c])) w') := Lib.hid (fun c h1 h2 w' hb => by rw [← hP, h1]; exact sm_nil h2 hb)
    have HP1 : Hid (RC = 0 → RD = D → ∀ (h : PH) w', SQ w.heap.size h D w' → Below w.heap.size w w' → POST (.returned (.tuple #[pV h D, .int .i64 0])) w') := Lib.hid (fun h1 h2 h w' hl hb => by rw [← hP, h1, h2]; exact ⟨h, rfl, hl, hb⟩)
    clear hP
    go_enter Tryz.func36, Tryz.ntmps36
    go_wp2_with fail
    refine Calls.mono (HRF.out _) ?_
    rintro e w1 ⟨rfl, hb⟩
    have HX := Lib.hid (HX.out.to hb)
    have hw1 : w.heap.size < w1.heap.size := (Array.getElem?_eq_some_iff.1 HX.out.box).1
    clear hb HRF
    have HX2 := Lib.hid (HX.out.to (dbox w1 (.cells #[.string u, .int .i64 0, .int .i64 0] 120)))
    have HRB : Hid ((w1.alloc (.cells #[.string u, .int .i64 0, .int .i64 0] 120)).heap[w1.heap.size]? = some (sO u ⟨0, 0⟩)) := Lib.hid (heap_alloc_new w1 _)
    go_wp2_with fail
    refine Calls.mono (HPG.out _ _ HRB.out) ?_
    rintro e w2 ⟨h, rfl, hl, hr, hg⟩
    have hsz2 := hg.size
    have hlt1 : w.heap.size < (w1.alloc (.cells #[.string u, .int .i64 0, .int .i64 0] 120)).heap.size := by simp; omega
    have HXB := Lib.hid (bel_rdg2 HX2.out.bel hg (Nat.le_of_lt hw1))
    have HB := Lib.hid (rdg_at hg HX2.out.box (Nat.ne_of_lt hw1))
    have HL := Lib.hid hl
    have HRD := Lib.hid hr
    clear hl hr hg HX HX2 HRB HPG
    have HL := Lib.hid (HL.out.bel (dbox w2 (pO h D 28)))
    have HXB := Lib.hid (HXB.out.trans ((dbox w2 (pO h D 28)).mono HXB.out.size))
    have HB := Lib.hid (blk_bel HB.out (dbox w2 (pO h D 28)))
    have HRD := Lib.hid (blk_bel HRD.out (dbox w2 (pO h D 28)))
    have HPB := Lib.hid (heap_alloc_new w2 (pO h D 28))
    have hw2 : w.heap.size < w2.heap.size := by
      have := hsz2
      simp at this
      omega
    have hn2 : ¬ w2.heap.size = w.heap.size := by omega
    have hn2' : ¬ w.heap.size = w2.heap.size := by omega
    obtain ⟨⟨d0, d1, d2⟩, _, _, _⟩ := three_c HRD.out
    clear hsz2
    generalize hV : w2.alloc (pO h D 28) = V at *
    have q0 := cell_of_row _ w.heap.size 0 _ _ _ HB.out
    have q1 := cell_of_row _ w.heap.size 1 _ _ _ HB.out
    have q2 := cell_of_row _ w.heap.size 2 _ _ _ HB.out
    have q3 := cell_of_row _ w.heap.size 3 _ _ _ HB.out
    have qf0 := frozen_of_row _ w.heap.size 0 _ _ HB.out
    have qf1 := frozen_of_row _ w.heap.size 1 _ _ HB.out
    have qf2 := frozen_of_row _ w.heap.size 2 _ _ HB.out
    have qf3 := frozen_of_row _ w.heap.size 3 _ _ HB.out
    have p0 := cell_of_row _ w2.heap.size 0 _ _ _ HPB.out
    have p1 := cell_of_row _ w2.heap.size 1 _ _ _ HPB.out
    have p2 := cell_of_row _ w2.heap.size 2 _ _ _ HPB.out
    have p3 := cell_of_row _ w2.heap.size 3 _ _ _ HPB.out
    by_cases hsc : sG.c ≠ 0
    · obtain ⟨e1, e2⟩ := HE1.out hsc
      have HP := Lib.hid (HP0.out _ e1 e2)
      have hcb : (sG.c != 0) = true := by rw [bne_iff_ne]; exact hsc
      clear hsc e1 e2 HP0 HP1 HE1 HE2 HE3 HE4
      generalize sG.c = c at *
      have hr1 : ¬ w.heap.size = w1.heap.size := by omega
      have hr2 : ¬ w1.heap.size = w.heap.size := by omega
      go_wp2
      go_region
      all_goals
        go_wp2
        refine bodyPost_ret (v := .tuple #[.agg #[.slice none 0 0, .slice none 0 0, .slice none 0 0, .slice none 0 0], .int .i64 c]) (by simp [results, Tryz.results36, go_sem, q0, q1, q2, q3]) rfl ?_
        exact HP.out _ (bel_set (bel_set (bel_set (bel_set (HXB.out.drew) (Nat.le_refl _) _) (Nat.le_refl _) _) (Nat.le_refl _) _) (Nat.le_refl _) _)
    have hs0 : sG.c = 0 := by simpa using hsc
    rw [hs0] at d2
    by_cases hsp : sG.p ≠ u.size
    · obtain ⟨e1, e2⟩ := HE2.out hs0 hsp
      have HP := Lib.hid (HP0.out _ e1 e2)
      have hcb : ((sG.p : Int) != (u.size : Int)) = true := by rw [bne_iff_ne]; omega
      clear hsc hs0 hsp e1 e2 HP0 HP1 HE1 HE2 HE3 HE4
      generalize sG.p = pp at *
      go_wp2
      refine bodyPost_ret (v := .tuple #[.agg #[.slice none 0 0, .slice none 0 0, .slice none 0 0, .slice none 0 0], .int .i64 8]) (by simp [results, Tryz.results36, go_sem, q0, q1, q2, q3]) rfl ?_
      exact HP.out _ (bel_set (bel_set (bel_set (bel_set HXB.out (Nat.le_refl _) _) (Nat.le_refl _) _) (Nat.le_refl _) _) (Nat.le_refl _) _)
    have hsp0 : sG.p = u.size := by simpa using hsp
    rw [hsp0] at d1
    have HE3 := Lib.hid (HE3.out hs0 hsp0)
    have HE4 := Lib.hid (HE4.out hs0 hsp0)
    clear hsc hs0 hsp hsp0 HE1 HE2
    go_wp2_with fail
    refine Calls.mono (HCK.out h _ HL.out.lies) ?_
    rintro e w9 ⟨rfl, hb⟩
    have HL := Lib.hid (HL.out.bel hb)
    have HXB := Lib.hid (HXB.out.trans (hb.mono HXB.out.size))
    have HB := Lib.hid (blk_bel HB.out hb)
    have HPB := Lib.hid (blk_bel HPB.out hb)
    clear hb d0 d1 d2 q0 q1 q2 q3 qf0 qf1 qf2 qf3 p0 p1 p2 p3 HCK hV
    have q0 := cell_of_row _ w.heap.size 0 _ _ _ HB.out
    have q1 := cell_of_row _ w.heap.size 1 _ _ _ HB.out
    have q2 := cell_of_row _ w.heap.size 2 _ _ _ HB.out
    have q3 := cell_of_row _ w.heap.size 3 _ _ _ HB.out
    have qf0 := frozen_of_row _ w.heap.size 0 _ _ HB.out
    have qf1 := frozen_of_row _ w.heap.size 1 _ _ HB.out
    have qf2 := frozen_of_row _ w.heap.size 2 _ _ HB.out
    have qf3 := frozen_of_row _ w.heap.size 3 _ _ HB.out
    by_cases hk : (ckF D).2 ≠ 0
    · obtain ⟨e1, e2⟩ := HE3.out hk
      have HP := Lib.hid (HP0.out _ e1 e2)
      have hcb : ((ckF D).2 != 0) = true := by rw [bne_iff_ne]; exact hk
      clear hk e1 e2 HE3 HE4 HP0 HP1
      generalize (ckF D).2 = c at *
      go_wp2
      refine bodyPost_ret (v := .tuple #[.agg #[.slice none 0 0, .slice none 0 0, .slice none 0 0, .slice none 0 0], .int .i64 c]) (by simp [results, Tryz.results36, go_sem, q0, q1, q2, q3]) rfl ?_
      exact HP.out _ (bel_set (bel_set (bel_set (bel_set HXB.out (Nat.le_refl _) _) (Nat.le_refl _) _) (Nat.le_refl _) _) (Nat.le_refl _) _)
    · have hk0 : (ckF D).2 = 0 := by simpa using hk
      obtain ⟨e1, e2⟩ := HE4.out hk0
      have HP := Lib.hid (HP1.out e1 e2 h)
      rw [hk0]
      clear hk hk0 e1 e2 HE3 HE4 HP0 HP1
      have p0 := cell_of_row _ w2.heap.size 0 _ _ _ HPB.out
      have p1 := cell_of_row _ w2.heap.size 1 _ _ _ HPB.out
      have p2 := cell_of_row _ w2.heap.size 2 _ _ _ HPB.out
      have p3 := cell_of_row _ w2.heap.size 3 _ _ _ HPB.out
      go_wp2
      refine bodyPost_ret (v := .tuple #[pV h D, .int .i64 0]) (by simp [results, Tryz.results36, go_sem, q0, q1, q2, q3]) rfl ?_
      refine HP.out _ ?_ (bel_set (bel_set (bel_set (bel_set HXB.out (Nat.le_refl _) _) (Nat.le_refl _) _) (Nat.le_refl _) _) (Nat.le_refl _) _)
      exact ((((HL.out.fr hlt1 _).fr hlt1 _).fr hlt1 _).fr hlt1 _).dn (Nat.le_of_lt hlt1)
end Go.Proofs.YtmpppfibeoghaaaGreatDoor
namespace Go.Proofs.YtmpppfibeoghaaaGreatDoor
open Go.ChangeShapes Go.WideShapes Go.ChangeAt Go.RowKit Go.PlainAid
set_option linter.unusedVariables false
set_option maxRecDepth 100000 in
theorem specReadImage_any (s : ByteArray) (hm : s.size ≤ maxLen) (w : World) : Calls Tryz.prog 11 #[.string s] w (SmPost (rmD s) (rmC s) w) := by
  have HX := Lib.hid (Bx.start w bO)
  unfold maxLen at hm
  by_cases hs : s.size ≤ 65536
  · have HRD := Lib.hid (fun X => l08Read_any s hs X)
    have hle : ¬ (65536 : Int) < (s.size : Int) := by omega
    generalize rmD s = D at *
    generalize rmC s = c at *
    go_enter Tryz.func11, Tryz.ntmps11
    go_wp2_with fail
    refine Calls.mono (HRD.out _) ?_
    rintro e w1 ⟨h, rfl, hq, hb⟩
    have HX := Lib.hid (HX.out.to hb)
    have HB := Lib.hid HX.out.box
    have hlt1 : w.heap.size < (w.alloc bO).heap.size := by simp
    have HQ := Lib.hid hq
    clear hb hq
    have q0 := cell_of_row _ w.heap.size 0 _ _ _ HB.out
    have q1 := cell_of_row _ w.heap.size 1 _ _ _ HB.out
    have q2 := cell_of_row _ w.heap.size 2 _ _ _ HB.out
    have q3 := cell_of_row _ w.heap.size 3 _ _ _ HB.out
    have qf0 := frozen_of_row _ w.heap.size 0 _ _ HB.out
    have qf1 := frozen_of_row _ w.heap.size 1 _ _ HB.out
    have qf2 := frozen_of_row _ w.heap.size 2 _ _ HB.out
    have qf3 := frozen_of_row _ w.heap.size 3 _ _ HB.out
    go_wp2
    refine bodyPost_ret (v := .tuple #[pV h D, .int .i64 c]) (by simp [results, Tryz.results11, go_sem, q0, q1, q2, q3]) rfl ?_
    exact ⟨h, rfl, ((((HQ.out.fr hlt1 _).fr hlt1 _).fr hlt1 _).fr hlt1 _).dn (Nat.le_of_lt hlt1), (bel_set (bel_set (bel_set (bel_set HX.out.bel (Nat.le_refl _) _) (Nat.le_refl _) _) (Nat.le_refl _) _) (Nat.le_refl _) _)⟩
  · have e1 : rmC s = 2 := by unfold rmC; rw [rdC_long hs]; rfl
    have e2 : rmD s = pgm0 := by unfold rmD; rw [rdC_long hs]; rfl
    have hgt : (65536 : Int) < (s.size : Int) := by omega
    have HP : Hid (∀ w', Below w.heap.size w w' → SmPost (rmD s) (rmC s) w (.returned (.tuple #[.agg #[.slice none 0 0, .slice none 0 0, .slice none 0 0, .slice none 0 0], .int .i64 2])) w') := Lib.hid (fun w' hb => by rw [e1]; exact sm_nil e2 hb)
    have HB := Lib.hid HX.out.box
    have q0 := cell_of_row _ w.heap.size 0 _ _ _ HB.out
    have q1 := cell_of_row _ w.heap.size 1 _ _ _ HB.out
    have q2 := cell_of_row _ w.heap.size 2 _ _ _ HB.out
    have q3 := cell_of_row _ w.heap.size 3 _ _ _ HB.out
    have qf0 := frozen_of_row _ w.heap.size 0 _ _ HB.out
    have qf1 := frozen_of_row _ w.heap.size 1 _ _ HB.out
    have qf2 := frozen_of_row _ w.heap.size 2 _ _ HB.out
    have qf3 := frozen_of_row _ w.heap.size 3 _ _ HB.out
    clear e1 e2 hs
    generalize SmPost (rmD s) (rmC s) w = POST at *
    go_enter Tryz.func11, Tryz.ntmps11
    go_wp2
    refine bodyPost_ret (v := .tuple #[.agg #[.slice none 0 0, .slice none 0 0, .slice none 0 0, .slice none 0 0], .int .i64 2]) (by simp [results, Tryz.results11, go_sem, q0, q1, q2, q3]) rfl ?_
    exact HP.out _ HX.out.bel
set_option maxRecDepth 100000 in
set_option maxHeartbeats 2000000 in
theorem law_read (s : ByteArray) (hz : ¬ (1048576 : Int) < (s.size : Int)) (c : Int) (D : Pgm) (hle : D.le 1048576) (hsu : sumP D.rs D.rs.length ≤ 1048576) (W : World) (hs : ∀ w, Calls Tryz.prog 11 #[.string s] w (SmPost D c w)) (hi : ∀ w, Below W.heap.size W w → Calls Tryz.prog 9 #[.string s] w (RmPost D c w)) :
    Calls Tryz.prog 5 #[.string s] W fun e w' => e = .returned (.bool true) ∧ Below W.heap.size W w' := by
  have HE := Lib.hid (fun h h' w hz hy => eqProgram_same h h' D hle w hz hy)
  have HM : Hid (∀ (B hi : Nat) (h : PH) (w : World), POwn B hi h D w → hi ≤ w.heap.size → Calls Tryz.prog 18 #[pV h D, .int .i64 1] w fun e w' => e = .returned (.int .i64 (1 + D.sum)) ∧ POwn B hi h (mkP 1 D) w' ∧ Mid B hi w w') := Lib.hid (fun B hi h w o hh => markProgram_own B hi h D 1 (by omega) hle hsu w o hh)
  have HH := Lib.hid (fun h w hz => heldProgram_any h D 1 (by omega) hle hsu w hz)
  have HS := Lib.hid hs
  have HI := Lib.hid hi
  have hp : ¬ (1 + D.sum < 0) := by unfold Pgm.sum; omega
  have e1 : ((1 + D.sum) != (1 + D.sum)) = false := by simp
  have hcc : (c != c) = false := by simp
  clear hs hi hle hsu
  generalize D.sum = S at *
  go_enter Tryz.func5, Tryz.ntmps5
  go_wp2_with fail
  refine Calls.mono (HS.out _) ?_
  rintro e w1 ⟨h, rfl, ho, hb⟩
  have PS := Lib.hid (ho.lies.below (dbox w1 (pO h D 28)) (Nat.le_refl _))
  have Hb := Lib.hid (hb.trans ((dbox w1 (pO h D 28)).mono hb.size))
  have HB1 := Lib.hid (heap_alloc_new w1 (pO h D 28))
  clear ho hb
  generalize hW1 : w1.alloc (pO h D 28) = V1 at *
  go_wp2_with fail
  refine Calls.mono (HI.out _ Hb.out) ?_
  rintro e w2 ⟨h2, rfl, ho, hb⟩
  have HA2 := dbox w2 (pO h2 D 28)
  have HO := Lib.hid (ho.bel HA2)
  have hb12 := hb.trans (HA2.mono hb.size)
  have HV := Lib.hid hb12
  have HVS := Lib.hid hb.size
  have HB1 := Lib.hid (blk_bel HB1.out hb12)
  have HB2 := Lib.hid (heap_alloc_new w2 (pO h2 D 28))
  have HL2 : Hid (w2.heap.size ≤ (w2.alloc (pO h2 D 28)).heap.size) := Lib.hid HA2.size
  have HN : Hid (w1.heap.size < V1.heap.size) := Lib.hid (by rw [← hW1]; simp)
  clear ho hb hb12 HA2 hW1
  have q0 := cell_of_row _ w1.heap.size 0 _ _ _ HB1.out
  have q1 := cell_of_row _ w1.heap.size 1 _ _ _ HB1.out
  have q2 := cell_of_row _ w1.heap.size 2 _ _ _ HB1.out
  have q3 := cell_of_row _ w1.heap.size 3 _ _ _ HB1.out
  generalize hW2 : w2.alloc (pO h2 D 28) = V2 at *
  have q4 := cell_of_row _ w2.heap.size 0 _ _ _ HB2.out
  have q5 := cell_of_row _ w2.heap.size 1 _ _ _ HB2.out
  have q6 := cell_of_row _ w2.heap.size 2 _ _ _ HB2.out
  have q7 := cell_of_row _ w2.heap.size 3 _ _ _ HB2.out
  go_wp2_with fail
  refine Calls.mono (HE.out _ _ _ HO.out.lies (PS.out.below HV.out (Nat.le_refl _))) ?_
  rintro e w3 ⟨rfl, hb⟩
  have HO := Lib.hid (HO.out.bel hb)
  have HV := Lib.hid (HV.out.trans (hb.mono HV.out.size))
  have HB1 := Lib.hid (blk_bel HB1.out hb)
  have HB2 := Lib.hid (blk_bel HB2.out hb)
  have HL2 := Lib.hid (Nat.le_trans HL2.out hb.size)
  clear q0 q1 q2 q3 q4 q5 q6 q7 hb hW2
  have q4 := cell_of_row _ w2.heap.size 0 _ _ _ HB2.out
  have q5 := cell_of_row _ w2.heap.size 1 _ _ _ HB2.out
  have q6 := cell_of_row _ w2.heap.size 2 _ _ _ HB2.out
  have q7 := cell_of_row _ w2.heap.size 3 _ _ _ HB2.out
  go_wp2_with fail
  refine Calls.mono (HM.out _ _ _ _ HO.out HL2.out) ?_
  rintro e w4 ⟨rfl, ho, hmid⟩
  have HV := Lib.hid (HV.out.trans (hmid.below HV.out.size))
  have HO := Lib.hid ho
  have HB1 := Lib.hid (hmid.at HB1.out (.inl HN.out))
  have HB2 := Lib.hid (hmid.at HB2.out (.inr (Nat.le_refl _)))
  clear ho hmid q4 q5 q6 q7
  have q4 := cell_of_row _ w2.heap.size 0 _ _ _ HB2.out
  have q5 := cell_of_row _ w2.heap.size 1 _ _ _ HB2.out
  have q6 := cell_of_row _ w2.heap.size 2 _ _ _ HB2.out
  have q7 := cell_of_row _ w2.heap.size 3 _ _ _ HB2.out
  go_wp2_with fail
  refine Calls.mono (HH.out _ _ HO.out.lies) ?_
  rintro e w5 ⟨rfl, hb⟩
  have HO := Lib.hid (HO.out.bel hb)
  have HV := Lib.hid (HV.out.trans (hb.mono HV.out.size))
  have HB1 := Lib.hid (blk_bel HB1.out hb)
  have HB2 := Lib.hid (blk_bel HB2.out hb)
  clear hb q4 q5 q6 q7
  go_wp2_with fail
  refine Calls.mono (HI.out _ (Hb.out.trans (HV.out.mono Hb.out.size))) ?_
  rintro e w6 ⟨h3, rfl, ho3, hb⟩
  have HA3 := dbox w6 (pO h3 D 28)
  have hb6 := hb.trans (HA3.mono hb.size)
  have P3 := Lib.hid (ho3.lies.below HA3 (Nat.le_refl _))
  have HO := Lib.hid (HO.out.bel hb6)
  have HV := Lib.hid (HV.out.trans (hb6.mono HV.out.size))
  have HB1 := Lib.hid (blk_bel HB1.out hb6)
  have HB2 := Lib.hid (blk_bel HB2.out hb6)
  have HB3 := Lib.hid (heap_alloc_new w6 (pO h3 D 28))
  clear ho3 hb hb6 HA3
  have q0 := cell_of_row _ w1.heap.size 0 _ _ _ HB1.out
  have q1 := cell_of_row _ w1.heap.size 1 _ _ _ HB1.out
  have q2 := cell_of_row _ w1.heap.size 2 _ _ _ HB1.out
  have q3 := cell_of_row _ w1.heap.size 3 _ _ _ HB1.out
  generalize hW3 : w6.alloc (pO h3 D 28) = V3 at *
  have q4 := cell_of_row _ w6.heap.size 0 _ _ _ HB3.out
  have q5 := cell_of_row _ w6.heap.size 1 _ _ _ HB3.out
  have q6 := cell_of_row _ w6.heap.size 2 _ _ _ HB3.out
  have q7 := cell_of_row _ w6.heap.size 3 _ _ _ HB3.out
  go_wp2_with fail
  refine Calls.mono (HE.out _ _ _ P3.out (PS.out.below HV.out (Nat.le_refl _))) ?_
  rintro e w7 ⟨rfl, hb⟩
  have HO := Lib.hid (HO.out.bel hb)
  have HV := Lib.hid (HV.out.trans (hb.mono HV.out.size))
  have HB2 := Lib.hid (blk_bel HB2.out hb)
  clear hb q0 q1 q2 q3 q4 q5 q6 q7 hW3
  have q4 := cell_of_row _ w2.heap.size 0 _ _ _ HB2.out
  have q5 := cell_of_row _ w2.heap.size 1 _ _ _ HB2.out
  have q6 := cell_of_row _ w2.heap.size 2 _ _ _ HB2.out
  have q7 := cell_of_row _ w2.heap.size 3 _ _ _ HB2.out
  go_wp2_with fail
  refine Calls.mono (HH.out _ _ HO.out.lies) ?_
  rintro e w8 ⟨rfl, hb⟩
  have HV := Lib.hid (HV.out.trans (hb.mono HV.out.size))
  clear hb q4 q5 q6 q7
  go_wp2
  go_ret
  exact ⟨rfl, Hb.out.trans (HV.out.mono Hb.out.size)⟩
theorem FnExactReadImage_came (s : ByteArray) (W : World) (hm : s.size ≤ maxLen) (hf : OpTab W ∧ EffTab W ∧ FbTab W ∧ ∃ aR bE, Sent W aR bE) : Calls Tryz.prog 5 #[.string s] W fun e w' => e = .returned (.bool true) ∧ Below W.heap.size W w' := by
  obtain ⟨h1, h2, h3, aR, bE, hS⟩ := hf
  by_cases hz : (1048576 : Int) < (s.size : Int)
  · go_enter Tryz.func5, Tryz.ntmps5
    go_wp2
    go_ret
    exact ⟨rfl, Below.refl _ _⟩
  · exact law_read s hz (rmC s) (rmD s) (rm_le s 1048576 (by omega)) (rm_sum s) W (fun w => specReadImage_any s hm w) (fun w hb => implReadImage_any s hm aR bE w (VTabs.below ⟨h1, h2, h3⟩ hb (Nat.le_refl _)) (hS.below hb))
end Go.Proofs.YtmpppfibeoghaaaGreatDoor
