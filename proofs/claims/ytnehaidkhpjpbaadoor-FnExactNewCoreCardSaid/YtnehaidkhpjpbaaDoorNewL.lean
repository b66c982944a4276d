/- The exact law of NewCore. (Written by tools/gen_newclaw.py.) -/
import Derived.Test.YtnehaidkhpjpbaaDoorNewM
namespace Go.Proofs.YtnehaidkhpjpbaaDoor
open Go.ChangeShapes Go.WideShapes Go.ChangeAt Go.RowKit
set_option linter.unusedVariables false
theorem nl_rlt {w : World} {B size n c : Nat} {e : TypeId} {a : Option Addr} {xs : List Value} (h : w.ownsRow B e size (.slice a n c) n xs) : ∀ x, a = some x → x.block < w.heap.size := fun x e => (h.lt x.block (by rw [e]; rfl)).2
theorem nl_rge {w : World} {B size n c : Nat} {e : TypeId} {a : Option Addr} {xs : List Value} (h : w.ownsRow B e size (.slice a n c) n xs) : ∀ x, a = some x → B ≤ x.block := fun x e => (h.lt x.block (by rw [e]; rfl)).1
theorem nl_off {w w' : World} {B size n c : Nat} {row : Option Nat} {e : TypeId} {a : Option Addr} {xs : List Value} (h : w.ownsRow B e size (.slice a n c) n xs) (hg : w.grownBy w' row) (hd : ∀ x, a = some x → row ≠ some x.block) : w'.ownsRow B e size (.slice a n c) n xs :=
  h.kept hg (by
    cases a with
    | none => exact .inl rfl
    | some x => exact .inr (fun q => hd x rfl q.symm))
theorem nl_blk {w w' : World} {k : Nat} {O : Obj} {row : Option Nat} (h : w.heap[k]? = some O) (hg : w.grownBy w' row) (hr : row ≠ some k) : w'.heap[k]? = some O := (hg.block k (Array.getElem?_eq_some_iff.1 h).1 hr.symm).trans h
theorem newRows_one (ls : List (List Ins)) (ks : List Int) (r : Int) : (newRows ls ks r).length ≤ 1 ∧ ((newRows ls ks r).length = 1 → ∃ x : Int, flat frC (newRows ls ks r) = [.int .i64 x, .int .i64 0, .slice none 0 0]) := by
  unfold newRows newR
  split
  · split
    · exact ⟨by simp, fun h => by simp at h⟩
    · exact ⟨by simp, fun _ => ⟨_, rfl⟩⟩
  · exact ⟨by simp, fun h => by simp at h⟩
theorem newRF (ls : List (List Ins)) (ks : List Int) (r : Int) : (newRows ls ks r).length = (newFs ls ks r).length := by
  unfold newRows newFs
  split
  · rw [newR_len, newF_len]
  · rfl
theorem newFs_le (ls : List (List Ins)) (ks : List Int) (r : Int) : (⟨newFs ls ks r, []⟩ : Cor).le 1048576 := by
  have h1 := (newRows_one ls ks r).1
  rw [newRF] at h1
  refine ⟨by show (newFs ls ks r).length ≤ _; omega, by simp, fun j hj => ?_⟩
  have hj' : j < (newFs ls ks r).length := hj
  obtain rfl : j = 0 := by omega
  show ((newFs ls ks r).getD 0 fm0).2.2.length ≤ _
  unfold newFs newF
  split
  · split <;> simp [fm0]
  · simp [fm0]
theorem newForm (ls : List (List Ins)) (ks : List Int) (r : Int) : (newRows ls ks r = [] ∧ newFs ls ks r = []) ∨ ∃ x : Int, newRows ls ks r = [(x, 0, none, 0, 0)] ∧ newFs ls ks r = [(x, 0, [])] := by
  unfold newRows newFs newR newF
  split
  · split
    · exact .inl ⟨rfl, rfl⟩
    · exact .inr ⟨_, rfl, rfl⟩
  · exact .inl ⟨rfl, rfl⟩
theorem newLies {w : World} {B c : Nat} {a : Option Addr} {ls : List (List Ins)} {ks : List Int} {r : Int} (h : w.ownsRow B 149 3 (.slice a (newRows ls ks r).length c) (newRows ls ks r).length (flat frC (newRows ls ks r))) : CLies w ⟨a, none, c, 0⟩ ⟨newFs ls ks r, []⟩ := by
  rcases newForm ls ks r with ⟨e1, e2⟩ | ⟨x, e1, e2⟩
  · rw [e2]
    exact ⟨Frs.nil _ _, .inl rfl⟩
  · rw [e1] at h
    rw [e2]
    refine ⟨⟨[(x, 0, none, 0, 0)], rfl, lies_own h, fun j hj => ?_⟩, .inl rfl⟩
    have hj' : j < 1 := hj
    obtain rfl : j = 0 := by omega
    exact ⟨rfl, rfl, rfl, .inl rfl⟩
set_option maxRecDepth 100000 in
set_option maxHeartbeats 4000000 in
theorem FnExactNewCore_came (a : Option Addr) (n c : Nat) (k : Option Addr) (m kc : Nat) (r : Int) (W : World) (h : Came Tryd.prog W 33 [.slice a n c]) (hk : Came Tryd.prog W 23 [.slice k m kc]) (_ : (Lit.int .i64 r).wf = true) (hf : OpTab W ∧ EffTab W ∧ FbTab W) :
    Calls Tryd.prog 9 #[.slice a n c, .slice k m kc, .int .i64 r] W fun e w' => e = .returned (.bool true) ∧ Below W.heap.size W w' := by
  obtain ⟨hT, hE, hF⟩ := hf
  obtain ⟨hm, ls, rfl, hz, hlm⟩ := came_rts h
  obtain ⟨hm2, _, ks, rfl, hy⟩ := came_ks hk
  clear h hk
  have hmm := hm
  have hmm2 := hm2
  unfold maxLen at hmm hmm2
  by_cases hk2 : (1048576 : Int) < ks.length
  · clear hz hy hT hE hF hm hm2 hlm
    generalize ls.length = n at *
    generalize ks.length = m at *
    go_enter Tryd.func9, Tryd.ntmps9
    go_wp2
    go_ret
    exact ⟨rfl, Below.refl _ _⟩
  have Hz := Lib.hid hz
  have Hy := Lib.hid hy
  have HT : Hid (∀ w, Below W.heap.size W w → VTabs w) := Lib.hid (fun w hb => (VTabs.mk hT hE hF).below hb (Nat.le_refl _))
  have HS : Hid (Calls Tryd.prog 18 #[.slice a ls.length c, .int .i64 1048576] W fun e w' => ∃ v : Int, e = .returned (.int .i64 v) ∧ Below W.heap.size W w' ∧ (v < 0 ∨ 0 ≤ v ∧ v ≤ 1048576 ∧ ls.length + sumL ls ls.length ≤ 1048576)) := Lib.hid ((szRoutineS_sum ls a c 1048576 (by omega) hm hlm W hz).mono fun e w' h => h)
  have HA := Lib.hid (fun (hs : ls.length + sumL ls ls.length ≤ 1048576) w hz => (toRoutineSO_any ls a c (by omega) (fun j hj => by have := sumL_each hj; omega) w hz).mono (R' := fun e w' => e = .returned (.slice (some ⟨w.heap.size, 0, none⟩) ls.length ls.length) ∧ ROwn w.heap.size w'.heap.size ls w' ∧ Below w.heap.size w w') fun e w' h => h)
  have HA2 := Lib.hid (fun w hz => toIntS_any ks k kc (by omega) w hz)
  have HB0 := Lib.hid (fun a c k kc w hz hy => (specNewCore_any a c ls ks k kc r hm hlm hm2 w hz hy).mono (R' := fun e w' => ∃ H : CH, e = .returned (.tuple #[.agg #[.slice H.a0 (newRows ls ks r).length H.c0, .slice H.a1 0 H.c1], .int .i64 (newC ls ks r)]) ∧ CLies w' H ⟨newFs ls ks r, []⟩ ∧ Below w.heap.size w w') fun e w' ⟨H, h1, h2, h3⟩ => ⟨H, by rw [h1, newRF]; rfl, h2, h3⟩)
  have HC := Lib.hid (fun a c k kc w ht hz hy => (newCore_any a c ls ks k kc r hm hlm hm2 w ht hz hy).mono (R' := fun e w' => ∃ a c, e = .returned (.tuple #[.agg #[.slice a (newRows ls ks r).length c, .slice none 0 0], .int .i64 (newC ls ks r)]) ∧ w'.ownsRow w.heap.size 149 3 (.slice a (newRows ls ks r).length c) (newRows ls ks r).length (flat frC (newRows ls ks r)) ∧ Below w.heap.size w w') fun e w' h => h)
  have HEI := Lib.hid (fun (hs : ls.length + sumL ls ls.length ≤ 1048576) a b c d w hz hy => eqRoutineS_same ls a b c d (by omega) (fun j hj => by have := sumL_each hj; omega) w hz hy)
  have HEK := Lib.hid (fun a b c d w hz hy => eqIntS_same ks a b c d (by omega) w hz hy)
  have HE := Lib.hid (fun (a : Option Addr) (c : Nat) (H : CH) w hz hy => (show Calls Tryd.prog 43 #[.agg #[.slice a (newRows ls ks r).length c, .slice none 0 0], .agg #[.slice H.a0 (newRows ls ks r).length H.c0, .slice H.a1 0 H.c1]] w (fun e w' => e = .returned (.bool true) ∧ Below w.heap.size w w') from by
    have := eqCore_same ⟨a, none, c, 0⟩ H ⟨newFs ls ks r, []⟩ (newFs_le ls ks r) w hz hy
    rw [newRF]
    exact this))
  have HNL := Lib.hid (fun (w : World) (B c : Nat) (a : Option Addr) h => @newLies w B c a ls ks r h)
  have hone := newRows_one ls ks r
  have HMR := Lib.hid (fun (hs : ls.length + sumL ls ls.length ≤ 1048576) B hi w ho => markRoutineS_any B hi ls 1 (by omega) (by omega) (by omega) w ho)
  have hsb : ∀ (hs : ls.length + sumL ls ls.length ≤ 1048576), sumL ls ls.length ≤ 1048576 := fun hs => by omega
  clear hz hy hT hE hF hm hm2 hlm
  generalize newC ls ks r = y at *
  generalize sumL ls ls.length = S at *
  have e2 : (y != y) = false := by simp
  generalize newFs ls ks r = FS at *
  obtain ⟨ho1, ho2⟩ := hone
  generalize newRows ls ks r = RS at *
  generalize flat frC RS = XS at *
  generalize RS.length = u at *
  have HO2 := Lib.hid ho2
  have HSB := Lib.hid hsb
  clear ho2 hsb
  generalize ls.length = n at *
  generalize hq : ks.length = m at *
  have HQ := Lib.hid hq
  clear hq
  go_enter Tryd.func9, Tryd.ntmps9
  go_wp2_with fail
  refine Calls.mono HS.out ?_
  rintro e w0 ⟨v, rfl, hb, hv⟩
  have HB := Lib.hid hb
  clear hb
  by_cases hv0 : v < 0
  · clear hv
    go_wp2
    go_ret
    exact ⟨rfl, HB.out⟩
  obtain ⟨hv1, hv2, hsum⟩ : 0 ≤ v ∧ v ≤ 1048576 ∧ n + S ≤ 1048576 := by
    rcases hv with h | h
    · exact absurd h hv0
    · exact h
  have HSU := Lib.hid hsum
  have hS := HSB.out hsum
  clear hv hsum
  go_wp2_with fail
  refine Calls.mono (HA.out HSU.out _ (Hz.out.below HB.out)) ?_
  rintro e w1 ⟨rfl, ho, hb⟩
  have HB := Lib.hid (HB.out.trans (hb.mono HB.out.size))
  have S0 := Lib.hid (ho.routs)
  clear ho hb
  go_wp2_with fail
  refine Calls.mono (HA2.out _ (Hy.out.below HB.out (Nat.le_refl _))) ?_
  rintro e w2 ⟨rfl, ho, hb⟩
  have HB := Lib.hid (HB.out.trans (hb.mono HB.out.size))
  have S0 := Lib.hid (S0.out.below hb)
  have S1 := Lib.hid (lies_own ho)
  clear ho hb
  go_wp2_with fail
  refine Calls.mono (HB0.out _ _ _ _ _ S0.out S1.out) ?_
  rintro e w3 ⟨H, rfl, ho, hb⟩
  have HB := Lib.hid (HB.out.trans (hb.mono HB.out.size))
  have hd := dbox w3 (.cells #[.slice H.a0 u H.c0, .slice H.a1 0 H.c1] 62)
  have HC0 := Lib.hid (ho.below hd (Nat.le_refl _))
  have X8 := Lib.hid (heap_alloc_new w3 (.cells #[.slice H.a0 u H.c0, .slice H.a1 0 H.c1] 62))
  have HB := Lib.hid (HB.out.trans (hd.mono HB.out.size))
  have HW : Hid (Below (w3.alloc (.cells #[.slice H.a0 u H.c0, .slice H.a1 0 H.c1] 62)).heap.size (w3.alloc (.cells #[.slice H.a0 u H.c0, .slice H.a1 0 H.c1] 62)) (w3.alloc (.cells #[.slice H.a0 u H.c0, .slice H.a1 0 H.c1] 62))) := Lib.hid (Below.refl _ _)
  have H3 := Lib.hid (show W.heap.size ≤ (w3.alloc (.cells #[.slice H.a0 u H.c0, .slice H.a1 0 H.c1] 62)).heap.size from HB.out.size)
  have H8 := Lib.hid (show w3.heap.size < (w3.alloc (.cells #[.slice H.a0 u H.c0, .slice H.a1 0 H.c1] 62)).heap.size by simp)
  clear ho hb hd
  have HLV := Lib.hid (fun w' (hb : Below (w3.alloc (.cells #[.slice H.a0 u H.c0, .slice H.a1 0 H.c1] 62)).heap.size (w3.alloc (.cells #[.slice H.a0 u H.c0, .slice H.a1 0 H.c1] 62)) w') => HC0.out.below hb (Nat.le_refl _))
  generalize hA3 : w3.alloc (.cells #[.slice H.a0 u H.c0, .slice H.a1 0 H.c1] 62) = A3 at *
  go_wp2_with fail
  refine Calls.mono (HA.out HSU.out _ (Hz.out.below HB.out)) ?_
  rintro e w4 ⟨rfl, ho, hb⟩
  have HB := Lib.hid (HB.out.trans (hb.mono HB.out.size))
  have X8 := Lib.hid (blk_bel X8.out hb)
  have HW := Lib.hid (HW.out.trans (hb.mono HW.out.size))
  have X0 := Lib.hid (ho)
  have X0B := Lib.hid (show A3.heap.size < w4.heap.size from by obtain ⟨rs, _, h2, _⟩ := ho.rows; exact (h2.lt _ rfl).2)
  clear ho hb
  go_wp2_with fail
  refine Calls.mono (HA2.out _ (Hy.out.below HB.out (Nat.le_refl _))) ?_
  rintro e w5 ⟨rfl, ho, hb⟩
  have HB := Lib.hid (HB.out.trans (hb.mono HB.out.size))
  have X8 := Lib.hid (blk_bel X8.out hb)
  have HW := Lib.hid (HW.out.trans (hb.mono HW.out.size))
  have X0 := Lib.hid (X0.out.bel hb)
  have X1 := Lib.hid (ho)
  have X1B := Lib.hid (show w4.heap.size < w5.heap.size from (ho.lt _ rfl).2)
  clear ho hb
  go_wp2_with fail
  refine Calls.mono (HC.out _ _ _ _ _ (HT.out _ HB.out) X0.out.routs (lies_own X1.out)) ?_
  rintro e w6 ⟨a6, c6, rfl, ho, hb⟩
  have HB := Lib.hid (HB.out.trans (hb.mono HB.out.size))
  have X8 := Lib.hid (blk_bel X8.out hb)
  have HW := Lib.hid (HW.out.trans (hb.mono HW.out.size))
  have X0 := Lib.hid (X0.out.bel hb)
  have X1 := Lib.hid (own_bl X1.out hb)
  have GB := Lib.hid (nl_rge ho)
  have G6 := Lib.hid (nl_rlt ho)
  have HS6 := Lib.hid (show w5.heap.size ≤ w6.heap.size from hb.size)
  have hd := dbox w6 (.cells #[.slice a6 u c6, .slice none 0 0] 62)
  have G := Lib.hid ho
  have HB := Lib.hid (HB.out.trans (hd.mono HB.out.size))
  have X8 := Lib.hid (blk_bel X8.out hd)
  have HW := Lib.hid (HW.out.trans (hd.mono HW.out.size))
  have X0 := Lib.hid (X0.out.bel hd)
  have X1 := Lib.hid (own_bl X1.out hd)
  have G := Lib.hid (own_bl G.out hd)
  have X12 := Lib.hid (heap_alloc_new w6 (.cells #[.slice a6 u c6, .slice none 0 0] 62))
  clear ho hb hd
  have q0 := cell_of_row _ w6.heap.size 0 _ _ _ X12.out
  have q1 := cell_of_row _ w6.heap.size 1 _ _ _ X12.out
  have p0 := cell_of_row _ w3.heap.size 0 _ _ _ X8.out
  have p1 := cell_of_row _ w3.heap.size 1 _ _ _ X8.out
  go_wp2_with fail
  refine Calls.mono (HE.out _ _ _ _ (HNL.out _ _ _ _ G.out) (HLV.out _ HW.out)) ?_
  rintro e w7 ⟨rfl, hb⟩
  have HB := Lib.hid (HB.out.trans (hb.mono HB.out.size))
  have X8 := Lib.hid (blk_bel X8.out hb)
  have HW := Lib.hid (HW.out.trans (hb.mono HW.out.size))
  have X0 := Lib.hid (X0.out.bel hb)
  have X1 := Lib.hid (own_bl X1.out hb)
  have G := Lib.hid (own_bl G.out hb)
  have X12 := Lib.hid (blk_bel X12.out hb)
  clear hb q0 q1 p0 p1
  go_wp2_with fail
  refine Calls.mono (HA.out HSU.out _ (Hz.out.below HB.out)) ?_
  rintro e w8 ⟨rfl, ho, hb⟩
  have HB := Lib.hid (HB.out.trans (hb.mono HB.out.size))
  have X8 := Lib.hid (blk_bel X8.out hb)
  have HW := Lib.hid (HW.out.trans (hb.mono HW.out.size))
  have X0 := Lib.hid (X0.out.bel hb)
  have X1 := Lib.hid (own_bl X1.out hb)
  have G := Lib.hid (own_bl G.out hb)
  have X12 := Lib.hid (blk_bel X12.out hb)
  have T := Lib.hid (ho.routs)
  clear ho hb
  go_wp2_with fail
  refine Calls.mono (HEI.out HSU.out _ _ _ _ _ X0.out.routs T.out) ?_
  rintro e w9 ⟨rfl, hb⟩
  have HB := Lib.hid (HB.out.trans (hb.mono HB.out.size))
  have X8 := Lib.hid (blk_bel X8.out hb)
  have HW := Lib.hid (HW.out.trans (hb.mono HW.out.size))
  have X0 := Lib.hid (X0.out.bel hb)
  have X1 := Lib.hid (own_bl X1.out hb)
  have G := Lib.hid (own_bl G.out hb)
  have X12 := Lib.hid (blk_bel X12.out hb)
  clear hb
  go_wp2_with fail
  refine Calls.mono (HA2.out _ (Hy.out.below HB.out (Nat.le_refl _))) ?_
  rintro e w10 ⟨rfl, ho, hb⟩
  have HB := Lib.hid (HB.out.trans (hb.mono HB.out.size))
  have X8 := Lib.hid (blk_bel X8.out hb)
  have HW := Lib.hid (HW.out.trans (hb.mono HW.out.size))
  have X0 := Lib.hid (X0.out.bel hb)
  have X1 := Lib.hid (own_bl X1.out hb)
  have G := Lib.hid (own_bl G.out hb)
  have X12 := Lib.hid (blk_bel X12.out hb)
  have T := Lib.hid (lies_own ho)
  clear ho hb
  go_wp2_with fail
  refine Calls.mono (HEK.out _ _ _ _ _ (lies_own X1.out) T.out) ?_
  rintro e w11 ⟨rfl, hb⟩
  have HB := Lib.hid (HB.out.trans (hb.mono HB.out.size))
  have X8 := Lib.hid (blk_bel X8.out hb)
  have HW := Lib.hid (HW.out.trans (hb.mono HW.out.size))
  have X0 := Lib.hid (X0.out.bel hb)
  have X1 := Lib.hid (own_bl X1.out hb)
  have G := Lib.hid (own_bl G.out hb)
  have X12 := Lib.hid (blk_bel X12.out hb)
  clear hb
  go_wp2_with fail
  refine Calls.mono (HMR.out HSU.out _ _ _ X0.out) ?_
  rintro e w12 ⟨rfl, hg⟩
  have HBL := Lib.hid (hg.below HW.out.size)
  have HB := Lib.hid (HB.out.trans (HBL.out.mono H3.out))
  have X1 := Lib.hid (hg.own X1.out (fun x e => by simp only [Option.some.injEq] at e; rw [← e]; exact .inr (Nat.le_refl _)))
  have G := Lib.hid (hg.own G.out (fun x e => by have h1 := GB.out x e; have h3 := X1B.out; exact .inr (by omega)))
  have X12 := Lib.hid (hg.at X12.out (.inr (by have h1 := HS6.out; have h3 := X1B.out; omega)))
  have X8 := Lib.hid (hg.at X8.out (.inl H8.out))
  have HW := Lib.hid (HW.out.trans HBL.out)
  clear hg
  go_wp2_with fail
  refine Calls.mono (markIntS_own _ _ _ _ _ (1 + 2 * S) (by omega) (by omega) _ X1.out) ?_
  rintro e w13 ⟨rfl, _, hg⟩
  have HB := Lib.hid (HB.out.grown hg HB.out.size (fun q hq => by have h1 := X0B.out; have h2 := H3.out; simp only [Value.ownBlock, Option.some.injEq] at hq; omega))
  have HW := Lib.hid (HW.out.grown hg HW.out.size (fun q hq => by have h1 := X0B.out; simp only [Value.ownBlock, Option.some.injEq] at hq; omega))
  have G := Lib.hid (nl_off G.out hg (fun x e q => by have h1 := GB.out x e; have h3 := X1B.out; simp only [Value.ownBlock, Option.some.injEq] at q; omega))
  have X12 := Lib.hid (nl_blk X12.out hg (fun q => by have h1 := HS6.out; have h3 := X1B.out; simp only [Value.ownBlock, Option.some.injEq] at q; omega))
  have X8 := Lib.hid (nl_blk X8.out hg (fun q => by have h1 := H8.out; have h3 := X0B.out; simp only [Value.ownBlock, Option.some.injEq] at q; omega))
  clear hg
  have hk1 : ¬ ((1 : Int) + 2 * S + m < 0) := by omega
  have q0 := cell_of_row w13 w6.heap.size 0 _ _ _ X12.out
  have q1 := cell_of_row w13 w6.heap.size 1 _ _ _ X12.out
  have p0 := cell_of_row w13 w3.heap.size 0 _ _ _ X8.out
  have p1 := cell_of_row w13 w3.heap.size 1 _ _ _ X8.out
  go_wp2_with fail
  refine Calls.mono (HE.out _ _ _ _ (HNL.out _ _ _ _ G.out) (HLV.out _ HW.out)) ?_
  rintro e w14 ⟨rfl, hb⟩
  have HB := Lib.hid (HB.out.trans (hb.mono HB.out.size))
  have X8 := Lib.hid (blk_bel X8.out hb)
  have HW := Lib.hid (HW.out.trans (hb.mono HW.out.size))
  have G := Lib.hid (own_bl G.out hb)
  have X12 := Lib.hid (blk_bel X12.out hb)
  clear hb q0 q1 p0 p1
  have q0 := cell_of_row w14 w6.heap.size 0 _ _ _ X12.out
  have q1 := cell_of_row w14 w6.heap.size 1 _ _ _ X12.out
  obtain ⟨x0, hx0⟩ : ∃ x : Int, u = 1 → XS = [.int .i64 x, .int .i64 0, .slice none 0 0] := by
    by_cases hu : u = 1
    · obtain ⟨x, hx⟩ := HO2.out hu
      exact ⟨x, fun _ => hx⟩
    · exact ⟨0, fun h => absurd h hu⟩
  have HXX := Lib.hid hx0
  clear hx0
  go_wp2_with fail
  refine Calls.mono (markNew_any _ _ _ _ x0 0 _ (by omega) HXX.out _ G.out) ?_
  rintro e w15 ⟨rfl, ho, hg⟩
  have HB := Lib.hid (HB.out.grown hg HB.out.size (fun q hq => by
    cases a6 with
    | none => cases hq
    | some x => simp only [Value.ownBlock, Option.some.injEq] at hq; have h1 := GB.out x rfl; have h2 := X0B.out; have h3 := X1B.out; have h4 := H3.out; omega))
  have HW := Lib.hid (HW.out.grown hg HW.out.size (fun q hq => by
    cases a6 with
    | none => cases hq
    | some x => simp only [Value.ownBlock, Option.some.injEq] at hq; have h1 := GB.out x rfl; have h2 := X0B.out; have h3 := X1B.out; omega))
  have X8 := Lib.hid (nl_blk X8.out hg (fun q => by
    cases a6 with
    | none => cases q
    | some x => simp only [Value.ownBlock, Option.some.injEq] at q; have h1 := GB.out x rfl; have h2 := X0B.out; have h3 := X1B.out; have h4 := H8.out; omega))
  have X12 := Lib.hid (nl_blk X12.out hg (fun q => by
    cases a6 with
    | none => cases q
    | some x => simp only [Value.ownBlock, Option.some.injEq] at q; have h1 := G6.out x rfl; omega))
  have G := Lib.hid ho
  clear ho hg q0 q1
  have hk2 : ¬ ((1 : Int) + 2 * u < 0) := by omega
  have hk3 : ((1 : Int) + 2 * u != 1 + 2 * u) = false := by simp
  have q0 := cell_of_row w15 w6.heap.size 0 _ _ _ X12.out
  have q1 := cell_of_row w15 w6.heap.size 1 _ _ _ X12.out
  go_wp2_with fail
  refine Calls.mono (heldNew_any _ _ _ (by omega) _ (lies_own G.out)) ?_
  rintro e w16 ⟨rfl, hb⟩
  have HB := Lib.hid (HB.out.trans (hb.mono HB.out.size))
  have X8 := Lib.hid (blk_bel X8.out hb)
  have HW := Lib.hid (HW.out.trans (hb.mono HW.out.size))
  have G := Lib.hid (own_bl G.out hb)
  have X12 := Lib.hid (blk_bel X12.out hb)
  clear hb q0 q1
  go_wp2_with fail
  refine Calls.mono (HA.out HSU.out _ (Hz.out.below HB.out)) ?_
  rintro e w17 ⟨rfl, ho, hb⟩
  have HB := Lib.hid (HB.out.trans (hb.mono HB.out.size))
  have X8 := Lib.hid (blk_bel X8.out hb)
  have HW := Lib.hid (HW.out.trans (hb.mono HW.out.size))
  have G := Lib.hid (own_bl G.out hb)
  have X12 := Lib.hid (blk_bel X12.out hb)
  have S0 := Lib.hid (ho.routs)
  clear ho hb
  go_wp2_with fail
  refine Calls.mono (HA2.out _ (Hy.out.below HB.out (Nat.le_refl _))) ?_
  rintro e w18 ⟨rfl, ho, hb⟩
  have HB := Lib.hid (HB.out.trans (hb.mono HB.out.size))
  have X8 := Lib.hid (blk_bel X8.out hb)
  have HW := Lib.hid (HW.out.trans (hb.mono HW.out.size))
  have G := Lib.hid (own_bl G.out hb)
  have X12 := Lib.hid (blk_bel X12.out hb)
  have S0 := Lib.hid (S0.out.below hb)
  have S1 := Lib.hid (lies_own ho)
  clear ho hb
  go_wp2_with fail
  refine Calls.mono (HC.out _ _ _ _ _ (HT.out _ HB.out) S0.out S1.out) ?_
  rintro e w19 ⟨a19, c19, rfl, ho, hb⟩
  have HB := Lib.hid (HB.out.trans (hb.mono HB.out.size))
  have X8 := Lib.hid (blk_bel X8.out hb)
  have HW := Lib.hid (HW.out.trans (hb.mono HW.out.size))
  have G := Lib.hid (own_bl G.out hb)
  have X12 := Lib.hid (blk_bel X12.out hb)
  have hd := dbox w19 (.cells #[.slice a19 u c19, .slice none 0 0] 62)
  have G2 := Lib.hid ho
  have HB := Lib.hid (HB.out.trans (hd.mono HB.out.size))
  have X8 := Lib.hid (blk_bel X8.out hd)
  have HW := Lib.hid (HW.out.trans (hd.mono HW.out.size))
  have G := Lib.hid (own_bl G.out hd)
  have X12 := Lib.hid (blk_bel X12.out hd)
  have G2 := Lib.hid (own_bl G2.out hd)
  have X17 := Lib.hid (heap_alloc_new w19 (.cells #[.slice a19 u c19, .slice none 0 0] 62))
  clear ho hb hd
  have q0 := cell_of_row _ w19.heap.size 0 _ _ _ X17.out
  have q1 := cell_of_row _ w19.heap.size 1 _ _ _ X17.out
  have p0 := cell_of_row _ w3.heap.size 0 _ _ _ X8.out
  have p1 := cell_of_row _ w3.heap.size 1 _ _ _ X8.out
  go_wp2_with fail
  refine Calls.mono (HE.out _ _ _ _ (HNL.out _ _ _ _ G2.out) (HLV.out _ HW.out)) ?_
  rintro e w20 ⟨rfl, hb⟩
  have HB := Lib.hid (HB.out.trans (hb.mono HB.out.size))
  have X8 := Lib.hid (blk_bel X8.out hb)
  have HW := Lib.hid (HW.out.trans (hb.mono HW.out.size))
  have G := Lib.hid (own_bl G.out hb)
  have X12 := Lib.hid (blk_bel X12.out hb)
  have G2 := Lib.hid (own_bl G2.out hb)
  have X17 := Lib.hid (blk_bel X17.out hb)
  clear hb q0 q1 p0 p1
  have q0 := cell_of_row w20 w6.heap.size 0 _ _ _ X12.out
  have q1 := cell_of_row w20 w6.heap.size 1 _ _ _ X12.out
  go_wp2_with fail
  refine Calls.mono (heldNew_any _ _ _ (by omega) _ (lies_own G.out)) ?_
  rintro e w21 ⟨rfl, hb⟩
  have HB := Lib.hid (HB.out.trans (hb.mono HB.out.size))
  have X8 := Lib.hid (blk_bel X8.out hb)
  have HW := Lib.hid (HW.out.trans (hb.mono HW.out.size))
  have G := Lib.hid (own_bl G.out hb)
  have X12 := Lib.hid (blk_bel X12.out hb)
  have G2 := Lib.hid (own_bl G2.out hb)
  have X17 := Lib.hid (blk_bel X17.out hb)
  clear hb
  go_wp2
  go_ret
  exact ⟨rfl, HB.out⟩
end Go.Proofs.YtnehaidkhpjpbaaDoor
