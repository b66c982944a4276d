/- The exact law of FlatOf. (Written by tools/gen_flatlaw.py.) -/
import Derived.Test.YtnehaidkhpjpbaaDoorFlatS
import Derived.Test.YtnehaidkhpjpbaaDoorMatchL
import Derived.Test.YtnehaidkhpjpbaaDoorFlatRow
namespace Go.Proofs.YtnehaidkhpjpbaaDoor
open Go.ChangeShapes Go.WideShapes Go.ChangeAt Go.RowKit
set_option linter.unusedVariables false
theorem own_rlt' {w : World} {B size n c : Nat} {e : TypeId} {a : Option Addr} {xs : List Value} (h : w.ownsRow B e size (.slice a n c) n xs) : ∀ x, a = some x → x.block < w.heap.size := fun x e => (h.lt x.block (by rw [e]; rfl)).2
theorem own_rge' {w : World} {B size n c : Nat} {e : TypeId} {a : Option Addr} {xs : List Value} (h : w.ownsRow B e size (.slice a n c) n xs) : ∀ x, a = some x → B ≤ x.block := fun x e => (h.lt x.block (by rw [e]; rfl)).1
theorem own_off {w w' : World} {B size n c : Nat} {row : Option Nat} {e : TypeId} {a : Option Addr} {xs : List Value} (h : w.ownsRow B e size (.slice a n c) n xs) (hg : w.grownBy w' row) (hd : ∀ x, a = some x → row ≠ some x.block) : w'.ownsRow B e size (.slice a n c) n xs :=
  h.kept hg (by
    cases a with
    | none => exact .inl rfl
    | some x => exact .inr (fun q => hd x rfl q.symm))
theorem lies_off {w w' : World} {row : Option Nat} {a : Option Addr} {cs : List Value} (h : Lies w a cs) (g : w.grownBy w' row) (hr : ∀ x, a = some x → row ≠ some x.block) : Lies w' a cs := h.grown g (fun b o e => hr _ e)
theorem markFlatS_own (B n c : Nat) (a : Option Addr) (xs : List Value) (m : Int) (hm : 0 ≤ m ∧ m ≤ 1000000000) (hn : n ≤ 1048576) (w : World) (ho : w.ownsRow B 116 3 (.slice a n c) n xs) :
    Calls Tryd.prog 39 #[.slice a n c, .int .i64 m] w fun e w' => e = .returned (.int .i64 (m + 3 * n)) ∧ w'.ownsRow B 116 3 (.slice a n c) n (flat f3C (marks3 m n)) ∧ w.grownBy w' (Value.ownBlock (.slice a n c)) := by
  rcases own_form ho with ⟨hv, rfl⟩ | ⟨g, c', hv⟩
  · simp only [Value.slice.injEq] at hv
    obtain ⟨rfl, _, rfl⟩ := hv
    clear ho
    go_enter Tryd.func39, Tryd.ntmps39
    go_wp2
    go_loop [1, 5] (fun q i => q = .int .i64 m ∧ i = .int .i64 0) (fun _ i => 0)
    case atStart => exact ⟨rfl, rfl⟩
    case round =>
      obtain ⟨rfl, rfl⟩ := hrel
      go_wp2
      go_ret
      exact ⟨by simp, World.ownsRow_nil _ _ _ _, World.grownBy.refl _ _⟩
  · simp only [Value.slice.injEq] at hv
    obtain ⟨rfl, _, rfl⟩ := hv
    exact (markFlatS_any B g n c xs m hm hn w ho).mono fun _ _ h => h
set_option maxHeartbeats 2000000 in
theorem FnExactFlatOf_came (a : Option Addr) (n c : Nat) (k : Option Addr) (m kc : Nat) (r : Int) (W : World) (h : Came Tryd.prog W 22 [.slice a n c]) (hk : Came Tryd.prog W 23 [.slice k m kc]) (_ : (Lit.int .i64 r).wf = true) (hf : OpTab W ∧ EffTab W ∧ FbTab W) :
    Calls Tryd.prog 8 #[.slice a n c, .slice k m kc, .int .i64 r] W fun e w' => e = .returned (.bool true) ∧ Below W.heap.size W w' := by
  obtain ⟨hT, hE, hF⟩ := hf
  obtain ⟨hm, _, zs, rfl, hz⟩ := came_insM h
  obtain ⟨hm2, _, ks, rfl, hy⟩ := came_ks hk
  clear h hk
  have hmm := hm
  have hmm2 := hm2
  unfold maxLen at hmm hmm2
  have HM := Lib.hid hm
  have HM2 := Lib.hid hm2
  by_cases hk2 : (1048576 : Int) < ks.length
  · clear hz hy hT hE hF hm hm2
    generalize zs.length = n at *
    generalize ks.length = m at *
    go_enter Tryd.func8, Tryd.ntmps8
    go_wp2
    go_ret
    exact ⟨rfl, Below.refl _ _⟩
  by_cases hn : (zs.length : Int) ≤ 1048576
  case neg =>
    have hn' : (1048576 : Int) < zs.length := by omega
    clear hz hy hT hE hF hm hm2
    generalize zs.length = n at *
    generalize ks.length = m at *
    go_enter Tryd.func8, Tryd.ntmps8
    go_wp2_with (go_at_call 11; refine (szInstrS_no a n c 1048576 HM.out (by omega) (by omega) _).mono ?_; rintro e w' ⟨rfl, rfl⟩)
    go_ret
    exact ⟨rfl, Below.refl _ _⟩
  have Hz := Lib.hid hz
  have Hy := Lib.hid hy
  have HT : Hid (∀ w, Below W.heap.size W w → VTabs w) := Lib.hid (fun w hb => (VTabs.mk hT hE hF).below hb (Nat.le_refl _))
  have HL := Lib.hid hn
  have HA := Lib.hid (fun w hz => toInstrS_any zs a c (by omega) w hz)
  have HA2 := Lib.hid (fun w hz => toIntS_any ks k kc (by omega) w hz)
  have HS := Lib.hid (fun a c k kc w hz hy => specFlatOf_ex zs a c ks k kc r hm hm2 w hz hy)
  have HC := Lib.hid (fun a c k kc w ht hz hy => flatOf_ex zs a c ks k kc r hm hm2 w ht hz hy)
  have HEI := Lib.hid (fun a b c d w hz hy => eqInstrS_same zs a b c d (by omega) w hz hy)
  have HEK := Lib.hid (fun a b c d w hz hy => eqIntS_same ks a b c d (by omega) w hz hy)
  have hcl := flatA_len zs ks r
  clear hz hy hT hE hF hm hm2
  generalize flatA zs ks r = FS at *
  generalize (codeV zs ks r).2 = y at *
  have HE := Lib.hid (fun a b c d w hz hy => eqFlatS_same FS a b c d (by omega) w hz hy)
  have e2 : (y != y) = false := by simp
  generalize hj : zs.length = n at *
  have HN := Lib.hid hj
  generalize hq : ks.length = m at *
  have HQ := Lib.hid hq
  generalize hp : FS.length = u at *
  have HP := Lib.hid hp
  clear hj hq hp
  go_enter Tryd.func8, Tryd.ntmps8
  go_wp2_with (go_at_call 11; refine (szInstrS_ok a n c 1048576 HL.out (by omega) _).mono ?_; rintro e w' ⟨rfl, rfl⟩)
  refine Calls.mono (HA.out _ Hz.out) ?_
  rintro e w1 ⟨rfl, ho, hb⟩
  have S0 := Lib.hid (lies_own ho)
  have HB := Lib.hid (hb)
  clear ho hb
  go_wp2_with fail
  refine Calls.mono (HA2.out _ (Hy.out.below HB.out (Nat.le_refl _))) ?_
  rintro e w2 ⟨rfl, ho, hb⟩
  have S0 := Lib.hid (S0.out.below hb (Nat.le_refl _))
  have HB := Lib.hid (HB.out.trans (hb.mono HB.out.size))
  have S1 := Lib.hid (lies_own ho)
  clear ho hb
  go_wp2_with fail
  refine Calls.mono (HS.out _ _ _ _ _ S0.out S1.out) ?_
  rintro e w3 ⟨a3, c3, rfl, ho, hb⟩
  have HB := Lib.hid (HB.out.trans (hb.mono HB.out.size))
  have WL := Lib.hid (lies_own ho)
  have WB := Lib.hid (own_rlt' ho)
  have H3 := Lib.hid (show W.heap.size ≤ w3.heap.size from HB.out.size)
  clear ho hb
  go_wp2_with fail
  refine Calls.mono (HA.out _ (Hz.out.below HB.out (Nat.le_refl _))) ?_
  rintro e w4 ⟨rfl, ho, hb⟩
  have HB := Lib.hid (HB.out.trans (hb.mono HB.out.size))
  have WL := Lib.hid (WL.out.below hb (Nat.le_refl _))
  have X0 := Lib.hid (ho)
  have X0B := Lib.hid (show w3.heap.size < w4.heap.size from (ho.lt _ rfl).2)
  clear ho hb
  go_wp2_with fail
  refine Calls.mono (HA2.out _ (Hy.out.below HB.out (Nat.le_refl _))) ?_
  rintro e w5 ⟨rfl, ho, hb⟩
  have HB := Lib.hid (HB.out.trans (hb.mono HB.out.size))
  have WL := Lib.hid (WL.out.below hb (Nat.le_refl _))
  have X0 := Lib.hid (own_bl X0.out hb)
  have X1 := Lib.hid (ho)
  have X1B := Lib.hid (show w4.heap.size < w5.heap.size from (ho.lt _ rfl).2)
  clear ho hb
  go_wp2_with fail
  refine Calls.mono (HC.out _ _ _ _ _ (HT.out _ HB.out) (lies_own X0.out) (lies_own X1.out)) ?_
  rintro e w6 ⟨a6, c6, rfl, ho, hb⟩
  have HB := Lib.hid (HB.out.trans (hb.mono HB.out.size))
  have WL := Lib.hid (WL.out.below hb (Nat.le_refl _))
  have X0 := Lib.hid (own_bl X0.out hb)
  have X1 := Lib.hid (own_bl X1.out hb)
  have G := Lib.hid (ho)
  have GB := Lib.hid (own_rge' ho)
  clear ho hb
  go_wp2_with fail
  refine Calls.mono (HE.out _ _ _ _ _ (lies_own G.out) WL.out) ?_
  rintro e w7 ⟨rfl, hb⟩
  have HB := Lib.hid (HB.out.trans (hb.mono HB.out.size))
  have WL := Lib.hid (WL.out.below hb (Nat.le_refl _))
  have X0 := Lib.hid (own_bl X0.out hb)
  have X1 := Lib.hid (own_bl X1.out hb)
  have G := Lib.hid (own_bl G.out hb)
  clear hb
  go_wp2_with fail
  refine Calls.mono (HA.out _ (Hz.out.below HB.out (Nat.le_refl _))) ?_
  rintro e w8 ⟨rfl, ho, hb⟩
  have HB := Lib.hid (HB.out.trans (hb.mono HB.out.size))
  have WL := Lib.hid (WL.out.below hb (Nat.le_refl _))
  have X0 := Lib.hid (own_bl X0.out hb)
  have X1 := Lib.hid (own_bl X1.out hb)
  have G := Lib.hid (own_bl G.out hb)
  have T := Lib.hid (lies_own ho)
  clear ho hb
  go_wp2_with fail
  refine Calls.mono (HEI.out _ _ _ _ _ (lies_own X0.out) T.out) ?_
  rintro e w9 ⟨rfl, hb⟩
  have HB := Lib.hid (HB.out.trans (hb.mono HB.out.size))
  have WL := Lib.hid (WL.out.below hb (Nat.le_refl _))
  have X0 := Lib.hid (own_bl X0.out hb)
  have X1 := Lib.hid (own_bl X1.out hb)
  have G := Lib.hid (own_bl G.out hb)
  clear hb
  go_wp2_with fail
  refine Calls.mono (HA2.out _ (Hy.out.below HB.out (Nat.le_refl _))) ?_
  rintro e w10 ⟨rfl, ho, hb⟩
  have HB := Lib.hid (HB.out.trans (hb.mono HB.out.size))
  have WL := Lib.hid (WL.out.below hb (Nat.le_refl _))
  have X0 := Lib.hid (own_bl X0.out hb)
  have X1 := Lib.hid (own_bl X1.out hb)
  have G := Lib.hid (own_bl G.out hb)
  have T := Lib.hid (lies_own ho)
  clear ho hb
  go_wp2_with fail
  refine Calls.mono (HEK.out _ _ _ _ _ (lies_own X1.out) T.out) ?_
  rintro e w11 ⟨rfl, hb⟩
  have HB := Lib.hid (HB.out.trans (hb.mono HB.out.size))
  have WL := Lib.hid (WL.out.below hb (Nat.le_refl _))
  have X0 := Lib.hid (own_bl X0.out hb)
  have X1 := Lib.hid (own_bl X1.out hb)
  have G := Lib.hid (own_bl G.out hb)
  clear hb
  go_wp2_with fail
  refine Calls.mono (markInstrS_any _ _ _ _ _ 1 (by omega) (by omega) _ X0.out) ?_
  rintro e w12 ⟨rfl, _, hg⟩
  have HB := Lib.hid (HB.out.grown hg HB.out.size (fun q hq => by cases hq; exact H3.out))
  have X1 := Lib.hid (own_off X1.out hg (fun x e q => by have h1 := X0B.out; simp only [Option.some.injEq] at e q; rw [← e] at q; simp only at q; omega))
  have G := Lib.hid (own_off G.out hg (fun x e q => by have h1 := GB.out x e; have h2 := X0B.out; have h3 := X1B.out; simp only [Option.some.injEq] at q; omega))
  have WL := Lib.hid (lies_off WL.out hg (fun x e q => by have h1 := WB.out x e; simp only [Option.some.injEq] at q; omega))
  clear hg
  go_wp2_with fail
  refine Calls.mono (markIntS_own _ _ _ _ _ (1 + 2 * n) (by omega) (by omega) _ X1.out) ?_
  rintro e w13 ⟨rfl, _, hg⟩
  have HB := Lib.hid (HB.out.grown hg HB.out.size (fun q hq => by have h1 := X0B.out; have h2 := H3.out; simp only [Value.ownBlock, Option.some.injEq] at hq; omega))
  have G := Lib.hid (own_off G.out hg (fun x e q => by have h1 := GB.out x e; have h3 := X1B.out; simp only [Value.ownBlock, Option.some.injEq] at q; omega))
  have WL := Lib.hid (lies_off WL.out hg (fun x e q => by have h1 := WB.out x e; have h2 := X0B.out; simp only [Value.ownBlock, Option.some.injEq] at q; omega))
  clear hg
  have hk1 : ¬ ((1 : Int) + 2 * n + m < 0) := by omega
  go_wp2_with fail
  refine Calls.mono (HE.out _ _ _ _ _ (lies_own G.out) WL.out) ?_
  rintro e w14 ⟨rfl, hb⟩
  have HB := Lib.hid (HB.out.trans (hb.mono HB.out.size))
  have WL := Lib.hid (WL.out.below hb (Nat.le_refl _))
  have G := Lib.hid (own_bl G.out hb)
  clear hb
  go_wp2_with fail
  refine Calls.mono (markFlatS_own _ _ _ _ _ 1 (by omega) (by omega) _ G.out) ?_
  rintro e w15 ⟨rfl, ho, hg⟩
  have HB := Lib.hid (HB.out.grown hg HB.out.size (fun q hq => by
    cases a6 with
    | none => cases hq
    | some x => simp only [Value.ownBlock, Option.some.injEq] at hq; have h1 := GB.out x rfl; have h2 := X0B.out; have h3 := X1B.out; have h4 := H3.out; omega))
  have WL := Lib.hid (lies_off WL.out hg (fun x e q => by
    cases a6 with
    | none => cases q
    | some z => simp only [Value.ownBlock, Option.some.injEq] at q; have h1 := GB.out z rfl; have h2 := X0B.out; have h3 := X1B.out; have h4 := WB.out x e; omega))
  have G := Lib.hid ho
  clear ho hg
  have hk2 : ¬ ((1 : Int) + 3 * u < 0) := by omega
  have hk3 : ((1 : Int) + 3 * u != 1 + 3 * u) = false := by simp
  go_wp2_with fail
  refine Calls.mono (heldFlatS_any _ _ _ 1 (by omega) (by omega) _ (lies_own G.out)) ?_
  rintro e w16 ⟨rfl, rfl⟩
  go_wp2_with fail
  refine Calls.mono (HA.out _ (Hz.out.below HB.out (Nat.le_refl _))) ?_
  rintro e w17 ⟨rfl, ho, hb⟩
  have HB := Lib.hid (HB.out.trans (hb.mono HB.out.size))
  have WL := Lib.hid (WL.out.below hb (Nat.le_refl _))
  have G := Lib.hid (own_bl G.out hb)
  have S0 := Lib.hid (lies_own ho)
  clear ho hb
  go_wp2_with fail
  refine Calls.mono (HA2.out _ (Hy.out.below HB.out (Nat.le_refl _))) ?_
  rintro e w18 ⟨rfl, ho, hb⟩
  have HB := Lib.hid (HB.out.trans (hb.mono HB.out.size))
  have WL := Lib.hid (WL.out.below hb (Nat.le_refl _))
  have G := Lib.hid (own_bl G.out hb)
  have S0 := Lib.hid (S0.out.below hb (Nat.le_refl _))
  have S1 := Lib.hid (lies_own ho)
  clear ho hb
  go_wp2_with fail
  refine Calls.mono (HC.out _ _ _ _ _ (HT.out _ HB.out) S0.out S1.out) ?_
  rintro e w19 ⟨a19, c19, rfl, ho, hb⟩
  have HB := Lib.hid (HB.out.trans (hb.mono HB.out.size))
  have WL := Lib.hid (WL.out.below hb (Nat.le_refl _))
  have G := Lib.hid (own_bl G.out hb)
  have G2 := Lib.hid (ho)
  clear ho hb
  go_wp2_with fail
  refine Calls.mono (HE.out _ _ _ _ _ (lies_own G2.out) WL.out) ?_
  rintro e w20 ⟨rfl, hb⟩
  have HB := Lib.hid (HB.out.trans (hb.mono HB.out.size))
  have WL := Lib.hid (WL.out.below hb (Nat.le_refl _))
  have G := Lib.hid (own_bl G.out hb)
  have G2 := Lib.hid (own_bl G2.out hb)
  clear hb
  go_wp2_with fail
  refine Calls.mono (heldFlatS_any _ _ _ 1 (by omega) (by omega) _ (lies_own G.out)) ?_
  rintro e w21 ⟨rfl, rfl⟩
  go_wp2
  go_ret
  exact ⟨rfl, HB.out⟩
end Go.Proofs.YtnehaidkhpjpbaaDoor
