/- A whole step of impl's verifier; code gone through. -/
import Derived.Test.YtmpppfibeoghaaaGreatDoorWalk8
import Derived.Test.YtmpppfibeoghaaaGreatDoorInsRow
import Derived.Defers
import Derived.Recover
namespace Go.Proofs.YtmpppfibeoghaaaGreatDoor
open Go.ChangeShapes Go.WideShapes Go.ChangeAt Go.RowKit
set_option linter.unusedVariables false
theorem pfx_take {s t : List UInt8} {k : Nat} (h : s <+: t) (hk : s.length ≤ k) : s <+: t.take k := by
  obtain ⟨u, rfl⟩ := h
  rw [List.take_append]
  rw [List.take_of_length_le hk]
  exact List.prefix_append _ _
theorem vTake_le {st tk : List UInt8} {f : Nat} (h : (vTake st tk f).2 = 0) : (vTake st tk f).1 = st.take (st.length - tk.length) ∧ f + tk.length ≤ st.length := by
  unfold vTake at *
  split at h
  · exact absurd h (by simp)
  · split at h
    · rename_i h1 h2
      rw [if_neg h1, if_pos h2]
      exact ⟨rfl, by omega⟩
    · exact absurd h (by simp)
theorem floor_ge {v : VW} (hp : v.pre) : ∀ o ∈ v.opn, o.stk.length ≤ v.floor := by
  obtain ⟨st, opn⟩ := v
  rcases opn_cases opn with rfl | ⟨os, o, rfl⟩
  · simp
  · intro q hq
    rw [floor_snoc]
    have := List.pairwise_append.1 hp.asc
    simp only [List.mem_append, List.mem_singleton] at hq
    rcases hq with hq | rfl
    · exact this.2.2 q hq o (by simp)
    · exact Nat.le_refl _
/-- Behind what is taken and put, what lies below the open structures is still there. -/
theorem pre_taken {v : VW} (hp : v.pre) {tk pt : List UInt8} (h : (vTake v.stk tk v.floor).2 = 0) (h8 : (vTake v.stk tk v.floor).1.length + pt.length ≤ 8) : VW.pre ⟨(vTake v.stk tk v.floor).1 ++ pt, v.opn⟩ := by
  obtain ⟨e, hl⟩ := vTake_le h
  rw [e] at h8 ⊢
  refine ⟨fun o ho => ?_, hp.asc, by simp only [List.length_append]; omega, hp.o4⟩
  have h1 := floor_ge hp o ho
  exact (pfx_take (hp.pfx o ho) (by omega)).trans (List.prefix_append _ _)
theorem pre_taken0 {v : VW} (hp : v.pre) {tk : List UInt8} (h : (vTake v.stk tk v.floor).2 = 0) : VW.pre ⟨(vTake v.stk tk v.floor).1, v.opn⟩ := by
  have := pre_taken hp (pt := []) h (by rw [(vTake_le h).1]; have := hp.s8; simp; omega)
  simpa using this
theorem pre_nest {v : VW} (hp : v.pre) {x : Ins} {i : Int} (h : (NestOut x i v).2 = 0) : (NestOut x i v).1.pre := by
  unfold NestOut at *
  split at h
  · rename_i h0
    rw [if_pos h0]
    obtain ⟨st, opn⟩ := v
    unfold vNest at *
    split at h
    · rename_i h1
      rw [if_pos h1]
      split at h
      · exact absurd h (by simp)
      · rename_i h2
        rw [if_neg h2]
        have h4 := hp.o4
        refine ⟨fun o ho => ?_, ?_, hp.s8, by simp only [List.length_append, List.length_singleton]; simp only at h4 h2; omega⟩
        · simp only [List.mem_append, List.mem_singleton] at ho
          rcases ho with ho | rfl
          · exact hp.pfx o ho
          · exact List.prefix_rfl
        · refine List.pairwise_append.2 ⟨hp.asc, by simp, fun a ha b hb => ?_⟩
          simp only [List.mem_singleton] at hb
          subst hb
          exact (hp.pfx a ha).length_le
    · rename_i h1
      rw [if_neg h1]
      rcases opn_cases opn with rfl | ⟨os, o, rfl⟩
      · exact absurd h (by simp)
      · simp only [last_snoc, drop_snoc] at h ⊢
        have hasc := List.pairwise_append.1 hp.asc
        have h4 := hp.o4
        simp only [List.length_append, List.length_singleton] at h4
        split at h
        · exact absurd h (by simp)
        · rename_i h2
          rw [if_neg h2]
          split at h
          · exact absurd h (by simp)
          · rename_i h3
            rw [if_neg h3]
            split at h
            · rename_i h5
              rw [if_pos h5]
              refine ⟨fun q hq => ?_, ?_, hp.s8, by simp only [List.length_append, List.length_singleton]; omega⟩
              · simp only [List.mem_append, List.mem_singleton] at hq
                rcases hq with hq | rfl
                · exact hp.pfx q (by simp [hq])
                · exact hp.pfx o (by simp)
              · exact List.pairwise_append.2 ⟨hasc.1, by simp, fun a ha b hb => by simp only [List.mem_singleton] at hb; subst hb; exact hasc.2.2 a ha o (by simp)⟩
            · rename_i h5
              rw [if_neg h5]
              exact ⟨fun q hq => hp.pfx q (by simp [hq]), hasc.1, hp.s8, by simp only; omega⟩
  · rename_i h0
    rw [if_neg h0]
    exact hp
/-- A step, in three parts. -/
theorem vStep_eq (ks : List Int) (r : Int) (x : Ins) (i : Int) (v : VW) : vStep ks r x i v =
    if vFind ks r x ≠ 0 then (v, vFind ks r x) else if (vTake v.stk (vSign ks x).1 v.floor).2 ≠ 0 then (v, (vTake v.stk (vSign ks x).1 v.floor).2)
    else if 8 < (vTake v.stk (vSign ks x).1 v.floor).1.length + (vSign ks x).2.length then (v, 7) else NestOut x i ⟨(vTake v.stk (vSign ks x).1 v.floor).1 ++ (vSign ks x).2, v.opn⟩ := by
  unfold vStep vFind NestOut
  by_cases h1 : (x.1 = 19 ∨ x.1 = 20) ∧ (ks.length : Int) ≤ x.2
  · rw [if_pos h1, if_pos h1, if_pos (by decide)]
  · rw [if_neg h1, if_neg h1]
    by_cases h2 : x.1 = 26 ∧ r ≤ x.2
    · rw [if_pos h2, if_pos h2, if_pos (by decide)]
    · rw [if_neg h2, if_neg h2, if_neg (show ¬ ((0 : Int) ≠ 0) by decide)]
theorem pre_step {ks : List Int} {r : Int} {x : Ins} {i : Int} {v : VW} (hp : v.pre) (h : (vStep ks r x i v).2 = 0) : (vStep ks r x i v).1.pre := by
  rw [vStep_eq] at *
  split at h
  · rename_i h1; exact absurd h h1
  · rename_i h1
    rw [if_neg h1]
    split at h
    · rename_i h2; exact absurd h h2
    · rename_i h2
      rw [if_neg h2]
      split at h
      · exact absurd h (by simp)
      · rename_i h3
        rw [if_neg h3]
        exact pre_nest (pre_taken hp (Classical.not_not.1 h2) (by omega)) h
end Go.Proofs.YtmpppfibeoghaaaGreatDoor
namespace Go.Proofs.YtmpppfibeoghaaaGreatDoor
open Go.ChangeShapes Go.WideShapes Go.ChangeAt Go.RowKit
set_option linter.unusedVariables false
/-- What a verifier is handed lies ahead of it. -/
structure VGiven (W : World) (k : Option Addr) (ks : List Int) : Prop where
  eff : EffTab W
  fb : FbTab W
  lies : Lies W k (kC ks)
  kinds : ∀ z ∈ ks, kindB z = true
theorem VGiven.at {W w : World} {k : Option Addr} {ks : List Int} (h : VGiven W k ks) (hb : Below W.heap.size W w) : VGiven w k ks :=
  ⟨h.eff.below hb (Nat.le_refl _), h.fb.below hb (Nat.le_refl _), h.lies.below hb (Nat.le_refl _), h.kinds⟩
theorem WStat.bel {B p : Nat} {K : Value} {r i : Int} {v : VW} {w w' : World} (h : WStat B p K r i v w) (hb : Below w.heap.size w w') : WStat B p K r i v w' := by
  obtain ⟨a, n, c, a', n', c', h⟩ := h
  exact ⟨a, n, c, a', n', c', h.bel hb⟩
theorem WStat.low {B p : Nat} {K : Value} {r i : Int} {v : VW} {w : World} (h : WStat B p K r i v w) : B ≤ w.heap.size := by
  obtain ⟨a, n, c, a', n', c', h⟩ := h
  exact h.low
theorem WStat.plt {B p : Nat} {K : Value} {r i : Int} {v : VW} {w : World} (h : WStat B p K r i v w) : p < w.heap.size := by
  obtain ⟨a, n, c, a', n', c', h⟩ := h
  exact h.plt
def StepEnd (B p : Nat) (K : Value) (r i : Int) (R : VW × Int) (w : World) (e : Ending) (w' : World) : Prop :=
  Below B w w' ∧ ((R.2 = 0 ∧ e = .returned (.tuple #[]) ∧ WStat B p K r i R.1 w') ∨ (R.2 ≠ 0 ∧ e = Off i R.2))
theorem stepEnd_no {B p : Nat} {K : Value} {r i c : Int} {v : VW} {S : VW × Int} {w w' : World} (hS : S = (v, c)) (hc : c ≠ 0) (hb : Below B w w') : StepEnd B p K r i S w (Off i c) w' := by
  subst hS
  exact ⟨hb, .inr ⟨hc, rfl⟩⟩
theorem box_new (w : World) (O : Obj) : (w.alloc O).heap[w.heap.size]? = some O := heap_alloc_new w O
theorem below_at {w w' : World} {k : Nat} {O : Obj} (h : w.heap[k]? = some O) (hb : Below w.heap.size w w') : w'.heap[k]? = some O := (hb.block k (Array.getElem?_eq_some_iff.1 h).1).trans h
theorem alloc_at {w : World} {k : Nat} {O : Obj} (h : w.heap[k]? = some O) (O' : Obj) : (w.alloc O').heap[k]? = some O := (Below.heap_alloc w O' k (Array.getElem?_eq_some_iff.1 h).1).trans h
theorem keeps_instr {w w' : World} {k : Nat} {cs : Array Value} (h : w.heap[k]? = some (.cells cs 128 (0, 0))) (hk : Keeps w w') : w'.heap[k]? = some (.cells cs 128 (0, 0)) := hk k cs _ _ h (by decide) (by decide) (by decide)
theorem keeps_effect {w w' : World} {k : Nat} {cs : Array Value} (h : w.heap[k]? = some (.cells cs 243 (0, 0))) (hk : Keeps w w') : w'.heap[k]? = some (.cells cs 243 (0, 0)) := hk k cs _ _ h (by decide) (by decide) (by decide)
theorem WStat.far {B p q : Nat} {K : Value} {r i : Int} {v : VW} {w : World} {cs : Array Value} {fz : Nat × Nat} (h : WStat B p K r i v w) (hq : w.heap[q]? = some (.cells cs 243 fz)) (j : Nat) (u : Value) : WStat B p K r i v (w.setCell ⟨q, j, none⟩ u) := by
  obtain ⟨a, n, c, a', n', c', h⟩ := h
  have hne : p ≠ q := fun e => by
    have := h.blk
    rw [e, hq] at this
    simp only [Option.some.injEq, Obj.cells.injEq] at this
    exact absurd this.2.1 (by decide)
  exact ⟨a, n, c, a', n', c', ⟨h.base, (Below.heap_setCell w ⟨q, j, none⟩ u p hne).trans h.blk, ownsRow_setCell_other h.stack (own_ne h.stack hq (by decide)) _, ownsRow_setCell_other h.opens (own_ne h.opens hq (by decide)) _⟩⟩
/-- Behind the effect of an instruction: the walk, the instruction's box, the effect's. -/
structure SR (B b p : Nat) (K : Value) (r i : Int) (v : VW) (O : Obj) (w0 : World) (T G : ByteArray) (ge : Nat) (X : World) : Prop where
  st : WStat B p K r i v X
  ins : X.heap[b]? = some O
  eff : X.heap[ge]? = some (.cells #[.string T, .string G] 243)
  bel : Below B w0 X
theorem sr_call {B b p : Nat} {K : Value} {r i : Int} {v : VW} {O : Obj} {w0 w1 w2 : World} (h : WStat B p K r i v w1) (hx : w1.heap[b]? = some O) (hb : Below B w0 w1) (h2 : Below w1.drew.heap.size w1.drew w2) (T G : ByteArray) :
    SR B b p K r i v O w0 T G w2.heap.size (w2.alloc (.cells #[.string T, .string G] 243)) := by
  have h2' : Below w1.heap.size w1 w2 := ⟨h2.os, h2.tape, h2.output, h2.size, h2.block⟩
  have hs := h.bel h2'
  exact ⟨hs.bel ((Below.refl _ _).alloc (Nat.le_refl _) _), alloc_at (below_at hx h2') _, box_new w2 _, (hb.trans (h2'.mono h.low)).alloc hs.low _⟩
theorem sr_alloc {B b p : Nat} {K : Value} {r i : Int} {v : VW} {O : Obj} {w0 w1 w2 : World} {cs : Array Value} (h : WStat B p K r i v w1) (hx : w1.heap[b]? = some O) (hb : Below B w0 w1) (h2 : Below (w1.drew.alloc (.cells cs 243)).heap.size (w1.drew.alloc (.cells cs 243)) w2)
    (hq : w2.heap[w1.heap.size]? = some (.cells #[.string ⟨#[]⟩, .string ⟨#[]⟩] 243)) (T G : ByteArray) :
    SR B b p K r i v O w0 T G w1.heap.size ((w2.setCell ⟨w1.heap.size, 0, none⟩ (.string T)).setCell ⟨w1.heap.size, 1, none⟩ (.string G)) := by
  have ha : Below w1.heap.size w1 (w1.drew.alloc (.cells cs 243)) := (Below.refl w1.heap.size w1).drew.alloc (Nat.le_refl _) _
  have h2' : Below w1.heap.size w1 w2 := ha.trans (h2.mono ha.size)
  have hs := h.bel h2'
  have hq1 := wk_set hq 0 (.string T)
  have hlt := (Array.getElem?_eq_some_iff.1 hx).1
  have hl := h.low
  refine ⟨(hs.far hq 0 _).far hq1 1 _, ?_, by simpa using wk_set hq1 1 (.string G), ((hb.trans (h2'.mono hl)).setCell (p := ⟨w1.heap.size, 0, none⟩) hl _).setCell (p := ⟨w1.heap.size, 1, none⟩) hl _⟩
  exact (Below.heap_setCell _ _ _ _ (by simp only; omega)).trans ((Below.heap_setCell _ _ _ _ (by simp only; omega)).trans (below_at hx h2'))
set_option maxHeartbeats 1000000 in
theorem step_any (W : World) (k : Option Addr) (kc : Nat) (ks : List Int) (hg : VGiven W k ks) (p : Nat) (r i : Int) (v : VW) (hp : v.pre) (x y : Int) (hx : okB x y = true) (w : World) (hb : Below W.heap.size W w)
    (h : WStat W.heap.size p (.slice k ks.length kc) r i v w) :
    Calls Tryz.prog 189 #[.pointer (some ⟨p, 0, none⟩), .agg #[.int .i64 x, .int .i64 y]] w (StepEnd W.heap.size p (.slice k ks.length kc) r i (vStep ks r (x, y) i v) w) := by
  have hB := h.low
  have ha := (Below.refl W.heap.size w).alloc hB (.cells #[.int .i64 x, .int .i64 y] 128)
  have ha2 := (Below.refl w.heap.size w).alloc (Nat.le_refl _) (.cells #[.int .i64 x, .int .i64 y] 128)
  have HS := Lib.hid (vStep_eq ks r (x, y) i v)
  obtain ⟨S, hS⟩ : ∃ S, vStep ks r (x, y) i v = S := ⟨_, rfl⟩
  rw [hS] at HS ⊢
  have HF := Lib.hid (find_any (h.bel ha2) x y)
  have H1 := Lib.hid (h.bel ha2)
  have HX1 := Lib.hid (box_new w (.cells #[.int .i64 x, .int .i64 y] 128))
  have Ha := Lib.hid ha
  have Hb := Lib.hid hb
  have HP := Lib.hid hp
  have HX := Lib.hid hx
  have HG := Lib.hid hg
  have hsl := sign_len ks (x, y)
  have HSL := Lib.hid hsl
  clear h ha ha2 hp hx hg hb hS hsl hB
  go_enter Tryz.func189, Tryz.ntmps189
  go_wp2_with fail
  refine Calls.mono HF.out ?_
  rintro e w1 ⟨hb1, h1⟩
  have Hb1 := Lib.hid (Ha.out.trans (hb1.mono (H1.out.low)))
  have H2 := Lib.hid (H1.out.bel hb1)
  have hx1 := below_at HX1.out hb1
  have HX2 := Lib.hid hx1
  have d0 := cell_of_row w1 w.heap.size 0 _ _ _ hx1
  have d1 := cell_of_row w1 w.heap.size 1 _ _ _ hx1
  clear hb1 hx1 HF HX1 H1 Ha
  rcases h1 with ⟨hf, rfl⟩ | ⟨hf, rfl⟩
  case inr =>
    exact ⟨rfl, stepEnd_no (HS.out.trans (if_pos hf)) hf Hb1.out⟩
  have HS2 := Lib.hid (HS.out.trans (if_neg (fun q => q hf)))
  have HF := Lib.hid hf
  clear hf HS
  have HG1 := Lib.hid (HG.out.at (Hb.out.trans Hb1.out))
  have c0 : w1.cell? ⟨p, 0, none⟩ = some (.slice k ks.length kc) := by
    obtain ⟨a, n, c, a', n', c', h⟩ := H2.out
    exact h.cells.1
  have hp1 := H2.out.plt
  have hw1 := (Array.getElem?_eq_some_iff.1 HX2.out).1
  have HT : Hid (∀ X, Below w1.heap.size w1 X → Calls Tryz.prog 200 #[.agg #[.int .i64 x, .int .i64 y], .slice k ks.length kc] X fun e w' => Below X.heap.size X w' ∧
      ∃ T G : ByteArray, e = .returned (.agg #[.string T, .string G]) ∧ T.data.toList = (vSign ks (x, y)).1 ∧ G.data.toList = (vSign ks (x, y)).2) := Lib.hid (fun X hX => effectOf_any (r := r) x y HX.out HF.out (HG1.out.at hX).eff (HG1.out.at hX).fb (HG1.out.at hX).lies HG.out.kinds)
  go_wp2_with fail
  go_region_with (go_at_call 200; refine Calls.mono (HT.out _ (by first | exact (Below.refl w1.heap.size w1).drew | exact (Below.refl w1.heap.size w1).drew.alloc (Nat.le_refl _) _)) ?_; rintro e w2 ⟨hb2, T, G, rfl, hT, hG⟩; have HB2 := Lib.hid hb2; have HTG := Lib.hid (And.intro hT hG); (first | (have hq : w2.heap[w1.heap.size]? = some (.cells #[.string ⟨#[]⟩, .string ⟨#[]⟩] 243) := (hb2.block w1.heap.size (by simp)).trans (heap_alloc_new w1.drew (.cells #[.string ⟨#[]⟩, .string ⟨#[]⟩] 243)); have u0 := cell_of_row w2 w1.heap.size 0 _ _ _ hq; have u1 := cell_of_row w2 w1.heap.size 1 _ _ _ hq; have z0 := frozen_of_row w2 w1.heap.size 0 _ _ hq; have z1 := frozen_of_row w2 w1.heap.size 1 _ _ hq; have HQ := Lib.hid hq; clear hq) | skip); clear hb2 hT hG)
  all_goals
    first
    | (have HS := Lib.hid (sr_call H2.out HX2.out Hb1.out HB2.out T G); generalize w2.alloc (.cells #[.string T, .string G] 243) = X at HS ⊢; generalize w2.heap.size = ge at HS ⊢)
    | (have HS := Lib.hid (sr_alloc H2.out HX2.out Hb1.out HB2.out HQ.out T G); clear u0 u1 z0 z1 HQ; generalize (w2.setCell ⟨w1.heap.size, 0, none⟩ (.string T)).setCell ⟨w1.heap.size, 1, none⟩ (.string G) = X at HS ⊢; generalize w1.heap.size = ge at HS ⊢)
  all_goals
    have H3 := Lib.hid HS.out.st
    have HX3 := Lib.hid HS.out.ins
    have HE3 := Lib.hid HS.out.eff
    have Hb3 := Lib.hid HS.out.bel
    have hx3 := cell_of_row X ge 0 _ _ _ HE3.out
    obtain ⟨hT, hG⟩ := HTG.out
    clear HS HTG
    have hTl : T.size ≤ 3 := by have := HSL.out.1; rw [← hT] at this; exact this
    have hGl : G.size ≤ 3 := by have := HSL.out.2; rw [← hG] at this; exact Nat.le_trans this (by decide)
    rw [← hT, ← hG] at HS2
    have HTl := Lib.hid hTl
    have HGl := Lib.hid hGl
    clear hT hG hTl hGl HSL HX HF HT HG1
    go_wp2_with fail
    refine Calls.mono (pop_any H3.out HP.out T HTl.out) ?_
    clear hx3
    rintro e w4 ⟨hb4, h4⟩
    have Hb4 := Lib.hid (Hb3.out.trans hb4)
    clear hb4
    rcases h4 with ⟨h0, rfl, h4, hk4⟩ | ⟨h0, rfl⟩
    case inr =>
      exact ⟨rfl, stepEnd_no (HS2.out.trans (if_pos h0)) h0 Hb4.out⟩
    have HS3 := Lib.hid (HS2.out.trans (if_neg (fun q => q h0)))
    have H4 := Lib.hid h4
    have HP4 := Lib.hid (pre_taken0 HP.out h0)
    have hx4 := keeps_instr HX3.out hk4
    have he4 := keeps_effect HE3.out hk4
    have HX4 := Lib.hid hx4
    have e1 := cell_of_row w4 ge 1 _ _ _ he4
    have H0 := Lib.hid h0
    clear h4 h0 hk4 hx4 he4 HS2 HX3 HE3 H3 Hb3 HTl
    go_wp2_with fail
    refine Calls.mono (push_any H4.out HP4.out G HGl.out) ?_
    rintro e w5 ⟨hb5, h5⟩
    have Hb5 := Lib.hid (Hb4.out.trans hb5)
    clear hb5 e1
    rcases h5 with ⟨h1, rfl, h5, hk5⟩ | ⟨h1, rfl⟩
    case inr =>
      exact ⟨rfl, stepEnd_no (HS3.out.trans (if_pos h1)) (by decide) Hb5.out⟩
    have HS4 := Lib.hid (HS3.out.trans (if_neg (Nat.not_lt.2 h1)))
    have HP5 := Lib.hid (pre_taken HP.out H0.out h1)
    have H5 := Lib.hid h5
    have hx5 := keeps_instr HX4.out hk5
    have f0 := cell_of_row w5 w.heap.size 0 _ _ _ hx5
    clear h5 h1 hk5 hx5 HS3 HX4 H4 HP4 Hb4 H0
    go_wp2_with fail
    refine Calls.mono (nest_any H5.out HP5.out x y) ?_
    rintro e w6 ⟨hb6, h6⟩
    have Hb6 := Lib.hid (Hb5.out.trans hb6)
    clear hb6 f0
    rcases h6 with ⟨h2, rfl, h6, hk6⟩ | ⟨h2, rfl⟩
    case inr =>
      exact ⟨rfl, Hb6.out, .inr (by rw [HS4.out]; exact ⟨h2, rfl⟩)⟩
    have HE := Lib.hid (show (S.2 = 0 ∧ WStat W.heap.size p (.slice k ks.length kc) r i S.1 w6) by rw [HS4.out]; exact ⟨h2, h6⟩)
    clear h2 h6 hk6 HS4
    go_wp2
    go_end0
    exact ⟨Hb6.out, .inl ⟨HE.out.1, rfl, HE.out.2⟩⟩
end Go.Proofs.YtmpppfibeoghaaaGreatDoor
namespace Go.Proofs.YtmpppfibeoghaaaGreatDoor
open Go.ChangeShapes Go.WideShapes Go.ChangeAt Go.RowKit
set_option linter.unusedVariables false
theorem step_ok {W : World} {k : Option Addr} {kc : Nat} {ks : List Int} (hg : VGiven W k ks) {p : Nat} {r i : Int} {v : VW} (hp : v.pre) {x y : Int} (hx : okB x y = true) {w : World} (hb : Below W.heap.size W w)
    (h : WStat W.heap.size p (.slice k ks.length kc) r i v w) (h0 : (vStep ks r (x, y) i v).2 = 0) :
    Calls Tryz.prog 189 #[.pointer (some ⟨p, 0, none⟩), .agg #[.int .i64 x, .int .i64 y]] w fun e w' => e = .returned (.tuple #[]) ∧ Below W.heap.size w w' ∧ WStat W.heap.size p (.slice k ks.length kc) r i (vStep ks r (x, y) i v).1 w' :=
  (step_any W k kc ks hg p r i v hp x y hx w hb h).mono fun e w' ⟨h1, h2⟩ => by
    rcases h2 with ⟨_, h3, h4⟩ | ⟨h3, _⟩
    · exact ⟨h3, h1, h4⟩
    · exact absurd h0 h3
theorem step_no {W : World} {k : Option Addr} {kc : Nat} {ks : List Int} (hg : VGiven W k ks) {p : Nat} {r i : Int} {v : VW} (hp : v.pre) {x y : Int} (hx : okB x y = true) {w : World} (hb : Below W.heap.size W w)
    (h : WStat W.heap.size p (.slice k ks.length kc) r i v w) (h0 : (vStep ks r (x, y) i v).2 ≠ 0) :
    Calls Tryz.prog 189 #[.pointer (some ⟨p, 0, none⟩), .agg #[.int .i64 x, .int .i64 y]] w fun e w' => e = Off i (vStep ks r (x, y) i v).2 ∧ Below W.heap.size w w' :=
  (step_any W k kc ks hg p r i v hp x y hx w hb h).mono fun e w' ⟨h1, h2⟩ => by
    rcases h2 with ⟨h3, _⟩ | ⟨_, h3⟩
    · exact absurd h3 h0
    · exact ⟨h3, h1⟩
theorem WStat.cells {B p : Nat} {K : Value} {r i : Int} {v : VW} {w : World} (h : WStat B p K r i v w) : w.cell? ⟨p, 2, none⟩ = some (.int .i64 i) ∧ w.frozen? ⟨p, 2, none⟩ = false := by
  obtain ⟨a, n, c, a', n', c', h⟩ := h
  exact ⟨h.cells.2.2.1, h.frozen 2⟩
theorem WStat.next {B p : Nat} {K : Value} {r i : Int} {v : VW} {w : World} (h : WStat B p K r i v w) (j : Int) : WStat B p K r j v (w.setCell ⟨p, 2, none⟩ (.int .i64 j)) ∧ Below B w (w.setCell ⟨p, 2, none⟩ (.int .i64 j)) := by
  obtain ⟨a, n, c, a', n', c', h⟩ := h
  obtain ⟨h1, h2⟩ := h.next j
  exact ⟨⟨a, n, c, a', n', c', h1⟩, h2.1⟩
/-- What going through code ends with. -/
def PassEnd (B p : Nat) (K : Value) (r : Int) (R : VW × Int × Nat) (w : World) (e : Ending) (w' : World) : Prop :=
  Below B w w' ∧ ((R.2.1 = 0 ∧ e = .returned (.tuple #[]) ∧ WStat B p K r R.2.2 R.1 w' ∧ R.1.pre) ∨ (R.2.1 ≠ 0 ∧ e = Off R.2.2 R.2.1))
theorem vRun_step {ks : List Int} {r : Int} {zs : List Ins} {j : Nat} (h : j < zs.length) (v : VW) : vRun ks r (zs.drop j) j v =
    if (vStep ks r ((zs.getD j (0, 0)).1, (zs.getD j (0, 0)).2) j v).2 = 0 then vRun ks r (zs.drop (j + 1)) (j + 1) (vStep ks r ((zs.getD j (0, 0)).1, (zs.getD j (0, 0)).2) j v).1 else ((vStep ks r ((zs.getD j (0, 0)).1, (zs.getD j (0, 0)).2) j v).1, (vStep ks r ((zs.getD j (0, 0)).1, (zs.getD j (0, 0)).2) j v).2, j) := by
  have e : zs.getD j (0, 0) = zs[j] := by simp [List.getD, h]
  rw [List.drop_eq_getElem_cons h, vRun, e]
set_option maxHeartbeats 1000000 in
theorem pass_any (W : World) (k : Option Addr) (kc : Nat) (ks : List Int) (hg : VGiven W k ks) (p : Nat) (r : Int) (zs : List Ins) (a : Option Addr) (c : Nat) (hn : zs.length ≤ 40) (hz : Lies W a (flat insC zs)) (hok : ∀ j, j < zs.length → okB (zs.getD j (0, 0)).1 (zs.getD j (0, 0)).2 = true)
    (w : World) (hb : Below W.heap.size W w) (h : WStat W.heap.size p (.slice k ks.length kc) r 0 ⟨[], []⟩ w) :
    Calls Tryz.prog 166 #[.pointer (some ⟨p, 0, none⟩), .slice a zs.length c] w (PassEnd W.heap.size p (.slice k ks.length kc) r (vRun ks r zs 0 ⟨[], []⟩) w) := by
  have HG := Lib.hid hg
  have HZ := Lib.hid hz
  have HO := Lib.hid hok
  have HB := Lib.hid hb
  have H := Lib.hid h
  obtain ⟨R, hR⟩ : ∃ R, vRun ks r zs 0 ⟨[], []⟩ = R := ⟨_, rfl⟩
  have HR : Hid (vRun ks r (zs.drop 0) 0 ⟨[], []⟩ = R) := Lib.hid hR
  rw [hR]
  have HPL := Lib.hid h.plt
  clear hg hz hok hb h hR
  generalize hL : zs.length = n at *
  have HL := Lib.hid hL
  clear hL
  go_enter Tryz.func166, Tryz.ntmps166
  go_wp2
  go_loopw [8] (fun i wr => ∃ (j : Nat) (v : VW), j ≤ n ∧ i = .int .i64 j ∧ Hid (vRun ks r (zs.drop j) j v = R) ∧ Hid (WStat W.heap.size p (.slice k ks.length kc) r j v wr) ∧ Hid v.pre ∧ Hid (Below W.heap.size w wr)) (fun i _ => n - (intOf i).toNat)
  case atStart => exact ⟨0, ⟨[], []⟩, Nat.zero_le _, rfl, HR, H, Lib.hid pre_start, Lib.hid (Below.refl _ _)⟩
  case round =>
    obtain ⟨j, v, hj, rfl, hr, hs, hp, hb⟩ := hrel
    by_cases hlt : j < n
    · obtain ⟨b, o, rfl, hbl, hcs⟩ := HZ.out.open (by rw [flat_len insC_len, HL.out]; omega)
      obtain ⟨c0, c1⟩ := ins_at hcs (i := j) (by rw [HL.out]; exact hlt)
      have hWb := (HB.out.trans hb.out)
      have d0 := (hWb.cell (p := ⟨b, o + j * 2, none⟩) hbl).trans c0
      have d1 := (hWb.cell (p := ⟨b, o + j * 2 + 1, none⟩) hbl).trans c1
      have hx := HO.out j hlt
      have hv := vRun_step (ks := ks) (r := r) (zs := zs) (j := j) (by rw [HL.out]; exact hlt) v
      rw [hr.out] at hv
      clear hcs c0 c1 hr
      generalize (zs.getD j (0, 0)).1 = x at *
      generalize (zs.getD j (0, 0)).2 = y at *
      have ha := hb.out.alloc hs.out.low (.cells #[.int .i64 x, .int .i64 y] 128)
      have hs2 := hs.out.bel ((Below.refl wr.heap.size wr).alloc (Nat.le_refl _) (.cells #[.int .i64 x, .int .i64 y] 128))
      have HA := Lib.hid ha
      by_cases h0 : (vStep ks r (x, y) j v).2 = 0
      · have HC := Lib.hid (step_ok HG.out hp.out hx (HB.out.trans ha) hs2 h0)
        rw [if_pos h0] at hv
        have HV := Lib.hid hv
        have HP := Lib.hid (pre_step hp.out h0)
        clear hv h0 hx ha hs2 hWb hs hb hp
        go_wp2_with fail
        refine Calls.mono HC.out ?_
        rintro e w2 ⟨rfl, hb2, hs2⟩
        have HB2 := Lib.hid (HA.out.trans hb2)
        obtain ⟨e2, f2⟩ := hs2.cells
        obtain ⟨hs3, hb3⟩ := hs2.next ((j : Int) + 1)
        have HS3 := Lib.hid (show WStat W.heap.size p (.slice k ks.length kc) r ((j + 1 : Nat) : Int) (vStep ks r (x, y) j v).1 (w2.setCell ⟨p, 2, none⟩ (.int .i64 ((j : Int) + 1))) from hs3)
        have HB3 := Lib.hid (HB2.out.trans hb3)
        clear hb2 hs2 hs3 hb3 d0 d1
        go_wp2
        go_roundw
        case rel => exact ⟨j + 1, (vStep ks r (x, y) j v).1, by omega, by go_num, Lib.hid HV.out.symm, HS3, HP, HB3⟩
        case measure => simp [intOf]; omega
      · have HC := Lib.hid (step_no HG.out hp.out hx (HB.out.trans ha) hs2 h0)
        rw [if_neg h0] at hv
        have HV := Lib.hid hv
        have H0 := Lib.hid h0
        clear hv h0 hx ha hs2 hWb hs hb hp
        go_wp2_with fail
        refine Calls.mono HC.out ?_
        rintro e w2 ⟨rfl, hb2⟩
        exact ⟨rfl, HA.out.trans hb2, .inr (by rw [HV.out]; exact ⟨H0.out, rfl⟩)⟩
    · obtain rfl : j = n := by omega
      have HV : Hid (R = (v, 0, j)) := Lib.hid (by rw [← hr.out, List.drop_eq_nil_of_le (by rw [HL.out]; exact Nat.le_refl _)]; rfl)
      clear hr
      go_wp2
      go_end0
      exact ⟨hb.out, .inl (by rw [HV.out]; exact ⟨rfl, rfl, hs.out, hp.out⟩)⟩
end Go.Proofs.YtmpppfibeoghaaaGreatDoor
namespace Go.Proofs.YtmpppfibeoghaaaGreatDoor
open Go.ChangeShapes Go.WideShapes Go.ChangeAt Go.RowKit
set_option linter.unusedVariables false
theorem finish_open (p g m c : Nat) (k : Int) (hm : m + 1 ≤ 100) (w : World) (h4 : w.cell? ⟨p, 4, none⟩ = some (.slice (some ⟨g, 0, none⟩) (m + 1) c)) (hk : w.cell? ⟨g, m * 3, none⟩ = some (.int .i64 k)) :
    Calls Tryz.prog 167 #[.pointer (some ⟨p, 0, none⟩)] w fun e w' => e = Off k 14 ∧ ∃ q, w' = w.drewN q := by
  have h1 : decide ((m : Int) + 1 > 0) = true := decide_eq_true (by omega)
  go_enter Tryz.func167, Tryz.ntmps167
  go_wp2_with fail
  refine Calls.mono (innermost_ok p g m c hm _ h4) ?_
  rintro e w' ⟨rfl, q, rfl⟩
  go_wp2
  exact ⟨rfl, rfl, q, rfl⟩
theorem finish_ok (p c c' : Nat) (a a' : Option Addr) (w : World) (h3 : w.cell? ⟨p, 3, none⟩ = some (.slice a 0 c)) (h4 : w.cell? ⟨p, 4, none⟩ = some (.slice a' 0 c')) :
    Calls Tryz.prog 167 #[.pointer (some ⟨p, 0, none⟩)] w fun e w' => e = .returned (.tuple #[]) ∧ w = w' := by
  go_enter Tryz.func167, Tryz.ntmps167
  go_wp2_with fail
  refine Calls.mono (require_ok _ _ _) ?_
  rintro e w' ⟨rfl, rfl⟩
  go_wp2
  go_end0
  exact ⟨rfl, rfl⟩
theorem finish_stack (p n c c' : Nat) (a a' : Option Addr) (i : Int) (hn : 0 < n) (w : World) (h2 : w.cell? ⟨p, 2, none⟩ = some (.int .i64 i)) (h3 : w.cell? ⟨p, 3, none⟩ = some (.slice a n c)) (h4 : w.cell? ⟨p, 4, none⟩ = some (.slice a' 0 c')) :
    Calls Tryz.prog 167 #[.pointer (some ⟨p, 0, none⟩)] w fun e w' => e = Off i 13 ∧ w = w' := by
  have h1 : ((n : Int) == 0) = false := by rw [beq_eq_false_iff_ne]; omega
  go_enter Tryz.func167, Tryz.ntmps167
  go_wp2_with fail
  refine Calls.mono (require_no _ _ i _ h2) ?_
  rintro e w' ⟨rfl, rfl⟩
  exact ⟨rfl, rfl, rfl⟩
def finC (v : VW) (i : Int) : Int × Int := match v.opn.getLast? with | some o => (o.pos, 14) | none => if v.stk = [] then (0, 0) else (i, 13)
theorem finish_any {B p : Nat} {K : Value} {r i : Int} {v : VW} {w : World} (h : WStat B p K r i v w) (hp : v.pre) :
    Calls Tryz.prog 167 #[.pointer (some ⟨p, 0, none⟩)] w fun e w' => Below B w w' ∧ (((finC v i).2 = 0 ∧ e = .returned (.tuple #[])) ∨ ((finC v i).2 ≠ 0 ∧ e = Off (finC v i).1 (finC v i).2)) := by
  obtain ⟨a, n, c, a', n', c', h⟩ := h
  obtain ⟨c0, c1, c2, c3, c4⟩ := h.cells
  have hn := h.slen
  have ho := h.olen
  obtain ⟨st, opn⟩ := v
  rcases opn_cases opn with rfl | ⟨os, o, rfl⟩
  · simp at ho
    subst ho
    by_cases hs : st = []
    · have e : finC ⟨st, []⟩ i = (0, 0) := by unfold finC; simp [hs]
      rw [e]
      subst hs
      simp at hn
      subst hn
      exact (finish_ok p c c' a a' w c3 c4).mono fun e w' ⟨he, hw⟩ => ⟨hw ▸ Below.refl B _, .inl ⟨rfl, he⟩⟩
    · have e : finC ⟨st, []⟩ i = (i, 13) := by unfold finC; simp [hs]
      rw [e]
      have : 0 < n := by
        rw [← hn]
        exact List.length_pos_iff.2 hs
      exact (finish_stack p n c c' a a' i this w c2 c3 c4).mono fun e w' ⟨he, hw⟩ => ⟨hw ▸ Below.refl B _, .inr ⟨by simp, he⟩⟩
  · have e : finC ⟨st, os ++ [o]⟩ i = (o.pos, 14) := by unfold finC; simp
    rw [e]
    have h' := h
    rw [List.map_append, List.map_singleton] at h'
    obtain ⟨g, m, rfl, rfl, hm, hc⟩ := h'.opened_row
    have h4 := hp.o4
    simp at h4 hm
    exact (finish_open p g m c' o.pos (by omega) w c4 h'.last.1).mono fun e w' ⟨he, q, hw⟩ => ⟨hw ▸ bel_dn (Below.refl B w) q, .inr ⟨by simp, he⟩⟩
theorem run_assert_yes {P : Program} {t xT : TypeId} {fs : Array Field} (hu : P.underlying t = some (.struct fs)) (v : Value) (w : World) : (Instr.typeAssert (.iface t v) xT t true).run P w = .ok (.tuple #[v, .bool true]) w := by
  simp [Instr.typeAssert, run_underlying hu, go_sem, Result.andThen]
theorem run_assert_nil {P : Program} {t xT : TypeId} {fs : Array Field} {z : Value} (hu : P.underlying t = some (.struct fs)) (hz : (P.info? t).map (·.zero) = some (some z)) (w : World) : (Instr.typeAssert .nilIface xT t true).run P w = .ok (.tuple #[z, .bool false]) w := by
  obtain ⟨j, hj, hz'⟩ := Option.map_eq_some_iff.1 hz
  simp [Instr.typeAssert, run_underlying hu, zeroValue, typeInfo, hj, hz', go_sem, Result.andThen]
theorem as_yes (v : Value) (w : World) : (Instr.typeAssert (.iface 166 v) 20 166 true).run Tryz.prog w = .ok (.tuple #[v, .bool true]) w := run_assert_yes Tryz.underlying166 v w
theorem as_nil (w : World) : (Instr.typeAssert .nilIface 20 166 true).run Tryz.prog w = .ok (.tuple #[.agg #[.int .i64 0, .int .i64 0], .bool false]) w := run_assert_nil Tryz.underlying166 (by kernel_rfl) w
abbrev offO (i c : Int) : Obj := .cells #[.int .i64 i, .int .i64 c] 166
theorem catch_panicking (p : Nat) (i c x y : Int) (older : List PanicEntry) (w : World) (h : w.heap[p]? = some (offO x y)) :
    CallsD Tryz.prog 165 #[.pointer (some ⟨p, 0, none⟩)] (.panicking ({ v := .iface 166 (.agg #[.int .i64 i, .int .i64 c]), recovered := false } :: older)) w fun e u' w' =>
      e = .returned (.tuple #[]) ∧ u' = .panicking ({ v := .iface 166 (.agg #[.int .i64 i, .int .i64 c]), recovered := true } :: older) ∧ w' = ((w.alloc (offO i c)).setCell ⟨p, 0, none⟩ (.int .i64 i)).setCell ⟨p, 1, none⟩ (.int .i64 c) := by
  have hA := alloc_at h (offO i c)
  have hc : (w.alloc (offO i c)).cell? ⟨p, 0, none⟩ = some (.int .i64 x) := cell_of_row _ _ 0 _ _ _ hA
  have hc1 : (w.alloc (offO i c)).cell? ⟨p, 1, none⟩ = some (.int .i64 y) := cell_of_row _ _ 1 _ _ _ hA
  have hz : (w.alloc (offO i c)).frozen? ⟨p, 0, none⟩ = false := frozen_of_row _ _ 0 _ _ hA
  have hz1 : (w.alloc (offO i c)).frozen? ⟨p, 1, none⟩ = false := frozen_of_row _ _ 1 _ _ hA
  refine callsD_of_wpS Tryz.func165 rfl fun c₀ cs hu => ?_
  apply wpS_seq
  apply wpS_region
  simp [wpOpsS, go_sem, recoverD, hu, Tryz.ntmps165, Exit.thenS, as_yes]
  apply wpS_seq
  apply wpS_region
  simp [wpOpsS, go_sem, Exit.thenS]
  refine wpS_cond (t := true) (by simp [Act.eval, Array.replicate]) ?_
  simp only [if_true]
  apply wpS_region
  simp [wpOpsS, go_sem, hc, hc1, hz, hz1, bodyPostS, results, Tryz.results165]
theorem catch_idle (p : Nat) (w : World) :
    CallsD Tryz.prog 165 #[.pointer (some ⟨p, 0, none⟩)] .returning w fun e u' w' => e = .returned (.tuple #[]) ∧ u' = .returning ∧ w' = w.alloc (offO 0 0) := by
  refine callsD_of_wpS Tryz.func165 rfl fun c₀ cs hu => ?_
  apply wpS_seq
  apply wpS_region
  simp [wpOpsS, go_sem, recoverD, hu, Tryz.ntmps165, Exit.thenS, as_nil]
  apply wpS_seq
  apply wpS_region
  simp [wpOpsS, go_sem, Exit.thenS]
  refine wpS_cond (t := false) (by simp [Act.eval, Array.replicate]) ?_
  simp only [Bool.false_eq_true, if_false]
  refine wpS_of_wp (wp_skip ?_)
  cases c₀
  simp_all [bodyPostS, results, Tryz.results165]
end Go.Proofs.YtmpppfibeoghaaaGreatDoor
namespace Go.Proofs.YtmpppfibeoghaaaGreatDoor
open Go.ChangeShapes Go.WideShapes Go.ChangeAt Go.RowKit
set_option linter.unusedVariables false
theorem vRun_end {ks : List Int} {r : Int} : ∀ (zs : List Ins) (i : Nat) (v : VW), (vRun ks r zs i v).2.1 = 0 → (vRun ks r zs i v).2.2 = i + zs.length
  | [], i, v, _ => rfl
  | x :: t, i, v, h => by
    rw [vRun] at h ⊢
    by_cases g : (vStep ks r x i v).2 = 0
    · rw [if_pos g] at h ⊢
      rw [vRun_end t (i + 1) _ h, List.length_cons]
      omega
    · rw [if_neg g] at h
      exact absurd h g
theorem vVer_pass {ks : List Int} {r : Int} {zs : List Ins} (h : (vRun ks r zs 0 ⟨[], []⟩).2.1 ≠ 0) : vVer zs ks r = ((((vRun ks r zs 0 ⟨[], []⟩).2.2 : Nat) : Int), (vRun ks r zs 0 ⟨[], []⟩).2.1) := by
  unfold vVer
  exact if_pos h
theorem vVer_fin {ks : List Int} {r : Int} {zs : List Ins} (h : (vRun ks r zs 0 ⟨[], []⟩).2.1 = 0) : vVer zs ks r = finC (vRun ks r zs 0 ⟨[], []⟩).1 zs.length := by
  unfold vVer finC
  dsimp only
  rw [if_neg (fun q => q h)]
  cases (vRun ks r zs 0 ⟨[], []⟩).1.opn.getLast? <;> rfl
theorem finC_zero {v : VW} {i : Int} (h : (finC v i).2 = 0) : finC v i = (0, 0) := by
  unfold finC at *
  cases hg : v.opn.getLast? with
  | some o => rw [hg] at h; exact absurd h (by simp)
  | none =>
    rw [hg] at h
    simp only at h ⊢
    split
    · rfl
    · rename_i hs
      rw [if_neg hs] at h
      exact absurd h (by simp)
theorem off_set {w : World} {p : Nat} {x y : Int} (h : w.heap[p]? = some (offO x y)) (i c : Int) : ((w.setCell ⟨p, 0, none⟩ (.int .i64 i)).setCell ⟨p, 1, none⟩ (.int .i64 c)).heap[p]? = some (offO i c) := by
  simpa using wk_set (wk_set h 0 (.int .i64 i)) 1 (.int .i64 c)
theorem ret_off {a b c d : Int} (h : a = c) (g : b = d) : Ending.returned (.agg #[.int .i64 a, .int .i64 b]) = .returned (.agg #[.int .i64 c, .int .i64 d]) := by rw [h, g]
set_option maxHeartbeats 1000000 in
theorem verify_any (k : Option Addr) (kc : Nat) (ks : List Int) (r : Int) (zs : List Ins) (a : Option Addr) (c : Nat) (hn : zs.length ≤ 40) (hok : ∀ j, j < zs.length → okB (zs.getD j (0, 0)).1 (zs.getD j (0, 0)).2 = true)
    (w : World) (hg : VGiven w k ks) (hz : Lies w a (flat insC zs)) :
    Calls Tryz.prog 141 #[.slice a zs.length c, .slice k ks.length kc, .int .i64 r] w fun e w' => e = .returned (.agg #[.int .i64 (vVer zs ks r).1, .int .i64 (vVer zs ks r).2]) ∧ Below w.heap.size w w' := by
  have hmf : ∀ (fn : Fn) (first cap : Array Value) (w : World), (Instr.makeFunc fn first cap).run Tryz.prog w = .ok (.func fn first cap) w := fun _ _ _ _ => rfl
  have b1 : Below w.heap.size w (w.alloc (offO 0 1)) := (Below.refl w.heap.size w).alloc (Nat.le_refl _) _
  have hg1 := hg.at b1
  have hz1 := hz.below b1 (Nat.le_refl _)
  have hst : WStat (w.alloc (offO 0 1)).heap.size (w.heap.size + 1) (.slice k ks.length kc) r 0 ⟨[], []⟩ ((w.alloc (offO 0 1)).alloc (wkO (.slice k ks.length kc) r 0 none 0 0 none 0 0)) :=
    ⟨none, 0, 0, none, 0, 0, by simp, heap_alloc2_new w _ _, World.ownsRow_nil _ _ _ _, World.ownsRow_nil _ _ _ _⟩
  have b2 : Below (w.alloc (offO 0 1)).heap.size (w.alloc (offO 0 1)) ((w.alloc (offO 0 1)).alloc (wkO (.slice k ks.length kc) r 0 none 0 0 none 0 0)) := (Below.refl _ _).alloc (Nat.le_refl _) _
  have HP := Lib.hid (pass_any _ k kc ks hg1 (w.heap.size + 1) r zs a c hn hz1 hok _ b2 hst)
  have HB1 := Lib.hid b1
  have HB2 := Lib.hid b2
  have HF := Lib.hid (box_new w (offO 0 1))
  obtain ⟨V, hV⟩ : ∃ V, vVer zs ks r = V := ⟨_, rfl⟩
  have HV := Lib.hid hV
  have HE := Lib.hid (vRun_end (ks := ks) (r := r) zs 0 ⟨[], []⟩)
  have HVP := Lib.hid (fun h => vVer_pass (ks := ks) (r := r) (zs := zs) h)
  have HVF := Lib.hid (fun h => vVer_fin (ks := ks) (r := r) (zs := zs) h)
  rw [hV]
  clear hg hz hok b1 b2 hg1 hz1 hst hV
  generalize zs.length = n at *
  go_enter_defers Tryz.func141, Tryz.ntmps141
  go_wp2_with fail
  refine Calls.mono HP.out ?_
  rintro e w3 ⟨hb3, h3⟩
  have HB3 := Lib.hid hb3
  have hf3 := (hb3.block w.heap.size (by simp)).trans (alloc_at HF.out (wkO (.slice k ks.length kc) r 0 none 0 0 none 0 0))
  have HF3 := Lib.hid hf3
  have HB := Lib.hid (HB1.out.trans ((HB2.out.trans hb3).mono (by simp)))
  clear hb3 hf3 HF HP HB3
  rcases h3 with ⟨h0, rfl, hs3, hp3⟩ | ⟨h0, rfl⟩
  case inr =>
    have HX := Lib.hid ((HV.out.symm.trans (HVP.out h0)))
    clear h0 HVP HVF HE
    generalize (((vRun ks r zs 0 ⟨[], []⟩).2.2 : Nat) : Int) = i at *
    generalize (vRun ks r zs 0 ⟨[], []⟩).2.1 = d at *
    refine leaves_cons (f := 165) (args := #[.pointer (some ⟨w.heap.size, 0, none⟩)]) (by simp) (by simp [go_sem]) ?_
    refine CallsD.mono (catch_panicking w.heap.size i d 0 1 [] w3 HF3.out) ?_
    rintro e u' w'' ⟨rfl, rfl, rfl⟩
    have hX := off_set (alloc_at HF3.out (offO i d)) i d
    have hc0 := cell_of_row _ _ 0 _ _ _ hX
    have hc1 := cell_of_row _ _ 1 _ _ _ hX
    refine ⟨.agg #[.int .i64 i, .int .i64 d], by simp [results, Tryz.results141, go_sem, hc0, hc1], ret_off (by rw [HX.out]) (by rw [HX.out]), ?_⟩
    exact ((HB.out.alloc HB.out.size _).setCell (p := ⟨w.heap.size, 0, none⟩) (Nat.le_refl _) _).setCell (p := ⟨w.heap.size, 1, none⟩) (Nat.le_refl _) _
  have HX := Lib.hid (HV.out.symm.trans (HVF.out h0))
  have he := HE.out h0
  rw [Nat.zero_add] at he
  rw [he] at hs3
  have HF := Lib.hid (finish_any hs3 hp3)
  clear h0 HVP HVF HE he hs3 hp3
  go_wp2_with fail
  refine Calls.mono HF.out ?_
  rintro e w4 ⟨hb4, h4⟩
  have HF4 := Lib.hid ((hb4.block w.heap.size (by simp)).trans HF3.out)
  have HB := Lib.hid (HB.out.trans (hb4.mono (by simp)))
  clear hb4 HF
  rcases h4 with ⟨h0, rfl⟩ | ⟨h0, rfl⟩
  case inr =>
    generalize finC (vRun ks r zs 0 ⟨[], []⟩).1 n = F at *
    obtain ⟨i, d⟩ := F
    dsimp only at *
    refine leaves_cons (f := 165) (args := #[.pointer (some ⟨w.heap.size, 0, none⟩)]) (by simp) (by simp [go_sem]) ?_
    refine CallsD.mono (catch_panicking w.heap.size i d 0 1 [] w4 HF4.out) ?_
    rintro e u' w'' ⟨rfl, rfl, rfl⟩
    have hX := off_set (alloc_at HF4.out (offO i d)) i d
    have hc0 := cell_of_row _ _ 0 _ _ _ hX
    have hc1 := cell_of_row _ _ 1 _ _ _ hX
    refine ⟨.agg #[.int .i64 i, .int .i64 d], by simp [results, Tryz.results141, go_sem, hc0, hc1], ret_off (by rw [HX.out]) (by rw [HX.out]), ?_⟩
    exact ((HB.out.alloc HB.out.size _).setCell (p := ⟨w.heap.size, 0, none⟩) (Nat.le_refl _) _).setCell (p := ⟨w.heap.size, 1, none⟩) (Nat.le_refl _) _
  have HX := Lib.hid (HX.out.trans (finC_zero h0))
  have g0 : w4.cell? ⟨w.heap.size, 0, none⟩ = some (.int .i64 0) := cell_of_row _ _ 0 _ _ _ HF4.out
  have g1 : w4.cell? ⟨w.heap.size, 1, none⟩ = some (.int .i64 1) := cell_of_row _ _ 1 _ _ _ HF4.out
  have q0 : w4.frozen? ⟨w.heap.size, 0, none⟩ = false := frozen_of_row _ _ 0 _ _ HF4.out
  have q1 : w4.frozen? ⟨w.heap.size, 1, none⟩ = false := frozen_of_row _ _ 1 _ _ HF4.out
  clear h0
  go_wp2
  refine leaves_cons (f := 165) (args := #[.pointer (some ⟨w.heap.size, 0, none⟩)]) (by simp) (by simp [go_sem]) ?_
  refine CallsD.mono (catch_idle w.heap.size _) ?_
  rintro e u' w'' ⟨rfl, rfl, rfl⟩
  have hX := alloc_at (off_set HF4.out 0 0) (offO 0 0)
  have hc0 := cell_of_row _ _ 0 _ _ _ hX
  have hc1 := cell_of_row _ _ 1 _ _ _ hX
  refine ⟨.agg #[.int .i64 0, .int .i64 0], by simp [results, Tryz.results141, go_sem, hc0, hc1], ret_off (by rw [HX.out]) (by rw [HX.out]), ?_⟩
  have hb := ((HB.out.setCell (p := ⟨w.heap.size, 0, none⟩) (Nat.le_refl _) (.int .i64 0)).setCell (p := ⟨w.heap.size, 1, none⟩) (Nat.le_refl _) (.int .i64 0))
  exact hb.alloc hb.size _
end Go.Proofs.YtmpppfibeoghaaaGreatDoor
