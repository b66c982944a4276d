/- A whole step of impl's verifier; code gone through. -/
import Derived.Test.YtbbhoaljldgjeaaDoorWalk12
namespace Go.Proofs.YtbbhoaljldgjeaaDoor
open Go.ChangeShapes Go.WideShapes Go.ChangeAt Go.RowKit
set_option linter.unusedVariables false
/-- What a verifier is handed lies ahead of it. -/
structure VGiven (W : World) (k : Option Addr) (ks : List Int) : Prop where
  eff : EffTab W
  fb : FbTab W
  lies : Lies W k (kC ks)
  kinds : ∀ z ∈ ks, kindB z = true
theorem VGiven.at {W w : World} {k : Option Addr} {ks : List Int} (h : VGiven W k ks) (hb : Below W.heap.size W w) : VGiven w k ks :=
  ⟨h.eff.below hb (Nat.le_refl _), h.fb.below hb (Nat.le_refl _), h.lies.below hb (Nat.le_refl _), h.kinds⟩
theorem WStat.bel {B p : Nat} {K : Value} {r i : Int} {v : VW} {w w' : World} (h : WStat B p K r i v w) (hb : Below w.heap.size w w') : WStat B p K r i v w' := by
  obtain ⟨a, n, c, a', n', c', h⟩ := h
  exact ⟨a, n, c, a', n', c', h.bel hb⟩
theorem WStat.low {B p : Nat} {K : Value} {r i : Int} {v : VW} {w : World} (h : WStat B p K r i v w) : B ≤ w.heap.size := by
  obtain ⟨a, n, c, a', n', c', h⟩ := h
  exact h.low
theorem WStat.plt {B p : Nat} {K : Value} {r i : Int} {v : VW} {w : World} (h : WStat B p K r i v w) : p < w.heap.size := by
  obtain ⟨a, n, c, a', n', c', h⟩ := h
  exact h.plt
def StepEnd (B p : Nat) (K : Value) (r i : Int) (R : VW × Int) (w : World) (e : Ending) (w' : World) : Prop :=
  Below B w w' ∧ ((R.2 = 0 ∧ e = .returned (.tuple #[]) ∧ WStat B p K r i R.1 w') ∨ (R.2 ≠ 0 ∧ e = Off i R.2))
theorem stepEnd_no {B p : Nat} {K : Value} {r i c : Int} {v : VW} {S : VW × Int} {w w' : World} (hS : S = (v, c)) (hc : c ≠ 0) (hb : Below B w w') : StepEnd B p K r i S w (Off i c) w' := by
  subst hS
  exact ⟨hb, .inr ⟨hc, rfl⟩⟩
theorem box_new (w : World) (O : Obj) : (w.alloc O).heap[w.heap.size]? = some O := heap_alloc_new w O
theorem below_at {w w' : World} {k : Nat} {O : Obj} (h : w.heap[k]? = some O) (hb : Below w.heap.size w w') : w'.heap[k]? = some O := (hb.block k (Array.getElem?_eq_some_iff.1 h).1).trans h
theorem alloc_at {w : World} {k : Nat} {O : Obj} (h : w.heap[k]? = some O) (O' : Obj) : (w.alloc O').heap[k]? = some O := (Below.heap_alloc w O' k (Array.getElem?_eq_some_iff.1 h).1).trans h
theorem keeps_instr {w w' : World} {k : Nat} {cs : Array Value} (h : w.heap[k]? = some (.cells cs 38 (0, 0))) (hk : Keeps w w') : w'.heap[k]? = some (.cells cs 38 (0, 0)) := hk k cs _ _ h (by decide) (by decide) (by decide)
theorem keeps_effect {w w' : World} {k : Nat} {cs : Array Value} (h : w.heap[k]? = some (.cells cs 125 (0, 0))) (hk : Keeps w w') : w'.heap[k]? = some (.cells cs 125 (0, 0)) := hk k cs _ _ h (by decide) (by decide) (by decide)
set_option maxHeartbeats 1000000 in
theorem step_any (W : World) (k : Option Addr) (kc : Nat) (ks : List Int) (hg : VGiven W k ks) (p : Nat) (r i : Int) (v : VW) (hp : v.pre) (x y : Int) (hx : okB x y = true) (w : World) (hb : Below W.heap.size W w)
    (h : WStat W.heap.size p (.slice k ks.length kc) r i v w) :
    Calls Tryd.prog 70 #[.pointer (some ⟨p, 0, none⟩), .agg #[.int .i64 x, .int .i64 y]] w (StepEnd W.heap.size p (.slice k ks.length kc) r i (vStep ks r (x, y) i v) w) := by
  have hB := h.low
  have ha := (Below.refl W.heap.size w).alloc hB (.cells #[.int .i64 x, .int .i64 y] 38)
  have ha2 := (Below.refl w.heap.size w).alloc (Nat.le_refl _) (.cells #[.int .i64 x, .int .i64 y] 38)
  have HS := Lib.hid (vStep_eq ks r (x, y) i v)
  obtain ⟨S, hS⟩ : ∃ S, vStep ks r (x, y) i v = S := ⟨_, rfl⟩
  rw [hS] at HS ⊢
  have HF := Lib.hid (find_any (h.bel ha2) x y)
  have H1 := Lib.hid (h.bel ha2)
  have HX1 := Lib.hid (box_new w (.cells #[.int .i64 x, .int .i64 y] 38))
  have Ha := Lib.hid ha
  have Hb := Lib.hid hb
  have HP := Lib.hid hp
  have HX := Lib.hid hx
  have HG := Lib.hid hg
  have hsl := sign_len ks (x, y)
  have HSL := Lib.hid hsl
  clear h ha ha2 hp hx hg hb hS hsl hB
  go_enter Tryd.func70, Tryd.ntmps70
  go_wp2_with fail
  refine Calls.mono HF.out ?_
  rintro e w1 ⟨hb1, h1⟩
  have Hb1 := Lib.hid (Ha.out.trans (hb1.mono (H1.out.low)))
  have H2 := Lib.hid (H1.out.bel hb1)
  have hx1 := below_at HX1.out hb1
  have HX2 := Lib.hid hx1
  have d0 := cell_of_row w1 w.heap.size 0 _ _ _ hx1
  have d1 := cell_of_row w1 w.heap.size 1 _ _ _ hx1
  clear hb1 hx1 HF HX1 H1 Ha
  rcases h1 with ⟨hf, rfl⟩ | ⟨hf, rfl⟩
  case inr =>
    exact ⟨rfl, stepEnd_no (HS.out.trans (if_pos hf)) hf Hb1.out⟩
  have HS2 := Lib.hid (HS.out.trans (if_neg (fun q => q hf)))
  have HF := Lib.hid hf
  clear hf HS
  go_wp2_with fail
  refine Calls.mono (effectOf_any H2.out x y HX.out HF.out (HG.out.at (Hb.out.trans Hb1.out)).eff (HG.out.at (Hb.out.trans Hb1.out)).fb (HG.out.at (Hb.out.trans Hb1.out)).lies HG.out.kinds) ?_
  rintro e w2 ⟨hb2, T, G, rfl, hT, hG⟩
  have Hb2 := Lib.hid (Hb1.out.trans (hb2.mono H2.out.low))
  have H3 := Lib.hid ((H2.out.bel hb2).bel ((Below.refl w2.heap.size w2).alloc (Nat.le_refl _) (.cells #[.string T, .string G] 125)))
  have HX3 := Lib.hid (alloc_at (below_at HX2.out hb2) (.cells #[.string T, .string G] 125))
  have HE3 := Lib.hid (box_new w2 (.cells #[.string T, .string G] 125))
  have Hb3 := Lib.hid (Hb2.out.alloc (H2.out.bel hb2).low (.cells #[.string T, .string G] 125))
  have hTl : T.size ≤ 3 := by have := HSL.out.1; rw [← hT] at this; exact this
  have hGl : G.size ≤ 3 := by have := HSL.out.2; rw [← hG] at this; exact Nat.le_trans this (by decide)
  rw [← hT, ← hG] at HS2
  have HTl := Lib.hid hTl
  have HGl := Lib.hid hGl
  clear hb2 d0 d1 H2 HX2 Hb1 Hb2 hT hG hTl hGl HSL HX HF
  go_wp2_with fail
  refine Calls.mono (pop_any H3.out HP.out T HTl.out) ?_
  rintro e w4 ⟨hb4, h4⟩
  have Hb4 := Lib.hid (Hb3.out.trans hb4)
  clear hb4
  rcases h4 with ⟨h0, rfl, h4, hk4⟩ | ⟨h0, rfl⟩
  case inr =>
    exact ⟨rfl, stepEnd_no (HS2.out.trans (if_pos h0)) h0 Hb4.out⟩
  have HS3 := Lib.hid (HS2.out.trans (if_neg (fun q => q h0)))
  have H4 := Lib.hid h4
  have HP4 := Lib.hid (pre_taken0 HP.out h0)
  have hx4 := keeps_instr HX3.out hk4
  have he4 := keeps_effect HE3.out hk4
  have HX4 := Lib.hid hx4
  have e1 := cell_of_row w4 w2.heap.size 1 _ _ _ he4
  have H0 := Lib.hid h0
  clear h4 h0 hk4 hx4 he4 HS2 HX3 HE3 H3 Hb3 HTl
  go_wp2_with fail
  refine Calls.mono (push_any H4.out HP4.out G HGl.out) ?_
  rintro e w5 ⟨hb5, h5⟩
  have Hb5 := Lib.hid (Hb4.out.trans hb5)
  clear hb5 e1
  rcases h5 with ⟨h1, rfl, h5, hk5⟩ | ⟨h1, rfl⟩
  case inr =>
    exact ⟨rfl, stepEnd_no (HS3.out.trans (if_pos h1)) (by decide) Hb5.out⟩
  have HS4 := Lib.hid (HS3.out.trans (if_neg (Nat.not_lt.2 h1)))
  have HP5 := Lib.hid (pre_taken HP.out H0.out h1)
  have H5 := Lib.hid h5
  have hx5 := keeps_instr HX4.out hk5
  have f0 := cell_of_row w5 w.heap.size 0 _ _ _ hx5
  clear h5 h1 hk5 hx5 HS3 HX4 H4 HP4 Hb4 H0
  go_wp2_with fail
  refine Calls.mono (nest_any H5.out HP5.out x y) ?_
  rintro e w6 ⟨hb6, h6⟩
  have Hb6 := Lib.hid (Hb5.out.trans hb6)
  clear hb6 f0
  rcases h6 with ⟨h2, rfl, h6, hk6⟩ | ⟨h2, rfl⟩
  case inr =>
    exact ⟨rfl, Hb6.out, .inr (by rw [HS4.out]; exact ⟨h2, rfl⟩)⟩
  have HE := Lib.hid (show (S.2 = 0 ∧ WStat W.heap.size p (.slice k ks.length kc) r i S.1 w6) by rw [HS4.out]; exact ⟨h2, h6⟩)
  clear h2 h6 hk6 HS4
  go_wp2
  go_end0
  exact ⟨Hb6.out, .inl ⟨HE.out.1, rfl, HE.out.2⟩⟩
end Go.Proofs.YtbbhoaljldgjeaaDoor
