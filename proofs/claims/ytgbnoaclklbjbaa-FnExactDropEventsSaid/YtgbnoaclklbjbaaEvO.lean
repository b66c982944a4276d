/- impl's OfferEvent, TakeEvent, DropEvents, BalanceOf. (Written by tools/gen_evo.py.) -/
import Derived.Test.YtgbnoaclklbjbaaEvI
import Derived.Test.YtgbnoaclklbjbaaEvR
import Derived.Test.YtgbnoaclklbjbaaHeld
namespace Go.Proofs.Ytgbnoaclklbjbaa
open Go.ChangeShapes Go.WideShapes Go.ChangeAt Go.RowKit
set_option linter.unusedVariables false
def cnt1 (n : Int) : Int := min (n + 1) 2147483647
def offG (x : ST) (z : TT) (now : Int) : ST × Int :=
  if x.l ≠ -1 ∧ now - x.l < z.p then (⟨x.l, cnt1 x.a, x.d, cnt1 x.t, x.s, x.p, x.q⟩, 18)
  else if (x.q.length : Int) = z.q then (⟨x.l, cnt1 x.a, x.d, x.t, cnt1 x.s, x.p, x.q⟩, 7)
  else (⟨now, cnt1 x.a, x.d, x.t, x.s, x.p, x.q ++ [now]⟩, 0)
def offF (x : ST) (z : TT) (now : Int) : ST × Int := if sOK x z = false then (s0, 1) else if tkIn now (max x.l 0) 2147483647 = false then (s0, 4) else offG x z now
def takF (x : ST) (z : TT) : ST × Int × Int := if sOK x z = false then (s0, 0, 1) else match x.q with
  | [] => (x, 0, 5)
  | a :: r => (⟨x.l, x.a, x.d, x.t, x.s, x.p, r⟩, a, 0)
def drpF (x : ST) (z : TT) (b : Bool) : ST × Int := if sOK x z = false then (s0, 1) else (⟨x.l, x.a, x.d, x.t, x.s, min (x.p + (x.q.length + bitE b)) 2147483647, []⟩, 0)
def balF (x : ST) (z : TT) : Int × Int := if sOK x z = false then (0, 1) else (x.a - x.d - x.t - x.s - x.p - x.q.length, 0)
theorem sok_is {x : ST} {z : TT} {r : Bool} (h : sOK x z = r) (b : Option Addr) (c : Nat) (hm : x.q.length ≤ maxLen) (w : World) (hz : Lies w b (kC x.q)) :
    Calls Try.prog 21 #[sV x b c, tV z] w fun e w' => e = .returned (.bool r) ∧ Below w.heap.size w w' := h ▸ sourceOK_any x z b c hm w hz
/-- Inside offer: the source's box at S, the task's, the ring. -/
structure OfK (w : World) (S : Nat) (z : TT) (cs : Array Value) (g rb m : Nat) (q : List Int) (X : World) : Prop where
  box : X.heap[S]? = some (.cells cs 24)
  ring : Rg (w.heap.size + 1) g rb m 0 q X
  hg : w.heap.size + 1 ≤ g
  gr : w.grownBy X (some S)
  tsk : X.heap[w.heap.size]? = some (tO z 35)
  hS : S < w.heap.size
theorem OfK.rb {w : World} {S : Nat} {z : TT} {cs : Array Value} {g rb m : Nat} {q : List Int} {X : World} (h : OfK w S z cs g rb m q X)   : w.heap.size + 1 ≤ rb := by
  obtain ⟨ys, ho, _⟩ := h.ring.row
  exact (ho.lt rb rfl).1
theorem OfK.dn {w : World} {S : Nat} {z : TT} {cs : Array Value} {g rb m : Nat} {q : List Int} {X : World} (h : OfK w S z cs g rb m q X) (k : Nat) : OfK w S z cs g rb m q (X.drewN k) := ⟨h.box, h.ring.dn k, h.hg, ⟨h.gr.os, h.gr.tape, h.gr.output, h.gr.size, h.gr.block⟩, h.tsk, h.hS⟩
theorem grs {w X : World} {S i : Nat} (h : w.grownBy X (some S)) (hS : S < w.heap.size ∨ w.heap.size ≤ S) (v : Value) : w.grownBy (X.setCell ⟨S, i, none⟩ v) (some S) :=
  ⟨h.os, h.tape, h.output, by simp only [World.setCell, Array.size_modify]; exact h.size, fun k hk hr => (Below.heap_setCell X ⟨S, i, none⟩ v k (fun e => hr (by rw [show k = S from e]))).trans (h.block k hk hr)⟩
theorem gro {w X : World} {S g i : Nat} (h : w.grownBy X (some S)) (hg : w.heap.size ≤ g) (v : Value) : w.grownBy (X.setCell ⟨g, i, none⟩ v) (some S) :=
  ⟨h.os, h.tape, h.output, by simp only [World.setCell, Array.size_modify]; exact h.size, fun k hk hr => (Below.heap_setCell X ⟨g, i, none⟩ v k (by simp only; omega)).trans (h.block k hk hr)⟩
theorem grb {w X Y : World} {S : Nat} (h : w.grownBy X (some S)) (hb : Below X.heap.size X Y) : w.grownBy Y (some S) :=
  ⟨hb.os.trans h.os, hb.tape.trans h.tape, hb.output.trans h.output, Nat.le_trans h.size hb.size, fun k hk hr => (hb.block k (Nat.lt_of_lt_of_le hk h.size)).trans (h.block k hk hr)⟩
theorem Rg.far {B g rb m f : Nat} {q : List Int} {w : World} (h : Rg B g rb m f q w) {S i : Nat} (h1 : S ≠ g) (h2 : S ≠ rb) (v : Value) : Rg B g rb m f q (w.setCell ⟨S, i, none⟩ v) := by
  obtain ⟨ys, ho, hy⟩ := h.row
  exact ⟨blk_far h.box (fun e => h1 e.symm) v, ⟨ys, ownsRow_setCell_other ho (fun e => h2 (by simpa [Value.ownBlock] using e.symm)) _, hy⟩, h.fit⟩
theorem OfK.set {w : World} {S : Nat} {z : TT} {cs : Array Value} {g rb m : Nat} {q : List Int} {X : World} (h : OfK w S z cs g rb m q X) (i : Nat) (v : Value) : OfK w S z (cs.setIfInBounds i v) g rb m q (X.setCell ⟨S, i, none⟩ v) :=
  ⟨wk_set h.box i v, h.ring.far (by have := h.hg; have := h.hS; omega) (by have := h.rb; have := h.hS; omega) v, h.hg, grs h.gr (.inl h.hS) v, blk_far h.tsk (by have := h.hS; omega) v, h.hS⟩
theorem OfK.bel {w : World} {S : Nat} {z : TT} {cs : Array Value} {g rb m : Nat} {q : List Int} {X Y : World} (h : OfK w S z cs g rb m q X) (hb : Below X.heap.size X Y) : OfK w S z cs g rb m q Y :=
  ⟨blk_bel h.box hb, h.ring.bel hb, h.hg, grb h.gr hb, blk_bel h.tsk hb, h.hS⟩
theorem OfK.push {w : World} {S : Nat} {z : TT} {cs : Array Value} {g rb m : Nat} {q q' : List Int} {X Y : World} (h : OfK w S z cs g rb m q X) (hr : Rg (w.heap.size + 1) g rb m 0 q' Y) {i j k : Nat} {u v : Value} (hw : Y = ((X.drewN k).setCell ⟨rb, i, none⟩ u).setCell ⟨g, j, none⟩ v) : OfK w S z cs g rb m q' Y := by
  have hS := h.hS
  have hg := h.hg
  have hb := h.rb
  subst hw
  exact ⟨blk_far (blk_far (w := X.drewN k) h.box (by omega) u) (by omega) v, hr, h.hg, gro (gro (X := X.drewN k) ⟨h.gr.os, h.gr.tape, h.gr.output, h.gr.size, h.gr.block⟩ (by omega) u) (by omega) v, blk_far (blk_far (w := X.drewN k) h.tsk (by omega) u) (by omega) v, hS⟩
def OfPost (R : ST × Int) (w : World) (S : Nat) (e : Ending) (w' : World) : Prop := e = .returned (.int .i64 R.2) ∧ ∃ a, w'.heap[S]? = some (sO R.1 (some ⟨a, 0, none⟩) R.1.q.length 24) ∧ w'.ownsRow w.heap.size 3 1 (.slice (some ⟨a, 0, none⟩) R.1.q.length R.1.q.length) R.1.q.length (kC R.1.q) ∧ w.grownBy w' (some S)

set_option maxRecDepth 100000 in
set_option maxHeartbeats 4000000 in
theorem offer_any (x : ST) (z : TT) (now : Int) (b : Option Addr) (c S : Nat) (hx : SIn x z) (hnow : 0 ≤ now ∧ now ≤ 2147483647 ∧ x.l ≤ now) (w : World) (hS : w.heap[S]? = some (sO x b c 24)) (hz : Lies w b (kC x.q)) :
    Calls Try.prog 52 #[.pointer (some ⟨S, 0, none⟩), tV z, .int .i64 now] w (OfPost (offG x z now) w S) := by
  obtain ⟨tq1, tq2, tp1, tp2⟩ := tkB_q hx.tk
  have hxl := hx.l
  have hxa := hx.a
  have hxt := hx.t
  have hxs := hx.s
  have hxn := hx.n
  have hSl : S < w.heap.size := (Array.getElem?_eq_some_iff.1 hS).1
  have HP : Hid (∀ a w', w'.heap[S]? = some (sO (offG x z now).1 (some ⟨a, 0, none⟩) (offG x z now).1.q.length 24) → w'.ownsRow w.heap.size 3 1 (.slice (some ⟨a, 0, none⟩) (offG x z now).1.q.length (offG x z now).1.q.length) (offG x z now).1.q.length (kC (offG x z now).1.q) → w.grownBy w' (some S) → OfPost (offG x z now) w S (.returned (.int .i64 (offG x z now).2)) w') := Lib.hid (fun a w' h1 h2 h3 => ⟨rfl, a, h1, h2, h3⟩)
  have HG : Hid (offG x z now = if x.l ≠ -1 ∧ now - x.l < z.p then (⟨x.l, cnt1 x.a, x.d, cnt1 x.t, x.s, x.p, x.q⟩, 18) else if (x.q.length : Int) = z.q then (⟨x.l, cnt1 x.a, x.d, x.t, cnt1 x.s, x.p, x.q⟩, 7) else (⟨now, cnt1 x.a, x.d, x.t, x.s, x.p, x.q ++ [now]⟩, 0)) := Lib.hid rfl
  generalize OfPost (offG x z now) w S = POST at *
  generalize offG x z now = R at *
  have HT0 := Lib.hid (show (w.alloc (tO z 35)).heap[w.heap.size]? = some (tO z 35) from heap_alloc_new w _)
  have HB0 := Lib.hid (show (w.alloc (tO z 35)).heap[S]? = some (sO x b c 24) from blk_bel hS (dbox w _))
  have HZ0 := Lib.hid (show Lies (w.alloc (tO z 35)) b (kC x.q) from hz.below (dbox w _) (Nat.le_refl _))
  have HG0 : Hid (w.grownBy (w.alloc (tO z 35)) (some S)) := Lib.hid (grown_al w _ _)
  have HSZ0 : Hid ((w.alloc (tO z 35)).heap.size = w.heap.size + 1) := Lib.hid (by simp)
  have HRG := Lib.hid (fun X hX => ringOf_any x.q b c z.q.toNat (by omega) (by omega) X hX)
  have HPY := Lib.hid (fun g rb X (hX : Rg (w.heap.size + 1) g rb z.q.toNat 0 x.q X) (hr : 0 + x.q.length < z.q.toNat) => push_yes _ g rb z.q.toNat 0 x.q now hr (by omega) X hX)
  have HPN := Lib.hid (fun g rb X (hX : Rg (w.heap.size + 1) g rb z.q.toNat 0 x.q X) (hr : x.q.length = z.q.toNat) => push_no _ g rb z.q.toNat 0 x.q now hr X hX)
  have HLS := Lib.hid (fun q g rb X (hX : Rg (w.heap.size + 1) g rb z.q.toNat 0 q X) => list_any _ g rb z.q.toNat 0 q (by omega) X hX)
  clear hS hz hx
  obtain ⟨l, a, d, t, s, p, q⟩ := x
  obtain ⟨zk, zp, zd, zi, zq, zr⟩ := z
  simp only at *
  obtain ⟨m, rfl⟩ : ∃ m : Nat, zq = m := ⟨zq.toNat, by omega⟩
  rw [Int.toNat_natCast] at *
  have HT0 : Hid ((w.alloc (.cells #[.int .i64 zk, .int .i64 zp, .int .i64 zd, .int .i64 zi, .int .i64 m, .int .i64 zr] 35)).heap[w.heap.size]? = some (.cells #[.int .i64 zk, .int .i64 zp, .int .i64 zd, .int .i64 zi, .int .i64 m, .int .i64 zr] 35)) := HT0
  have HB0 : Hid ((w.alloc (.cells #[.int .i64 zk, .int .i64 zp, .int .i64 zd, .int .i64 zi, .int .i64 m, .int .i64 zr] 35)).heap[S]? = some (.cells #[.int .i64 l, .int .i64 a, .int .i64 d, .int .i64 t, .int .i64 s, .int .i64 p, .slice b q.length c] 24)) := HB0
  show Calls Try.prog 52 #[.pointer (some ⟨S, 0, none⟩), .agg #[.int .i64 zk, .int .i64 zp, .int .i64 zd, .int .i64 zi, .int .i64 m, .int .i64 zr], .int .i64 now] w POST
  go_enter Try.func52, Try.ntmps52
  go_wp2_with fail
  have HS0 : Hid (Below (w.alloc (.cells #[.int .i64 zk, .int .i64 zp, .int .i64 zd, .int .i64 zi, .int .i64 m, .int .i64 zr] 35)).heap.size (w.alloc (.cells #[.int .i64 zk, .int .i64 zp, .int .i64 zd, .int .i64 zi, .int .i64 m, .int .i64 zr] 35)) (w.alloc (.cells #[.int .i64 zk, .int .i64 zp, .int .i64 zd, .int .i64 zi, .int .i64 m, .int .i64 zr] 35)).drew) := Lib.hid (Below.refl _ _).drew
  refine wp_region_hl 7 (fun X => Below (w.alloc (.cells #[.int .i64 zk, .int .i64 zp, .int .i64 zd, .int .i64 zi, .int .i64 m, .int .i64 zr] 35)).heap.size (w.alloc (.cells #[.int .i64 zk, .int .i64 zp, .int .i64 zd, .int .i64 zi, .int .i64 m, .int .i64 zr] 35)) X) (by kernel_rfl) rfl rfl (by kernel_rfl) ?_
  refine hl_take (v := ?vo1) 0 rfl (by kernel_rfl) (fun _ _ _ h => h) (Or.inl ⟨by rfl, ?hyo1⟩) HS0.out ?resto1
  case hyo1 =>
    intro X hSw
    have s0 := cell_of_row X S 6 _ _ _ (blk_bel HB0.out hSw)
    have s1 := cell_of_row X w.heap.size 4 _ _ _ (blk_bel HT0.out hSw)
    go_simp <;> with_reducible rfl
  try simp only [Act.put, List.setIfInBounds_toArray, List.set_cons_zero, List.set_cons_succ]
  refine hl_take (v := ?vo2) 1 rfl (by kernel_rfl) (fun _ _ _ h => h) (Or.inl ⟨by rfl, ?hyo2⟩) HS0.out ?resto2
  case hyo2 =>
    intro X hSw
    have s0 := cell_of_row X S 6 _ _ _ (blk_bel HB0.out hSw)
    have s1 := cell_of_row X w.heap.size 4 _ _ _ (blk_bel HT0.out hSw)
    go_simp <;> with_reducible rfl
  try simp only [Act.put, List.setIfInBounds_toArray, List.set_cons_zero, List.set_cons_succ]
  refine hl_take (v := ?vo3) 2 rfl (by kernel_rfl) (fun _ _ _ h => h) (Or.inl ⟨by rfl, ?hyo3⟩) HS0.out ?resto3
  case hyo3 =>
    intro X hSw
    have s0 := cell_of_row X S 6 _ _ _ (blk_bel HB0.out hSw)
    have s1 := cell_of_row X w.heap.size 4 _ _ _ (blk_bel HT0.out hSw)
    go_simp <;> with_reducible rfl
  try simp only [Act.put, List.setIfInBounds_toArray, List.set_cons_zero, List.set_cons_succ]
  refine hl_take (v := ?vo4) 3 rfl (by kernel_rfl) (fun _ _ _ h => h) (Or.inl ⟨by rfl, ?hyo4⟩) HS0.out ?resto4
  case hyo4 =>
    intro X hSw
    have s0 := cell_of_row X S 6 _ _ _ (blk_bel HB0.out hSw)
    have s1 := cell_of_row X w.heap.size 4 _ _ _ (blk_bel HT0.out hSw)
    go_simp <;> with_reducible rfl
  try simp only [Act.put, List.setIfInBounds_toArray, List.set_cons_zero, List.set_cons_succ]
  refine hl_take (v := ?vo5) 4 rfl (by kernel_rfl) (fun _ _ _ h => h) (Or.inl ⟨by rfl, ?hyo5⟩) HS0.out ?resto5
  case hyo5 =>
    intro X hSw
    have s0 := cell_of_row X S 6 _ _ _ (blk_bel HB0.out hSw)
    have s1 := cell_of_row X w.heap.size 4 _ _ _ (blk_bel HT0.out hSw)
    go_simp <;> with_reducible rfl
  try simp only [Act.put, List.setIfInBounds_toArray, List.set_cons_zero, List.set_cons_succ]
  refine hl_take (v := ?vo6) 5 rfl (by kernel_rfl) (fun _ _ _ h => h) (Or.inl ⟨by rfl, ?hyo6⟩) HS0.out ?resto6
  case hyo6 =>
    intro X hSw
    have s0 := cell_of_row X S 6 _ _ _ (blk_bel HB0.out hSw)
    have s1 := cell_of_row X w.heap.size 4 _ _ _ (blk_bel HT0.out hSw)
    go_simp <;> with_reducible rfl
  try simp only [Act.put, List.setIfInBounds_toArray, List.set_cons_zero, List.set_cons_succ]
  refine hl_one 6 rfl (by kernel_rfl) (fun K hK => ?_)
  go_simp
  refine Calls.mono (HRG.out _ (HZ0.out.below HS0.out (Nat.le_refl _))) ?_
  rintro e w1 ⟨g, rb, rfl, hrg, hg, hb⟩
  have HK : Hid (OfK w S ⟨zk, zp, zd, zi, m, zr⟩ #[.int .i64 l, .int .i64 a, .int .i64 d, .int .i64 t, .int .i64 s, .int .i64 p, .slice b q.length c] g rb m q w1) := Lib.hid (by
    have hb2 : Below (w.alloc (.cells #[.int .i64 zk, .int .i64 zp, .int .i64 zd, .int .i64 zi, .int .i64 m, .int .i64 zr] 35)).heap.size (w.alloc (.cells #[.int .i64 zk, .int .i64 zp, .int .i64 zd, .int .i64 zi, .int .i64 m, .int .i64 zr] 35)) w1 := HS0.out.trans hb
    have h1 : (w.alloc (.cells #[.int .i64 zk, .int .i64 zp, .int .i64 zd, .int .i64 zi, .int .i64 m, .int .i64 zr] 35)).drew.heap.size = w.heap.size + 1 := HSZ0.out
    rw [h1] at hrg hg
    exact ⟨blk_bel HB0.out hb2, hrg, hg, grb HG0.out hb2, blk_bel HT0.out hb2, hSl⟩)
  refine hK.out _ _ (HS0.out.trans hb) ?_
  clear hK hrg hg hb HS0 HB0 HT0 HZ0 HG0 HSZ0
  try simp only [Act.put, List.setIfInBounds_toArray, List.set_cons_zero, List.set_cons_succ]
  refine hl_done (by kernel_rfl) ?_
  go_simp
  have e1 := cell_of_row _ S 1 _ _ _ HK.out.box
  have f1 := frozen_of_row _ S 1 _ _ HK.out.box
  go_wp2_with fail
  refine Calls.mono (count_any S 1 a 1 (by omega) (by omega) _ e1 f1) ?_
  rintro e wx ⟨rfl, rfl⟩
  have HK : Hid (OfK w S ⟨zk, zp, zd, zi, m, zr⟩ #[.int .i64 l, .int .i64 (cnt1 a), .int .i64 d, .int .i64 t, .int .i64 s, .int .i64 p, .slice b q.length c] g rb m (q) _) := Lib.hid (HK.out.set 1 (.int .i64 (min (a + 1) 2147483647)))
  clear e1 f1
  by_cases hc : l ≠ -1 ∧ now - l < zp
  · skip
    have HR := Lib.hid (HG.out.trans (if_pos hc))
    rw [HR.out] at HP
    dsimp only at HP
    clear HR HG
    have q0 := cell_of_row _ S 0 _ _ _ HK.out.box
    have q1 := cell_of_row _ w.heap.size 1 _ _ _ HK.out.tsk
    have hb1 : (l != -1) = true := by simpa using hc.1
    have hw1 : IntKind.i64.wrap (now - l) = now - l := IntWalk.i64_in _ (by omega)
    have hb2 : decide (now - l < zp) = true := decide_eq_true hc.2
    go_wp2_with fail
    go_quiet (fail)
    rename_i nq
    have HK := Lib.hid (HK.out.dn nq)
    clear q0 q1
    have e3 := cell_of_row _ S 3 _ _ _ HK.out.box
    have f3 := frozen_of_row _ S 3 _ _ HK.out.box
    go_wp2_with fail
    refine Calls.mono (count_any S 3 t 1 (by omega) (by omega) _ e3 f3) ?_
    rintro e wx ⟨rfl, rfl⟩
    have HK : Hid (OfK w S ⟨zk, zp, zd, zi, m, zr⟩ #[.int .i64 l, .int .i64 (cnt1 a), .int .i64 d, .int .i64 (cnt1 t), .int .i64 s, .int .i64 p, .slice b q.length c] g rb m (q) _) := Lib.hid (HK.out.set 3 (.int .i64 (min (t + 1) 2147483647)))
    clear e3 f3
    go_wp2_with fail
    refine Calls.mono (HLS.out (q) _ _ _ HK.out.ring) ?_
    rintro e w9 ⟨ga, rfl, ho, hb⟩
    have HO := Lib.hid (own_base (B' := w.heap.size) ho HK.out.gr.size)
    have HK := Lib.hid (HK.out.bel hb)
    have e6 := cell_of_row w9 S 6 _ _ _ HK.out.box
    have f6 := frozen_of_row w9 S 6 _ _ HK.out.box
    have HK6 := Lib.hid (HK.out.set 6 (.slice (some ⟨ga, 0, none⟩) (q).length (q).length))
    have HO6 := Lib.hid (ownsRow_setCell_below (a := ⟨S, 6, none⟩) HO.out hSl (.slice (some ⟨ga, 0, none⟩) (q).length (q).length))
    clear ho hb HO HK
    go_wp2
    exact HP.out ga _ HK6.out.box HO6.out HK6.out.gr
  by_cases hl1 : l = -1
  · skip
    by_cases hfl : (q.length : Int) = m
    · skip
      have HR := Lib.hid ((HG.out.trans (if_neg hc)).trans (if_pos hfl))
      rw [HR.out] at HP
      dsimp only at HP
      clear HR HG
      have q0 := cell_of_row _ S 0 _ _ _ HK.out.box
      have q1 := cell_of_row _ w.heap.size 1 _ _ _ HK.out.tsk
      have hb1 : (l != -1) = false := by simpa using hl1
      go_wp2_with fail
      go_quiet (fail)
      rename_i nq
      clear q0 q1
      go_wp2_with fail
      refine Calls.mono (HPN.out _ _ _ (HK.out.dn nq).ring (by omega)) ?_
      rintro e wx ⟨rfl, jx, rfl⟩
      have HK := Lib.hid (HK.out.dn (nq + jx))
      have e4 := cell_of_row _ S 4 _ _ _ HK.out.box
      have f4 := frozen_of_row _ S 4 _ _ HK.out.box
      go_wp2_with fail
      refine Calls.mono (count_any S 4 s 1 (by omega) (by omega) _ e4 f4) ?_
      rintro e wx ⟨rfl, rfl⟩
      have HK : Hid (OfK w S ⟨zk, zp, zd, zi, m, zr⟩ #[.int .i64 l, .int .i64 (cnt1 a), .int .i64 d, .int .i64 t, .int .i64 (cnt1 s), .int .i64 p, .slice b q.length c] g rb m (q) _) := Lib.hid (HK.out.set 4 (.int .i64 (min (s + 1) 2147483647)))
      clear e4 f4
      go_wp2_with fail
      refine Calls.mono (HLS.out (q) _ _ _ HK.out.ring) ?_
      rintro e w9 ⟨ga, rfl, ho, hb⟩
      have HO := Lib.hid (own_base (B' := w.heap.size) ho HK.out.gr.size)
      have HK := Lib.hid (HK.out.bel hb)
      have e6 := cell_of_row w9 S 6 _ _ _ HK.out.box
      have f6 := frozen_of_row w9 S 6 _ _ HK.out.box
      have HK6 := Lib.hid (HK.out.set 6 (.slice (some ⟨ga, 0, none⟩) (q).length (q).length))
      have HO6 := Lib.hid (ownsRow_setCell_below (a := ⟨S, 6, none⟩) HO.out hSl (.slice (some ⟨ga, 0, none⟩) (q).length (q).length))
      clear ho hb HO HK
      go_wp2
      exact HP.out ga _ HK6.out.box HO6.out HK6.out.gr
    · skip
      have HR := Lib.hid ((HG.out.trans (if_neg hc)).trans (if_neg hfl))
      rw [HR.out] at HP
      dsimp only at HP
      clear HR HG
      obtain ⟨q2, hq2⟩ : ∃ q2 : List Int, q2 = q ++ [now] := ⟨_, rfl⟩
      rw [← hq2] at HP HPY
      clear hq2
      have q0 := cell_of_row _ S 0 _ _ _ HK.out.box
      have q1 := cell_of_row _ w.heap.size 1 _ _ _ HK.out.tsk
      have hb1 : (l != -1) = false := by simpa using hl1
      go_wp2_with fail
      go_quiet (fail)
      rename_i nq
      clear q0 q1
      go_wp2_with fail
      refine Calls.mono (HPY.out _ _ _ (HK.out.dn nq).ring (by omega)) ?_
      rintro e wx ⟨rfl, hrg, jx, hwx⟩
      have HK := Lib.hid ((HK.out.dn nq).push hrg hwx)
      clear hrg hwx
      have e0 := cell_of_row wx S 0 _ _ _ HK.out.box
      have f0 := frozen_of_row wx S 0 _ _ HK.out.box
      have HK : Hid (OfK w S ⟨zk, zp, zd, zi, m, zr⟩ #[.int .i64 now, .int .i64 (cnt1 a), .int .i64 d, .int .i64 t, .int .i64 s, .int .i64 p, .slice b q.length c] g rb m q2 _) := Lib.hid (HK.out.set 0 (.int .i64 now))
      go_wp2_with fail
      refine Calls.mono (HLS.out (q2) _ _ _ HK.out.ring) ?_
      rintro e w9 ⟨ga, rfl, ho, hb⟩
      have HO := Lib.hid (own_base (B' := w.heap.size) ho HK.out.gr.size)
      have HK := Lib.hid (HK.out.bel hb)
      have e6 := cell_of_row w9 S 6 _ _ _ HK.out.box
      have f6 := frozen_of_row w9 S 6 _ _ HK.out.box
      have HK6 := Lib.hid (HK.out.set 6 (.slice (some ⟨ga, 0, none⟩) (q2).length (q2).length))
      have HO6 := Lib.hid (ownsRow_setCell_below (a := ⟨S, 6, none⟩) HO.out hSl (.slice (some ⟨ga, 0, none⟩) (q2).length (q2).length))
      clear ho hb HO HK
      go_wp2
      exact HP.out ga _ HK6.out.box HO6.out HK6.out.gr
  · skip
    have hl2 : ¬ (now - l < zp) := fun h => hc ⟨hl1, h⟩
    by_cases hfl : (q.length : Int) = m
    · skip
      have HR := Lib.hid ((HG.out.trans (if_neg hc)).trans (if_pos hfl))
      rw [HR.out] at HP
      dsimp only at HP
      clear HR HG
      have q0 := cell_of_row _ S 0 _ _ _ HK.out.box
      have q1 := cell_of_row _ w.heap.size 1 _ _ _ HK.out.tsk
      have hb1 : (l != -1) = true := by simpa using hl1
      have hw1 : IntKind.i64.wrap (now - l) = now - l := IntWalk.i64_in _ (by omega)
      have hb2 : decide (now - l < zp) = false := decide_eq_false hl2
      go_wp2_with fail
      go_quiet (fail)
      rename_i nq
      clear q0 q1
      go_wp2_with fail
      refine Calls.mono (HPN.out _ _ _ (HK.out.dn nq).ring (by omega)) ?_
      rintro e wx ⟨rfl, jx, rfl⟩
      have HK := Lib.hid (HK.out.dn (nq + jx))
      have e4 := cell_of_row _ S 4 _ _ _ HK.out.box
      have f4 := frozen_of_row _ S 4 _ _ HK.out.box
      go_wp2_with fail
      refine Calls.mono (count_any S 4 s 1 (by omega) (by omega) _ e4 f4) ?_
      rintro e wx ⟨rfl, rfl⟩
      have HK : Hid (OfK w S ⟨zk, zp, zd, zi, m, zr⟩ #[.int .i64 l, .int .i64 (cnt1 a), .int .i64 d, .int .i64 t, .int .i64 (cnt1 s), .int .i64 p, .slice b q.length c] g rb m (q) _) := Lib.hid (HK.out.set 4 (.int .i64 (min (s + 1) 2147483647)))
      clear e4 f4
      go_wp2_with fail
      refine Calls.mono (HLS.out (q) _ _ _ HK.out.ring) ?_
      rintro e w9 ⟨ga, rfl, ho, hb⟩
      have HO := Lib.hid (own_base (B' := w.heap.size) ho HK.out.gr.size)
      have HK := Lib.hid (HK.out.bel hb)
      have e6 := cell_of_row w9 S 6 _ _ _ HK.out.box
      have f6 := frozen_of_row w9 S 6 _ _ HK.out.box
      have HK6 := Lib.hid (HK.out.set 6 (.slice (some ⟨ga, 0, none⟩) (q).length (q).length))
      have HO6 := Lib.hid (ownsRow_setCell_below (a := ⟨S, 6, none⟩) HO.out hSl (.slice (some ⟨ga, 0, none⟩) (q).length (q).length))
      clear ho hb HO HK
      go_wp2
      exact HP.out ga _ HK6.out.box HO6.out HK6.out.gr
    · skip
      have HR := Lib.hid ((HG.out.trans (if_neg hc)).trans (if_neg hfl))
      rw [HR.out] at HP
      dsimp only at HP
      clear HR HG
      obtain ⟨q2, hq2⟩ : ∃ q2 : List Int, q2 = q ++ [now] := ⟨_, rfl⟩
      rw [← hq2] at HP HPY
      clear hq2
      have q0 := cell_of_row _ S 0 _ _ _ HK.out.box
      have q1 := cell_of_row _ w.heap.size 1 _ _ _ HK.out.tsk
      have hb1 : (l != -1) = true := by simpa using hl1
      have hw1 : IntKind.i64.wrap (now - l) = now - l := IntWalk.i64_in _ (by omega)
      have hb2 : decide (now - l < zp) = false := decide_eq_false hl2
      go_wp2_with fail
      go_quiet (fail)
      rename_i nq
      clear q0 q1
      go_wp2_with fail
      refine Calls.mono (HPY.out _ _ _ (HK.out.dn nq).ring (by omega)) ?_
      rintro e wx ⟨rfl, hrg, jx, hwx⟩
      have HK := Lib.hid ((HK.out.dn nq).push hrg hwx)
      clear hrg hwx
      have e0 := cell_of_row wx S 0 _ _ _ HK.out.box
      have f0 := frozen_of_row wx S 0 _ _ HK.out.box
      have HK : Hid (OfK w S ⟨zk, zp, zd, zi, m, zr⟩ #[.int .i64 now, .int .i64 (cnt1 a), .int .i64 d, .int .i64 t, .int .i64 s, .int .i64 p, .slice b q.length c] g rb m q2 _) := Lib.hid (HK.out.set 0 (.int .i64 now))
      go_wp2_with fail
      refine Calls.mono (HLS.out (q2) _ _ _ HK.out.ring) ?_
      rintro e w9 ⟨ga, rfl, ho, hb⟩
      have HO := Lib.hid (own_base (B' := w.heap.size) ho HK.out.gr.size)
      have HK := Lib.hid (HK.out.bel hb)
      have e6 := cell_of_row w9 S 6 _ _ _ HK.out.box
      have f6 := frozen_of_row w9 S 6 _ _ HK.out.box
      have HK6 := Lib.hid (HK.out.set 6 (.slice (some ⟨ga, 0, none⟩) (q2).length (q2).length))
      have HO6 := Lib.hid (ownsRow_setCell_below (a := ⟨S, 6, none⟩) HO.out hSl (.slice (some ⟨ga, 0, none⟩) (q2).length (q2).length))
      clear ho hb HO HK
      go_wp2
      exact HP.out ga _ HK6.out.box HO6.out HK6.out.gr
def SrcPost (y : ST) (r : List Value) (w : World) (e : Ending) (w' : World) : Prop :=
  ∃ b c, e = .returned (.tuple (sV y b c :: r).toArray) ∧ w'.ownsRow w.heap.size 3 1 (.slice b y.q.length c) y.q.length (kC y.q) ∧ Below w.heap.size w w'
/-- Three boxes, and what was there. -/
structure E3 (w : World) (O O' O'' : Obj) (X : World) : Prop where
  bel : Below w.heap.size w X
  b0 : X.heap[w.heap.size]? = some O
  b1 : X.heap[w.heap.size + 1]? = some O'
  b2 : X.heap[w.heap.size + 2]? = some O''
theorem E3.start (w : World) (O O' O'' : Obj) : E3 w O O' O'' (((w.alloc O).alloc O').alloc O'') :=
  ⟨(((Below.refl w.heap.size w).alloc (Nat.le_refl _) O).alloc (by simp) O').alloc (by simp; omega) O'', (Below.heap_alloc _ O'' w.heap.size (by simp; omega)).trans (heap_alloc2_old w O O'), (Below.heap_alloc _ O'' (w.heap.size + 1) (by simp)).trans (heap_alloc2_new w O O'), by have := heap_alloc_new ((w.alloc O).alloc O') O''; simpa using this⟩
theorem E3.to {w X Y : World} {O O' O'' : Obj} (h : E3 w O O' O'' X) (hb : Below X.heap.size X Y) : E3 w O O' O'' Y := ⟨h.bel.trans (hb.mono h.bel.size), blk_bel h.b0 hb, blk_bel h.b1 hb, blk_bel h.b2 hb⟩
theorem E3.lt {w X : World} {O O' O'' : Obj} (h : E3 w O O' O'' X) : w.heap.size + 2 < X.heap.size := (Array.getElem?_eq_some_iff.1 h.b2).1
theorem E3.grow {w X Y : World} {O O' O'' : Obj} (h : E3 w O O' O'' X) (hg : X.grownBy Y (some w.heap.size)) {Q : Obj} (hq : Y.heap[w.heap.size]? = some Q) : E3 w Q O' O'' Y := by
  have hl := h.lt
  exact ⟨h.bel.grown hg h.bel.size (fun g e => by simp at e; omega), hq, (hg.block _ (by omega) (by simp)).trans h.b1, (hg.block _ (by omega) (by simp)).trans h.b2⟩
theorem own_set7 {w : World} {g base size n c : Nat} {e : TypeId} {a : Option Addr} {xs : List Value} (h : w.ownsRow base e size (.slice a n c) n xs) (hg : g < base) (u0 u1 u2 u3 u4 u5 u6 : Value) : (((((((w.setCell ⟨g, 0, none⟩ u0).setCell ⟨g, 1, none⟩ u1).setCell ⟨g, 2, none⟩ u2).setCell ⟨g, 3, none⟩ u3).setCell ⟨g, 4, none⟩ u4).setCell ⟨g, 5, none⟩ u5).setCell ⟨g, 6, none⟩ u6).ownsRow base e size (.slice a n c) n xs :=
  own_far (own_far (own_far (own_far (own_far (own_far (own_far h hg u0) hg u1) hg u2) hg u3) hg u4) hg u5) hg u6

set_option maxHeartbeats 4000000 in
theorem implOfferEvent_any (x : ST) (z : TT) (now : Int) (b : Option Addr) (c : Nat) (hm : x.q.length ≤ maxLen) (w : World) (hz : Lies w b (kC x.q)) :
    Calls Try.prog 23 #[sV x b c, tV z, .int .i64 now] w (SrcPost (offF x z now).1 [.int .i64 (offF x z now).2] w) := by
  have HX := Lib.hid (E3.start w (sO x b c 24) (tO z 35) (.cells #[.int .i64 0, .int .i64 0, .int .i64 0, .int .i64 0, .int .i64 0, .int .i64 0, .slice none 0 0] 24))
  have HZ := Lib.hid hz
  have HOK := Lib.hid (fun r (h : sOK x z = r) w hz => sok_is h b c hm w hz)
  have HF : Hid (offF x z now = if sOK x z = false then (s0, 1) else if tkIn now (max x.l 0) 2147483647 = false then (s0, 4) else offG x z now) := Lib.hid rfl
  have HIN := Lib.hid (@sOK_in x z)
  have HOF := Lib.hid (fun hx hnow b c S w hS hz => offer_any x z now b c S hx hnow w hS hz)
  generalize offF x z now = R at *
  generalize hP : SrcPost R.1 [.int .i64 R.2] w = POST at *
  clear hz
  by_cases hok : sOK x z = false
  · have HR := Lib.hid (HF.out.trans (if_pos hok))
    rw [HR.out] at hP
    clear HF HIN HOF
    obtain ⟨l, a, d, t, s, p, q⟩ := x
    obtain ⟨zk, zp, zd, zi, zq, zr⟩ := z
    dsimp only at *
    have HX : Hid (E3 w (.cells #[.int .i64 l, .int .i64 a, .int .i64 d, .int .i64 t, .int .i64 s, .int .i64 p, .slice b q.length c] 24) (.cells #[.int .i64 zk, .int .i64 zp, .int .i64 zd, .int .i64 zi, .int .i64 zq, .int .i64 zr] 35) (.cells #[.int .i64 0, .int .i64 0, .int .i64 0, .int .i64 0, .int .i64 0, .int .i64 0, .slice none 0 0] 24) (((w.alloc (.cells #[.int .i64 l, .int .i64 a, .int .i64 d, .int .i64 t, .int .i64 s, .int .i64 p, .slice b q.length c] 24)).alloc (.cells #[.int .i64 zk, .int .i64 zp, .int .i64 zd, .int .i64 zi, .int .i64 zq, .int .i64 zr] 35)).alloc (.cells #[.int .i64 0, .int .i64 0, .int .i64 0, .int .i64 0, .int .i64 0, .int .i64 0, .slice none 0 0] 24))) := HX
    have HOK : Hid (∀ r, sOK ⟨l, a, d, t, s, p, q⟩ ⟨zk, zp, zd, zi, zq, zr⟩ = r → ∀ w, Lies w b (kC q) → Calls Try.prog 21 #[.agg #[.int .i64 l, .int .i64 a, .int .i64 d, .int .i64 t, .int .i64 s, .int .i64 p, .slice b q.length c], .agg #[.int .i64 zk, .int .i64 zp, .int .i64 zd, .int .i64 zi, .int .i64 zq, .int .i64 zr]] w fun e w' => e = .returned (.bool r) ∧ Below w.heap.size w w') := HOK
    show Calls Try.prog 23 #[.agg #[.int .i64 l, .int .i64 a, .int .i64 d, .int .i64 t, .int .i64 s, .int .i64 p, .slice b q.length c], .agg #[.int .i64 zk, .int .i64 zp, .int .i64 zd, .int .i64 zi, .int .i64 zq, .int .i64 zr], .int .i64 now] w POST
    go_enter Try.func23, Try.ntmps23
    go_wp2_with fail
    refine Calls.mono (HOK.out _ hok _ (HZ.out.below HX.out.bel (Nat.le_refl _))) ?_
    rintro e w1 ⟨rfl, hb⟩
    have HX := Lib.hid (HX.out.to hb)
    clear hb
    have r0 := cell_of_row w1 (w.heap.size + 2) 0 _ _ _ HX.out.b2
    have f0 := frozen_of_row w1 (w.heap.size + 2) 0 _ _ HX.out.b2
    have r1 := cell_of_row w1 (w.heap.size + 2) 1 _ _ _ HX.out.b2
    have f1 := frozen_of_row w1 (w.heap.size + 2) 1 _ _ HX.out.b2
    have r2 := cell_of_row w1 (w.heap.size + 2) 2 _ _ _ HX.out.b2
    have f2 := frozen_of_row w1 (w.heap.size + 2) 2 _ _ HX.out.b2
    have r3 := cell_of_row w1 (w.heap.size + 2) 3 _ _ _ HX.out.b2
    have f3 := frozen_of_row w1 (w.heap.size + 2) 3 _ _ HX.out.b2
    have r4 := cell_of_row w1 (w.heap.size + 2) 4 _ _ _ HX.out.b2
    have f4 := frozen_of_row w1 (w.heap.size + 2) 4 _ _ HX.out.b2
    have r5 := cell_of_row w1 (w.heap.size + 2) 5 _ _ _ HX.out.b2
    have f5 := frozen_of_row w1 (w.heap.size + 2) 5 _ _ HX.out.b2
    have r6 := cell_of_row w1 (w.heap.size + 2) 6 _ _ _ HX.out.b2
    have f6 := frozen_of_row w1 (w.heap.size + 2) 6 _ _ HX.out.b2
    go_wp2
    refine bodyPost_ret (v := .tuple #[.agg #[.int .i64 0, .int .i64 0, .int .i64 0, .int .i64 0, .int .i64 0, .int .i64 0, .slice none 0 0], .int .i64 1]) (by simp [results, Try.results23, go_sem, r0, r1, r2, r3, r4, r5, r6]) rfl ?_
    rw [← hP]
    exact ⟨none, 0, rfl, World.ownsRow_nil _ _ _ _, ev_bel7 HX.out.bel (by omega) _ _ _ _ _ _ _⟩
  have HF := Lib.hid (HF.out.trans (if_neg hok))
  have hok : sOK x z = true := by simpa using hok
  by_cases hnow : tkIn now (max x.l 0) 2147483647 = false
  · have HR := Lib.hid (HF.out.trans (if_pos hnow))
    have hn2 := of_decide_eq_false hnow
    rw [HR.out] at hP
    clear HF HIN HOF HR hnow
    obtain ⟨l, a, d, t, s, p, q⟩ := x
    obtain ⟨zk, zp, zd, zi, zq, zr⟩ := z
    dsimp only at *
    have HX : Hid (E3 w (.cells #[.int .i64 l, .int .i64 a, .int .i64 d, .int .i64 t, .int .i64 s, .int .i64 p, .slice b q.length c] 24) (.cells #[.int .i64 zk, .int .i64 zp, .int .i64 zd, .int .i64 zi, .int .i64 zq, .int .i64 zr] 35) (.cells #[.int .i64 0, .int .i64 0, .int .i64 0, .int .i64 0, .int .i64 0, .int .i64 0, .slice none 0 0] 24) (((w.alloc (.cells #[.int .i64 l, .int .i64 a, .int .i64 d, .int .i64 t, .int .i64 s, .int .i64 p, .slice b q.length c] 24)).alloc (.cells #[.int .i64 zk, .int .i64 zp, .int .i64 zd, .int .i64 zi, .int .i64 zq, .int .i64 zr] 35)).alloc (.cells #[.int .i64 0, .int .i64 0, .int .i64 0, .int .i64 0, .int .i64 0, .int .i64 0, .slice none 0 0] 24))) := HX
    have HOK : Hid (∀ r, sOK ⟨l, a, d, t, s, p, q⟩ ⟨zk, zp, zd, zi, zq, zr⟩ = r → ∀ w, Lies w b (kC q) → Calls Try.prog 21 #[.agg #[.int .i64 l, .int .i64 a, .int .i64 d, .int .i64 t, .int .i64 s, .int .i64 p, .slice b q.length c], .agg #[.int .i64 zk, .int .i64 zp, .int .i64 zd, .int .i64 zi, .int .i64 zq, .int .i64 zr]] w fun e w' => e = .returned (.bool r) ∧ Below w.heap.size w w') := HOK
    by_cases ht : timeB now = false
    · have HT := Lib.hid ht
      clear ht
      show Calls Try.prog 23 #[.agg #[.int .i64 l, .int .i64 a, .int .i64 d, .int .i64 t, .int .i64 s, .int .i64 p, .slice b q.length c], .agg #[.int .i64 zk, .int .i64 zp, .int .i64 zd, .int .i64 zi, .int .i64 zq, .int .i64 zr], .int .i64 now] w POST
      go_enter Try.func23, Try.ntmps23
      go_wp2_with fail
      refine Calls.mono (HOK.out _ hok _ (HZ.out.below HX.out.bel (Nat.le_refl _))) ?_
      rintro e w1 ⟨rfl, hb⟩
      have HX := Lib.hid (HX.out.to hb)
      clear hb
      have c0 := cell_of_row w1 w.heap.size 0 _ _ _ HX.out.b0
      have r0 := cell_of_row w1 (w.heap.size + 2) 0 _ _ _ HX.out.b2
      have f0 := frozen_of_row w1 (w.heap.size + 2) 0 _ _ HX.out.b2
      have r1 := cell_of_row w1 (w.heap.size + 2) 1 _ _ _ HX.out.b2
      have f1 := frozen_of_row w1 (w.heap.size + 2) 1 _ _ HX.out.b2
      have r2 := cell_of_row w1 (w.heap.size + 2) 2 _ _ _ HX.out.b2
      have f2 := frozen_of_row w1 (w.heap.size + 2) 2 _ _ HX.out.b2
      have r3 := cell_of_row w1 (w.heap.size + 2) 3 _ _ _ HX.out.b2
      have f3 := frozen_of_row w1 (w.heap.size + 2) 3 _ _ HX.out.b2
      have r4 := cell_of_row w1 (w.heap.size + 2) 4 _ _ _ HX.out.b2
      have f4 := frozen_of_row w1 (w.heap.size + 2) 4 _ _ HX.out.b2
      have r5 := cell_of_row w1 (w.heap.size + 2) 5 _ _ _ HX.out.b2
      have f5 := frozen_of_row w1 (w.heap.size + 2) 5 _ _ HX.out.b2
      have r6 := cell_of_row w1 (w.heap.size + 2) 6 _ _ _ HX.out.b2
      have f6 := frozen_of_row w1 (w.heap.size + 2) 6 _ _ HX.out.b2
      go_wp2_with (go_at_call 47; refine (isTime_is HT.out _).mono ?_; rintro e w' ⟨rfl, rfl⟩)
      refine bodyPost_ret (v := .tuple #[.agg #[.int .i64 0, .int .i64 0, .int .i64 0, .int .i64 0, .int .i64 0, .int .i64 0, .slice none 0 0], .int .i64 4]) (by simp [results, Try.results23, go_sem, r0, r1, r2, r3, r4, r5, r6]) rfl ?_
      rw [← hP]
      exact ⟨none, 0, rfl, World.ownsRow_nil _ _ _ _, ev_bel7 HX.out.bel (by omega) _ _ _ _ _ _ _⟩
    have HT : Hid (timeB now = true) := Lib.hid (by simpa using ht)
    have ht2 := of_decide_eq_true HT.out
    have hlt : now < l := by omega
    clear ht
    show Calls Try.prog 23 #[.agg #[.int .i64 l, .int .i64 a, .int .i64 d, .int .i64 t, .int .i64 s, .int .i64 p, .slice b q.length c], .agg #[.int .i64 zk, .int .i64 zp, .int .i64 zd, .int .i64 zi, .int .i64 zq, .int .i64 zr], .int .i64 now] w POST
    go_enter Try.func23, Try.ntmps23
    go_wp2_with fail
    refine Calls.mono (HOK.out _ hok _ (HZ.out.below HX.out.bel (Nat.le_refl _))) ?_
    rintro e w1 ⟨rfl, hb⟩
    have HX := Lib.hid (HX.out.to hb)
    clear hb
    have c0 := cell_of_row w1 w.heap.size 0 _ _ _ HX.out.b0
    have r0 := cell_of_row w1 (w.heap.size + 2) 0 _ _ _ HX.out.b2
    have f0 := frozen_of_row w1 (w.heap.size + 2) 0 _ _ HX.out.b2
    have r1 := cell_of_row w1 (w.heap.size + 2) 1 _ _ _ HX.out.b2
    have f1 := frozen_of_row w1 (w.heap.size + 2) 1 _ _ HX.out.b2
    have r2 := cell_of_row w1 (w.heap.size + 2) 2 _ _ _ HX.out.b2
    have f2 := frozen_of_row w1 (w.heap.size + 2) 2 _ _ HX.out.b2
    have r3 := cell_of_row w1 (w.heap.size + 2) 3 _ _ _ HX.out.b2
    have f3 := frozen_of_row w1 (w.heap.size + 2) 3 _ _ HX.out.b2
    have r4 := cell_of_row w1 (w.heap.size + 2) 4 _ _ _ HX.out.b2
    have f4 := frozen_of_row w1 (w.heap.size + 2) 4 _ _ HX.out.b2
    have r5 := cell_of_row w1 (w.heap.size + 2) 5 _ _ _ HX.out.b2
    have f5 := frozen_of_row w1 (w.heap.size + 2) 5 _ _ HX.out.b2
    have r6 := cell_of_row w1 (w.heap.size + 2) 6 _ _ _ HX.out.b2
    have f6 := frozen_of_row w1 (w.heap.size + 2) 6 _ _ HX.out.b2
    go_wp2_with (go_at_call 47; refine (isTime_is HT.out _).mono ?_; rintro e w' ⟨rfl, rfl⟩)
    refine bodyPost_ret (v := .tuple #[.agg #[.int .i64 0, .int .i64 0, .int .i64 0, .int .i64 0, .int .i64 0, .int .i64 0, .slice none 0 0], .int .i64 4]) (by simp [results, Try.results23, go_sem, r0, r1, r2, r3, r4, r5, r6]) rfl ?_
    rw [← hP]
    exact ⟨none, 0, rfl, World.ownsRow_nil _ _ _ _, ev_bel7 HX.out.bel (by omega) _ _ _ _ _ _ _⟩
  have HF := Lib.hid (HF.out.trans (if_neg hnow))
  have hn2 : tkIn now (max x.l 0) 2147483647 = true := by simpa using hnow
  have hn3 := of_decide_eq_true hn2
  have HT : Hid (timeB now = true) := Lib.hid (decide_eq_true (by omega))
  have HOF := Lib.hid (HOF.out (HIN.out hok) (by omega))
  rw [← HF.out] at HOF
  clear HF HIN hnow hn2
  obtain ⟨l, a, d, t, s, p, q⟩ := x
  obtain ⟨zk, zp, zd, zi, zq, zr⟩ := z
  dsimp only at *
  have HX : Hid (E3 w (.cells #[.int .i64 l, .int .i64 a, .int .i64 d, .int .i64 t, .int .i64 s, .int .i64 p, .slice b q.length c] 24) (.cells #[.int .i64 zk, .int .i64 zp, .int .i64 zd, .int .i64 zi, .int .i64 zq, .int .i64 zr] 35) (.cells #[.int .i64 0, .int .i64 0, .int .i64 0, .int .i64 0, .int .i64 0, .int .i64 0, .slice none 0 0] 24) (((w.alloc (.cells #[.int .i64 l, .int .i64 a, .int .i64 d, .int .i64 t, .int .i64 s, .int .i64 p, .slice b q.length c] 24)).alloc (.cells #[.int .i64 zk, .int .i64 zp, .int .i64 zd, .int .i64 zi, .int .i64 zq, .int .i64 zr] 35)).alloc (.cells #[.int .i64 0, .int .i64 0, .int .i64 0, .int .i64 0, .int .i64 0, .int .i64 0, .slice none 0 0] 24))) := HX
  have HOK : Hid (∀ r, sOK ⟨l, a, d, t, s, p, q⟩ ⟨zk, zp, zd, zi, zq, zr⟩ = r → ∀ w, Lies w b (kC q) → Calls Try.prog 21 #[.agg #[.int .i64 l, .int .i64 a, .int .i64 d, .int .i64 t, .int .i64 s, .int .i64 p, .slice b q.length c], .agg #[.int .i64 zk, .int .i64 zp, .int .i64 zd, .int .i64 zi, .int .i64 zq, .int .i64 zr]] w fun e w' => e = .returned (.bool r) ∧ Below w.heap.size w w') := HOK
  have hlt : ¬ now < l := by omega
  have HOF : Hid (∀ b c S w, w.heap[S]? = some (sO ⟨l, a, d, t, s, p, q⟩ b c 24) → Lies w b (kC q) → Calls Try.prog 52 #[.pointer (some ⟨S, 0, none⟩), .agg #[.int .i64 zk, .int .i64 zp, .int .i64 zd, .int .i64 zi, .int .i64 zq, .int .i64 zr], .int .i64 now] w (OfPost R w S)) := HOF
  show Calls Try.prog 23 #[.agg #[.int .i64 l, .int .i64 a, .int .i64 d, .int .i64 t, .int .i64 s, .int .i64 p, .slice b q.length c], .agg #[.int .i64 zk, .int .i64 zp, .int .i64 zd, .int .i64 zi, .int .i64 zq, .int .i64 zr], .int .i64 now] w POST
  go_enter Try.func23, Try.ntmps23
  go_wp2_with fail
  refine Calls.mono (HOK.out _ hok _ (HZ.out.below HX.out.bel (Nat.le_refl _))) ?_
  rintro e w1 ⟨rfl, hb⟩
  have HX := Lib.hid (HX.out.to hb)
  clear hb
  have c0 := cell_of_row w1 w.heap.size 0 _ _ _ HX.out.b0
  have t0 := cell_of_row w1 (w.heap.size + 1) 0 _ _ _ HX.out.b1
  have t1 := cell_of_row w1 (w.heap.size + 1) 1 _ _ _ HX.out.b1
  have t2 := cell_of_row w1 (w.heap.size + 1) 2 _ _ _ HX.out.b1
  have t3 := cell_of_row w1 (w.heap.size + 1) 3 _ _ _ HX.out.b1
  have t4 := cell_of_row w1 (w.heap.size + 1) 4 _ _ _ HX.out.b1
  have t5 := cell_of_row w1 (w.heap.size + 1) 5 _ _ _ HX.out.b1
  have r0 := cell_of_row w1 (w.heap.size + 2) 0 _ _ _ HX.out.b2
  have f0 := frozen_of_row w1 (w.heap.size + 2) 0 _ _ HX.out.b2
  have r1 := cell_of_row w1 (w.heap.size + 2) 1 _ _ _ HX.out.b2
  have f1 := frozen_of_row w1 (w.heap.size + 2) 1 _ _ HX.out.b2
  have r2 := cell_of_row w1 (w.heap.size + 2) 2 _ _ _ HX.out.b2
  have f2 := frozen_of_row w1 (w.heap.size + 2) 2 _ _ HX.out.b2
  have r3 := cell_of_row w1 (w.heap.size + 2) 3 _ _ _ HX.out.b2
  have f3 := frozen_of_row w1 (w.heap.size + 2) 3 _ _ HX.out.b2
  have r4 := cell_of_row w1 (w.heap.size + 2) 4 _ _ _ HX.out.b2
  have f4 := frozen_of_row w1 (w.heap.size + 2) 4 _ _ HX.out.b2
  have r5 := cell_of_row w1 (w.heap.size + 2) 5 _ _ _ HX.out.b2
  have f5 := frozen_of_row w1 (w.heap.size + 2) 5 _ _ HX.out.b2
  have r6 := cell_of_row w1 (w.heap.size + 2) 6 _ _ _ HX.out.b2
  have f6 := frozen_of_row w1 (w.heap.size + 2) 6 _ _ HX.out.b2
  go_wp2_with (go_at_call 47; refine (isTime_is HT.out _).mono ?_; rintro e w' ⟨rfl, rfl⟩)
  clear c0 t0 t1 t2 t3 t4 t5 r0 r1 r2 r3 r4 r5 r6 f0 f1 f2 f3 f4 f5 f6
  refine Calls.mono (HOF.out b c _ _ HX.out.b0 (HZ.out.below HX.out.bel (Nat.le_refl _))) ?_
  rintro e w2 ⟨rfl, ga, hbx, ho, hg⟩
  have HLT := Lib.hid HX.out.lt
  have HX := Lib.hid (HX.out.grow hg hbx)
  have HO := Lib.hid ho
  clear hbx ho hg
  obtain ⟨⟨l', a', d', t', s', p', q'⟩, code⟩ := R
  dsimp only at *
  have HX : Hid (E3 w (.cells #[.int .i64 l', .int .i64 a', .int .i64 d', .int .i64 t', .int .i64 s', .int .i64 p', .slice (some ⟨ga, 0, none⟩) q'.length q'.length] 24) (.cells #[.int .i64 zk, .int .i64 zp, .int .i64 zd, .int .i64 zi, .int .i64 zq, .int .i64 zr] 35) (.cells #[.int .i64 0, .int .i64 0, .int .i64 0, .int .i64 0, .int .i64 0, .int .i64 0, .slice none 0 0] 24) w2) := HX
  have c0 := cell_of_row w2 w.heap.size 0 _ _ _ HX.out.b0
  have c1 := cell_of_row w2 w.heap.size 1 _ _ _ HX.out.b0
  have c2 := cell_of_row w2 w.heap.size 2 _ _ _ HX.out.b0
  have c3 := cell_of_row w2 w.heap.size 3 _ _ _ HX.out.b0
  have c4 := cell_of_row w2 w.heap.size 4 _ _ _ HX.out.b0
  have c5 := cell_of_row w2 w.heap.size 5 _ _ _ HX.out.b0
  have c6 := cell_of_row w2 w.heap.size 6 _ _ _ HX.out.b0
  have r0 := cell_of_row w2 (w.heap.size + 2) 0 _ _ _ HX.out.b2
  have f0 := frozen_of_row w2 (w.heap.size + 2) 0 _ _ HX.out.b2
  have r1 := cell_of_row w2 (w.heap.size + 2) 1 _ _ _ HX.out.b2
  have f1 := frozen_of_row w2 (w.heap.size + 2) 1 _ _ HX.out.b2
  have r2 := cell_of_row w2 (w.heap.size + 2) 2 _ _ _ HX.out.b2
  have f2 := frozen_of_row w2 (w.heap.size + 2) 2 _ _ HX.out.b2
  have r3 := cell_of_row w2 (w.heap.size + 2) 3 _ _ _ HX.out.b2
  have f3 := frozen_of_row w2 (w.heap.size + 2) 3 _ _ HX.out.b2
  have r4 := cell_of_row w2 (w.heap.size + 2) 4 _ _ _ HX.out.b2
  have f4 := frozen_of_row w2 (w.heap.size + 2) 4 _ _ HX.out.b2
  have r5 := cell_of_row w2 (w.heap.size + 2) 5 _ _ _ HX.out.b2
  have f5 := frozen_of_row w2 (w.heap.size + 2) 5 _ _ HX.out.b2
  have r6 := cell_of_row w2 (w.heap.size + 2) 6 _ _ _ HX.out.b2
  have f6 := frozen_of_row w2 (w.heap.size + 2) 6 _ _ HX.out.b2
  go_wp2
  refine bodyPost_ret (v := .tuple #[.agg #[.int .i64 l', .int .i64 a', .int .i64 d', .int .i64 t', .int .i64 s', .int .i64 p', .slice (some ⟨ga, 0, none⟩) q'.length q'.length], .int .i64 code]) (by simp [results, Try.results23, go_sem, r0, r1, r2, r3, r4, r5, r6]) rfl ?_
  rw [← hP]
  refine ⟨_, _, rfl, own_base (own_set7 HO.out HLT.out _ _ _ _ _ _ _) (by have := HLT.out; omega), ev_bel7 HX.out.bel (by omega) _ _ _ _ _ _ _⟩
theorem E3.dn {w X : World} {O O' O'' : Obj} (h : E3 w O O' O'' X) (k : Nat) : E3 w O O' O'' (X.drewN k) := ⟨bel_dn h.bel k, h.b0, h.b1, h.b2⟩
theorem E3.far {w X : World} {O O' O'' : Obj} (h : E3 w O O' O'' X) {g i : Nat} (hg : w.heap.size + 2 < g) (v : Value) : E3 w O O' O'' (X.setCell ⟨g, i, none⟩ v) :=
  ⟨h.bel.setCell (p := ⟨g, i, none⟩) (by simp only; omega) v, blk_far h.b0 (by omega) v, blk_far h.b1 (by omega) v, blk_far h.b2 (by omega) v⟩
theorem E3.put {w X : World} {cs : Array Value} {T : TypeId} {O' O'' : Obj} (h : E3 w (.cells cs T) O' O'' X) (i : Nat) (v : Value) : E3 w (.cells (cs.setIfInBounds i v) T) O' O'' (X.setCell ⟨w.heap.size, i, none⟩ v) :=
  ⟨h.bel.setCell (p := ⟨w.heap.size, i, none⟩) (Nat.le_refl _) v, wk_set h.b0 i v, blk_far h.b1 (by omega) v, blk_far h.b2 (by omega) v⟩
theorem takF_no {x : ST} {z : TT} (h : sOK x z = false) : takF x z = (s0, 0, 1) := if_pos h
theorem takF_nil {x : ST} {z : TT} (h : sOK x z = true) (hq : x.q = []) : takF x z = (x, 0, 5) := by unfold takF; rw [if_neg (by rw [h]; simp), hq]
theorem takF_cons {x : ST} {z : TT} {a : Int} {r : List Int} (h : sOK x z = true) (hq : x.q = a :: r) : takF x z = (⟨x.l, x.a, x.d, x.t, x.s, x.p, r⟩, a, 0) := by unfold takF; rw [if_neg (by rw [h]; simp), hq]
set_option maxHeartbeats 4000000 in
theorem implTakeEvent_any (x : ST) (z : TT) (b : Option Addr) (c : Nat) (hm : x.q.length ≤ maxLen) (w : World) (hz : Lies w b (kC x.q)) :
    Calls Try.prog 25 #[sV x b c, tV z] w (SrcPost (takF x z).1 [.int .i64 (takF x z).2.1, .int .i64 (takF x z).2.2] w) := by
  have HX := Lib.hid (E3.start w (sO x b c 24) (tO z 35) (.cells #[.int .i64 0, .int .i64 0, .int .i64 0, .int .i64 0, .int .i64 0, .int .i64 0, .slice none 0 0] 24))
  have HZ := Lib.hid hz
  have HOK := Lib.hid (fun r (h : sOK x z = r) w hz => sok_is h b c hm w hz)
  have HIN := Lib.hid (@sOK_in x z)
  have HF0 := Lib.hid (@takF_no x z)
  have HF1 := Lib.hid (@takF_nil x z)
  have HF2 := Lib.hid (fun a r => @takF_cons x z a r)
  generalize takF x z = R at *
  generalize hP : SrcPost R.1 [.int .i64 R.2.1, .int .i64 R.2.2] w = POST at *
  clear hz
  by_cases hok : sOK x z = false
  · have HR := Lib.hid (HF0.out hok)
    rw [HR.out] at hP
    clear HF0 HF1 HF2 HIN
    obtain ⟨l, a, d, t, s, p, q⟩ := x
    obtain ⟨zk, zp, zd, zi, zq, zr⟩ := z
    dsimp only at *
    have HX : Hid (E3 w (.cells #[.int .i64 l, .int .i64 a, .int .i64 d, .int .i64 t, .int .i64 s, .int .i64 p, .slice b q.length c] 24) (.cells #[.int .i64 zk, .int .i64 zp, .int .i64 zd, .int .i64 zi, .int .i64 zq, .int .i64 zr] 35) (.cells #[.int .i64 0, .int .i64 0, .int .i64 0, .int .i64 0, .int .i64 0, .int .i64 0, .slice none 0 0] 24) (((w.alloc (.cells #[.int .i64 l, .int .i64 a, .int .i64 d, .int .i64 t, .int .i64 s, .int .i64 p, .slice b q.length c] 24)).alloc (.cells #[.int .i64 zk, .int .i64 zp, .int .i64 zd, .int .i64 zi, .int .i64 zq, .int .i64 zr] 35)).alloc (.cells #[.int .i64 0, .int .i64 0, .int .i64 0, .int .i64 0, .int .i64 0, .int .i64 0, .slice none 0 0] 24))) := HX
    have HOK : Hid (∀ r, sOK ⟨l, a, d, t, s, p, q⟩ ⟨zk, zp, zd, zi, zq, zr⟩ = r → ∀ w, Lies w b (kC q) → Calls Try.prog 21 #[.agg #[.int .i64 l, .int .i64 a, .int .i64 d, .int .i64 t, .int .i64 s, .int .i64 p, .slice b q.length c], .agg #[.int .i64 zk, .int .i64 zp, .int .i64 zd, .int .i64 zi, .int .i64 zq, .int .i64 zr]] w fun e w' => e = .returned (.bool r) ∧ Below w.heap.size w w') := HOK
    show Calls Try.prog 25 #[.agg #[.int .i64 l, .int .i64 a, .int .i64 d, .int .i64 t, .int .i64 s, .int .i64 p, .slice b q.length c], .agg #[.int .i64 zk, .int .i64 zp, .int .i64 zd, .int .i64 zi, .int .i64 zq, .int .i64 zr]] w POST
    go_enter Try.func25, Try.ntmps25
    go_wp2_with fail
    refine Calls.mono (HOK.out _ hok _ (HZ.out.below HX.out.bel (Nat.le_refl _))) ?_
    rintro e w1 ⟨rfl, hb⟩
    have HX := Lib.hid (HX.out.to hb)
    clear hb
    have r0 := cell_of_row w1 (w.heap.size + 2) 0 _ _ _ HX.out.b2
    have f0 := frozen_of_row w1 (w.heap.size + 2) 0 _ _ HX.out.b2
    have r1 := cell_of_row w1 (w.heap.size + 2) 1 _ _ _ HX.out.b2
    have f1 := frozen_of_row w1 (w.heap.size + 2) 1 _ _ HX.out.b2
    have r2 := cell_of_row w1 (w.heap.size + 2) 2 _ _ _ HX.out.b2
    have f2 := frozen_of_row w1 (w.heap.size + 2) 2 _ _ HX.out.b2
    have r3 := cell_of_row w1 (w.heap.size + 2) 3 _ _ _ HX.out.b2
    have f3 := frozen_of_row w1 (w.heap.size + 2) 3 _ _ HX.out.b2
    have r4 := cell_of_row w1 (w.heap.size + 2) 4 _ _ _ HX.out.b2
    have f4 := frozen_of_row w1 (w.heap.size + 2) 4 _ _ HX.out.b2
    have r5 := cell_of_row w1 (w.heap.size + 2) 5 _ _ _ HX.out.b2
    have f5 := frozen_of_row w1 (w.heap.size + 2) 5 _ _ HX.out.b2
    have r6 := cell_of_row w1 (w.heap.size + 2) 6 _ _ _ HX.out.b2
    have f6 := frozen_of_row w1 (w.heap.size + 2) 6 _ _ HX.out.b2
    go_wp2
    refine bodyPost_ret (v := .tuple #[.agg #[.int .i64 0, .int .i64 0, .int .i64 0, .int .i64 0, .int .i64 0, .int .i64 0, .slice none 0 0], .int .i64 0, .int .i64 1]) (by simp [results, Try.results25, go_sem, r0, r1, r2, r3, r4, r5, r6]) rfl ?_
    rw [← hP]
    exact ⟨none, 0, rfl, World.ownsRow_nil _ _ _ _, ev_bel7 HX.out.bel (by omega) _ _ _ _ _ _ _⟩
  have hok : sOK x z = true := by simpa using hok
  have HG1 := Lib.hid (HF1.out hok)
  have HG2 := Lib.hid (fun a r => HF2.out a r hok)
  clear HF1 HF2
  obtain ⟨tq1, tq2, tp1, tp2⟩ := tkB_q (HIN.out hok).tk
  have hxn := (HIN.out hok).n
  have HRG := Lib.hid (fun X hX => ringOf_any x.q b c z.q.toNat (by omega) (by omega) X hX)
  have HLS := Lib.hid (fun q B g rb f X (hX : Rg B g rb z.q.toNat f q X) => list_any B g rb z.q.toNat f q (by omega) X hX)
  have HPN := Lib.hid (fun B g rb f X (hX : Rg B g rb z.q.toNat f [] X) => pop_no B g rb z.q.toNat f X hX)
  have HPY := Lib.hid (fun B g rb f a r X (hX : Rg B g rb z.q.toNat f (a :: r) X) => pop_yes B g rb z.q.toNat f a r (by omega) X hX)
  clear HIN HF0
  obtain ⟨l, a, d, t, s, p, q⟩ := x
  obtain ⟨zk, zp, zd, zi, zq, zr⟩ := z
  dsimp only at *
  have HX : Hid (E3 w (.cells #[.int .i64 l, .int .i64 a, .int .i64 d, .int .i64 t, .int .i64 s, .int .i64 p, .slice b q.length c] 24) (.cells #[.int .i64 zk, .int .i64 zp, .int .i64 zd, .int .i64 zi, .int .i64 zq, .int .i64 zr] 35) (.cells #[.int .i64 0, .int .i64 0, .int .i64 0, .int .i64 0, .int .i64 0, .int .i64 0, .slice none 0 0] 24) (((w.alloc (.cells #[.int .i64 l, .int .i64 a, .int .i64 d, .int .i64 t, .int .i64 s, .int .i64 p, .slice b q.length c] 24)).alloc (.cells #[.int .i64 zk, .int .i64 zp, .int .i64 zd, .int .i64 zi, .int .i64 zq, .int .i64 zr] 35)).alloc (.cells #[.int .i64 0, .int .i64 0, .int .i64 0, .int .i64 0, .int .i64 0, .int .i64 0, .slice none 0 0] 24))) := HX
  have HOK : Hid (∀ r, sOK ⟨l, a, d, t, s, p, q⟩ ⟨zk, zp, zd, zi, zq, zr⟩ = r → ∀ w, Lies w b (kC q) → Calls Try.prog 21 #[.agg #[.int .i64 l, .int .i64 a, .int .i64 d, .int .i64 t, .int .i64 s, .int .i64 p, .slice b q.length c], .agg #[.int .i64 zk, .int .i64 zp, .int .i64 zd, .int .i64 zi, .int .i64 zq, .int .i64 zr]] w fun e w' => e = .returned (.bool r) ∧ Below w.heap.size w w') := HOK
  obtain ⟨m, rfl⟩ : ∃ m : Nat, zq = m := ⟨zq.toNat, by omega⟩
  rw [Int.toNat_natCast] at *
  show Calls Try.prog 25 #[.agg #[.int .i64 l, .int .i64 a, .int .i64 d, .int .i64 t, .int .i64 s, .int .i64 p, .slice b q.length c], .agg #[.int .i64 zk, .int .i64 zp, .int .i64 zd, .int .i64 zi, .int .i64 m, .int .i64 zr]] w POST
  go_enter Try.func25, Try.ntmps25
  go_wp2_with fail
  refine Calls.mono (HOK.out _ hok _ (HZ.out.below HX.out.bel (Nat.le_refl _))) ?_
  rintro e w1 ⟨rfl, hb⟩
  have HX := Lib.hid (HX.out.to hb)
  clear hb
  have c6 := cell_of_row w1 w.heap.size 6 _ _ _ HX.out.b0
  have t4 := cell_of_row w1 (w.heap.size + 1) 4 _ _ _ HX.out.b1
  go_wp2_with fail
  refine Calls.mono (HRG.out _ (HZ.out.below HX.out.bel (Nat.le_refl _))) ?_
  rintro e w2 ⟨g, rb, rfl, hrg, hg, hb⟩
  have HLT := Lib.hid HX.out.lt
  have HX := Lib.hid (HX.out.to hb)
  have HG := Lib.hid hg
  have HRN := Lib.hid hrg
  have HS2 := Lib.hid hb.size
  clear hrg hg hb c6 t4 HRG
  rcases hq : q with _ | ⟨aa, r⟩
  · skip
    have HR := Lib.hid (HG1.out hq)
    have HQ := Lib.hid hq
    clear hq HG1 HG2 HPY
    rw [HR.out] at hP
    go_wp2_with fail
    refine Calls.mono (HPN.out _ _ _ _ _ (HQ.out ▸ HRN.out)) ?_
    rintro e w' ⟨rfl, rfl⟩
    go_wp2_with fail
    refine Calls.mono (HLS.out _ _ _ _ _ _ HRN.out) ?_
    rintro e w4 ⟨ga, rfl, ho, hb⟩
    have HX := Lib.hid (HX.out.to hb)
    have HL4 := Lib.hid (show w.heap.size + 2 < w2.heap.size by have := HLT.out; have := HS2.out; omega)
    have HO := Lib.hid ho
    clear ho hb HRN
    have c6 := cell_of_row w4 w.heap.size 6 _ _ _ HX.out.b0
    have g6 := frozen_of_row w4 w.heap.size 6 _ _ HX.out.b0
    have c0 := cell_of_row w4 w.heap.size 0 _ _ _ HX.out.b0
    have c1 := cell_of_row w4 w.heap.size 1 _ _ _ HX.out.b0
    have c2 := cell_of_row w4 w.heap.size 2 _ _ _ HX.out.b0
    have c3 := cell_of_row w4 w.heap.size 3 _ _ _ HX.out.b0
    have c4 := cell_of_row w4 w.heap.size 4 _ _ _ HX.out.b0
    have c5 := cell_of_row w4 w.heap.size 5 _ _ _ HX.out.b0
    have r0 := cell_of_row w4 (w.heap.size + 2) 0 _ _ _ HX.out.b2
    have f0 := frozen_of_row w4 (w.heap.size + 2) 0 _ _ HX.out.b2
    have r1 := cell_of_row w4 (w.heap.size + 2) 1 _ _ _ HX.out.b2
    have f1 := frozen_of_row w4 (w.heap.size + 2) 1 _ _ HX.out.b2
    have r2 := cell_of_row w4 (w.heap.size + 2) 2 _ _ _ HX.out.b2
    have f2 := frozen_of_row w4 (w.heap.size + 2) 2 _ _ HX.out.b2
    have r3 := cell_of_row w4 (w.heap.size + 2) 3 _ _ _ HX.out.b2
    have f3 := frozen_of_row w4 (w.heap.size + 2) 3 _ _ HX.out.b2
    have r4 := cell_of_row w4 (w.heap.size + 2) 4 _ _ _ HX.out.b2
    have f4 := frozen_of_row w4 (w.heap.size + 2) 4 _ _ HX.out.b2
    have r5 := cell_of_row w4 (w.heap.size + 2) 5 _ _ _ HX.out.b2
    have f5 := frozen_of_row w4 (w.heap.size + 2) 5 _ _ HX.out.b2
    have r6 := cell_of_row w4 (w.heap.size + 2) 6 _ _ _ HX.out.b2
    have f6 := frozen_of_row w4 (w.heap.size + 2) 6 _ _ HX.out.b2
    have HX6 := Lib.hid (HX.out.put 6 (.slice (some ⟨ga, 0, none⟩) q.length q.length))
    have HO6 := Lib.hid (ownsRow_setCell_below (a := ⟨w.heap.size, 6, none⟩) HO.out (show w.heap.size < _ by have := HL4.out; omega) (.slice (some ⟨ga, 0, none⟩) q.length q.length))
    go_wp2
    refine bodyPost_ret (v := .tuple #[.agg #[.int .i64 l, .int .i64 a, .int .i64 d, .int .i64 t, .int .i64 s, .int .i64 p, .slice (some ⟨ga, 0, none⟩) q.length q.length], .int .i64 0, .int .i64 5]) (by simp [results, Try.results25, go_sem, r0, r1, r2, r3, r4, r5, r6]) rfl ?_
    rw [← hP]
    exact ⟨_, _, rfl, own_base (own_set7 HO6.out HL4.out _ _ _ _ _ _ _) (by have := HL4.out; omega), ev_bel7 HX6.out.bel (by omega) _ _ _ _ _ _ _⟩
  · skip
    have HR := Lib.hid (HG2.out aa r hq)
    have HQ := Lib.hid hq
    clear hq HG1 HG2 HPN
    rw [HR.out] at hP
    dsimp only at hP
    go_wp2_with fail
    refine Calls.mono (HPY.out _ _ _ _ aa r _ (HQ.out ▸ HRN.out)) ?_
    rintro e w3 ⟨rfl, hrg, k, rfl⟩
    have HX := Lib.hid (((HX.out.dn k).far (i := 1) (show w.heap.size + 2 < g by have := HLT.out; have := HG.out; omega) (.int .i64 (nxt 0 m))).far (i := 2) (show w.heap.size + 2 < g by have := HLT.out; have := HG.out; omega) (.int .i64 r.length))
    have HRN := Lib.hid hrg
    have HL4 := Lib.hid (show w.heap.size + 2 < (((w2.drewN k).setCell ⟨g, 1, none⟩ (.int .i64 (nxt 0 m))).setCell ⟨g, 2, none⟩ (.int .i64 r.length)).heap.size by have := HLT.out; have := HS2.out; simp only [World.setCell, Array.size_modify]; show w.heap.size + 2 < w2.heap.size; omega)
    clear hrg
    generalize ((w2.drewN k).setCell ⟨g, 1, none⟩ (.int .i64 (nxt 0 m))).setCell ⟨g, 2, none⟩ (.int .i64 r.length) = w3 at *
    generalize nxt 0 m = f1 at *
    go_wp2_with fail
    refine Calls.mono (HLS.out _ _ _ _ _ _ HRN.out) ?_
    rintro e w4 ⟨ga, rfl, ho, hb⟩
    have HX := Lib.hid (HX.out.to hb)
    have HO := Lib.hid ho
    clear ho hb HRN
    have c6 := cell_of_row w4 w.heap.size 6 _ _ _ HX.out.b0
    have g6 := frozen_of_row w4 w.heap.size 6 _ _ HX.out.b0
    have c0 := cell_of_row w4 w.heap.size 0 _ _ _ HX.out.b0
    have c1 := cell_of_row w4 w.heap.size 1 _ _ _ HX.out.b0
    have c2 := cell_of_row w4 w.heap.size 2 _ _ _ HX.out.b0
    have c3 := cell_of_row w4 w.heap.size 3 _ _ _ HX.out.b0
    have c4 := cell_of_row w4 w.heap.size 4 _ _ _ HX.out.b0
    have c5 := cell_of_row w4 w.heap.size 5 _ _ _ HX.out.b0
    have r0 := cell_of_row w4 (w.heap.size + 2) 0 _ _ _ HX.out.b2
    have f0 := frozen_of_row w4 (w.heap.size + 2) 0 _ _ HX.out.b2
    have r1 := cell_of_row w4 (w.heap.size + 2) 1 _ _ _ HX.out.b2
    have f1 := frozen_of_row w4 (w.heap.size + 2) 1 _ _ HX.out.b2
    have r2 := cell_of_row w4 (w.heap.size + 2) 2 _ _ _ HX.out.b2
    have f2 := frozen_of_row w4 (w.heap.size + 2) 2 _ _ HX.out.b2
    have r3 := cell_of_row w4 (w.heap.size + 2) 3 _ _ _ HX.out.b2
    have f3 := frozen_of_row w4 (w.heap.size + 2) 3 _ _ HX.out.b2
    have r4 := cell_of_row w4 (w.heap.size + 2) 4 _ _ _ HX.out.b2
    have f4 := frozen_of_row w4 (w.heap.size + 2) 4 _ _ HX.out.b2
    have r5 := cell_of_row w4 (w.heap.size + 2) 5 _ _ _ HX.out.b2
    have f5 := frozen_of_row w4 (w.heap.size + 2) 5 _ _ HX.out.b2
    have r6 := cell_of_row w4 (w.heap.size + 2) 6 _ _ _ HX.out.b2
    have f6 := frozen_of_row w4 (w.heap.size + 2) 6 _ _ HX.out.b2
    have HX6 := Lib.hid (HX.out.put 6 (.slice (some ⟨ga, 0, none⟩) r.length r.length))
    have HO6 := Lib.hid (ownsRow_setCell_below (a := ⟨w.heap.size, 6, none⟩) HO.out (show w.heap.size < _ by have := HL4.out; omega) (.slice (some ⟨ga, 0, none⟩) r.length r.length))
    go_wp2
    refine bodyPost_ret (v := .tuple #[.agg #[.int .i64 l, .int .i64 a, .int .i64 d, .int .i64 t, .int .i64 s, .int .i64 p, .slice (some ⟨ga, 0, none⟩) r.length r.length], .int .i64 aa, .int .i64 0]) (by simp [results, Try.results25, go_sem, r0, r1, r2, r3, r4, r5, r6]) rfl ?_
    rw [← hP]
    exact ⟨_, _, rfl, own_base (own_set7 HO6.out HL4.out _ _ _ _ _ _ _) (by have := HL4.out; omega), ev_bel7 HX6.out.bel (by omega) _ _ _ _ _ _ _⟩
set_option maxHeartbeats 4000000 in
theorem implDropEvents_any (x : ST) (z : TT) (rn : Bool) (b : Option Addr) (c : Nat) (hm : x.q.length ≤ maxLen) (w : World) (hz : Lies w b (kC x.q)) :
    Calls Try.prog 27 #[sV x b c, tV z, .bool rn] w (SrcPost (drpF x z rn).1 [.int .i64 (drpF x z rn).2] w) := by
  have HX := Lib.hid (E3.start w (sO x b c 24) (tO z 35) (.cells #[.int .i64 0, .int .i64 0, .int .i64 0, .int .i64 0, .int .i64 0, .int .i64 0, .slice none 0 0] 24))
  have HZ := Lib.hid hz
  have HOK := Lib.hid (fun r (h : sOK x z = r) w hz => sok_is h b c hm w hz)
  have HIN := Lib.hid (@sOK_in x z)
  have HF : Hid (drpF x z rn = if sOK x z = false then (s0, 1) else (⟨x.l, x.a, x.d, x.t, x.s, min (x.p + (x.q.length + bitE rn)) 2147483647, []⟩, 0)) := Lib.hid rfl
  generalize drpF x z rn = R at *
  generalize hP : SrcPost R.1 [.int .i64 R.2] w = POST at *
  clear hz
  by_cases hok : sOK x z = false
  · have HR := Lib.hid (HF.out.trans (if_pos hok))
    rw [HR.out] at hP
    clear HF HIN
    obtain ⟨l, a, d, t, s, p, q⟩ := x
    obtain ⟨zk, zp, zd, zi, zq, zr⟩ := z
    dsimp only at *
    have HX : Hid (E3 w (.cells #[.int .i64 l, .int .i64 a, .int .i64 d, .int .i64 t, .int .i64 s, .int .i64 p, .slice b q.length c] 24) (.cells #[.int .i64 zk, .int .i64 zp, .int .i64 zd, .int .i64 zi, .int .i64 zq, .int .i64 zr] 35) (.cells #[.int .i64 0, .int .i64 0, .int .i64 0, .int .i64 0, .int .i64 0, .int .i64 0, .slice none 0 0] 24) (((w.alloc (.cells #[.int .i64 l, .int .i64 a, .int .i64 d, .int .i64 t, .int .i64 s, .int .i64 p, .slice b q.length c] 24)).alloc (.cells #[.int .i64 zk, .int .i64 zp, .int .i64 zd, .int .i64 zi, .int .i64 zq, .int .i64 zr] 35)).alloc (.cells #[.int .i64 0, .int .i64 0, .int .i64 0, .int .i64 0, .int .i64 0, .int .i64 0, .slice none 0 0] 24))) := HX
    have HOK : Hid (∀ r, sOK ⟨l, a, d, t, s, p, q⟩ ⟨zk, zp, zd, zi, zq, zr⟩ = r → ∀ w, Lies w b (kC q) → Calls Try.prog 21 #[.agg #[.int .i64 l, .int .i64 a, .int .i64 d, .int .i64 t, .int .i64 s, .int .i64 p, .slice b q.length c], .agg #[.int .i64 zk, .int .i64 zp, .int .i64 zd, .int .i64 zi, .int .i64 zq, .int .i64 zr]] w fun e w' => e = .returned (.bool r) ∧ Below w.heap.size w w') := HOK
    show Calls Try.prog 27 #[.agg #[.int .i64 l, .int .i64 a, .int .i64 d, .int .i64 t, .int .i64 s, .int .i64 p, .slice b q.length c], .agg #[.int .i64 zk, .int .i64 zp, .int .i64 zd, .int .i64 zi, .int .i64 zq, .int .i64 zr], .bool rn] w POST
    go_enter Try.func27, Try.ntmps27
    go_wp2_with fail
    refine Calls.mono (HOK.out _ hok _ (HZ.out.below HX.out.bel (Nat.le_refl _))) ?_
    rintro e w1 ⟨rfl, hb⟩
    have HX := Lib.hid (HX.out.to hb)
    clear hb
    have r0 := cell_of_row w1 (w.heap.size + 2) 0 _ _ _ HX.out.b2
    have f0 := frozen_of_row w1 (w.heap.size + 2) 0 _ _ HX.out.b2
    have r1 := cell_of_row w1 (w.heap.size + 2) 1 _ _ _ HX.out.b2
    have f1 := frozen_of_row w1 (w.heap.size + 2) 1 _ _ HX.out.b2
    have r2 := cell_of_row w1 (w.heap.size + 2) 2 _ _ _ HX.out.b2
    have f2 := frozen_of_row w1 (w.heap.size + 2) 2 _ _ HX.out.b2
    have r3 := cell_of_row w1 (w.heap.size + 2) 3 _ _ _ HX.out.b2
    have f3 := frozen_of_row w1 (w.heap.size + 2) 3 _ _ HX.out.b2
    have r4 := cell_of_row w1 (w.heap.size + 2) 4 _ _ _ HX.out.b2
    have f4 := frozen_of_row w1 (w.heap.size + 2) 4 _ _ HX.out.b2
    have r5 := cell_of_row w1 (w.heap.size + 2) 5 _ _ _ HX.out.b2
    have f5 := frozen_of_row w1 (w.heap.size + 2) 5 _ _ HX.out.b2
    have r6 := cell_of_row w1 (w.heap.size + 2) 6 _ _ _ HX.out.b2
    have f6 := frozen_of_row w1 (w.heap.size + 2) 6 _ _ HX.out.b2
    go_wp2
    refine bodyPost_ret (v := .tuple #[.agg #[.int .i64 0, .int .i64 0, .int .i64 0, .int .i64 0, .int .i64 0, .int .i64 0, .slice none 0 0], .int .i64 1]) (by simp [results, Try.results27, go_sem, r0, r1, r2, r3, r4, r5, r6]) rfl ?_
    rw [← hP]
    exact ⟨none, 0, rfl, World.ownsRow_nil _ _ _ _, ev_bel7 HX.out.bel (by omega) _ _ _ _ _ _ _⟩
  have HR := Lib.hid (HF.out.trans (if_neg hok))
  rw [HR.out] at hP
  have hok : sOK x z = true := by simpa using hok
  obtain ⟨tq1, tq2, tp1, tp2⟩ := tkB_q (HIN.out hok).tk
  have hxn := (HIN.out hok).n
  have hxp := (HIN.out hok).p
  have hbt : 0 ≤ bitE rn ∧ bitE rn ≤ 1 := by cases rn <;> decide
  have HBT := Lib.hid (fun X => bit_any rn X)
  clear HF HIN HR
  obtain ⟨l, a, d, t, s, p, q⟩ := x
  obtain ⟨zk, zp, zd, zi, zq, zr⟩ := z
  dsimp only at *
  have HX : Hid (E3 w (.cells #[.int .i64 l, .int .i64 a, .int .i64 d, .int .i64 t, .int .i64 s, .int .i64 p, .slice b q.length c] 24) (.cells #[.int .i64 zk, .int .i64 zp, .int .i64 zd, .int .i64 zi, .int .i64 zq, .int .i64 zr] 35) (.cells #[.int .i64 0, .int .i64 0, .int .i64 0, .int .i64 0, .int .i64 0, .int .i64 0, .slice none 0 0] 24) (((w.alloc (.cells #[.int .i64 l, .int .i64 a, .int .i64 d, .int .i64 t, .int .i64 s, .int .i64 p, .slice b q.length c] 24)).alloc (.cells #[.int .i64 zk, .int .i64 zp, .int .i64 zd, .int .i64 zi, .int .i64 zq, .int .i64 zr] 35)).alloc (.cells #[.int .i64 0, .int .i64 0, .int .i64 0, .int .i64 0, .int .i64 0, .int .i64 0, .slice none 0 0] 24))) := HX
  have HOK : Hid (∀ r, sOK ⟨l, a, d, t, s, p, q⟩ ⟨zk, zp, zd, zi, zq, zr⟩ = r → ∀ w, Lies w b (kC q) → Calls Try.prog 21 #[.agg #[.int .i64 l, .int .i64 a, .int .i64 d, .int .i64 t, .int .i64 s, .int .i64 p, .slice b q.length c], .agg #[.int .i64 zk, .int .i64 zp, .int .i64 zd, .int .i64 zi, .int .i64 zq, .int .i64 zr]] w fun e w' => e = .returned (.bool r) ∧ Below w.heap.size w w') := HOK
  generalize hpn : min (p + ((q.length : Int) + bitE rn)) 2147483647 = pn at *
  have HPN := Lib.hid hpn
  generalize bitE rn = bt at *
  clear hpn
  show Calls Try.prog 27 #[.agg #[.int .i64 l, .int .i64 a, .int .i64 d, .int .i64 t, .int .i64 s, .int .i64 p, .slice b q.length c], .agg #[.int .i64 zk, .int .i64 zp, .int .i64 zd, .int .i64 zi, .int .i64 zq, .int .i64 zr], .bool rn] w POST
  go_enter Try.func27, Try.ntmps27
  go_wp2_with fail
  refine Calls.mono (HOK.out _ hok _ (HZ.out.below HX.out.bel (Nat.le_refl _))) ?_
  rintro e w1 ⟨rfl, hb⟩
  have HX := Lib.hid (HX.out.to hb)
  clear hb
  have e5 := cell_of_row w1 w.heap.size 5 _ _ _ HX.out.b0
  have f5 := frozen_of_row w1 w.heap.size 5 _ _ HX.out.b0
  have hw : IntKind.i64.wrap ((q.length : Int) + bt) = (q.length : Int) + bt := IntWalk.i64_in _ (by omega)
  go_wp2_with fail
  have HS0 : Hid (Below w1.heap.size w1 w1.drew) := Lib.hid (Below.refl _ _).drew
  refine wp_region_hl 7 (fun X => Below w1.heap.size w1 X) (by kernel_rfl) rfl rfl (by kernel_rfl) ?_
  refine hl_take (v := ?vd1) 0 rfl (by kernel_rfl) (fun _ _ _ h => h) (Or.inl ⟨by rfl, ?hyd1⟩) HS0.out ?restd1
  case hyd1 =>
    intro X hSw
    have s0 := cell_of_row X w.heap.size 6 _ _ _ (blk_bel HX.out.b0 hSw)
    go_simp <;> with_reducible rfl
  try simp only [Act.put, List.setIfInBounds_toArray, List.set_cons_zero, List.set_cons_succ]
  refine hl_take (v := ?vd2) 1 rfl (by kernel_rfl) (fun _ _ _ h => h) (Or.inl ⟨by rfl, ?hyd2⟩) HS0.out ?restd2
  case hyd2 =>
    intro X hSw
    have s0 := cell_of_row X w.heap.size 6 _ _ _ (blk_bel HX.out.b0 hSw)
    go_simp <;> with_reducible rfl
  try simp only [Act.put, List.setIfInBounds_toArray, List.set_cons_zero, List.set_cons_succ]
  refine hl_take (v := ?vd3) 2 rfl (by kernel_rfl) (fun _ _ _ h => h) (Or.inl ⟨by rfl, ?hyd3⟩) HS0.out ?restd3
  case hyd3 =>
    intro X hSw
    have s0 := cell_of_row X w.heap.size 6 _ _ _ (blk_bel HX.out.b0 hSw)
    go_simp <;> with_reducible rfl
  try simp only [Act.put, List.setIfInBounds_toArray, List.set_cons_zero, List.set_cons_succ]
  refine hl_take (v := ?vd4) 3 rfl (by kernel_rfl) (fun _ _ _ h => h) (Or.inl ⟨by rfl, ?hyd4⟩) HS0.out ?restd4
  case hyd4 =>
    intro X hSw
    have s0 := cell_of_row X w.heap.size 6 _ _ _ (blk_bel HX.out.b0 hSw)
    go_simp <;> with_reducible rfl
  try simp only [Act.put, List.setIfInBounds_toArray, List.set_cons_zero, List.set_cons_succ]
  refine hl_take (v := ?vd5) 4 rfl (by kernel_rfl) (fun _ _ _ h => h) (Or.inl ⟨by rfl, ?hyd5⟩) HS0.out ?restd5
  case hyd5 =>
    intro X hSw
    have s0 := cell_of_row X w.heap.size 6 _ _ _ (blk_bel HX.out.b0 hSw)
    go_simp <;> with_reducible rfl
  try simp only [Act.put, List.setIfInBounds_toArray, List.set_cons_zero, List.set_cons_succ]
  refine hl_one 5 rfl (by kernel_rfl) (fun K hK => ?_)
  go_simp
  refine Calls.mono (HBT.out _) ?_
  rintro e w' ⟨rfl, rfl⟩
  refine hK.out _ _ HS0.out ?_
  clear hK
  try simp only [Act.put, List.setIfInBounds_toArray, List.set_cons_zero, List.set_cons_succ]
  refine hl_take (v := ?vd6) 6 rfl (by kernel_rfl) (fun _ _ _ h => h) (Or.inl ⟨by rfl, ?hyd6⟩) HS0.out ?restd6
  case hyd6 =>
    intro X hSw
    go_simp <;> with_reducible rfl
  try simp only [Act.put, List.setIfInBounds_toArray, List.set_cons_zero, List.set_cons_succ]
  refine hl_done (by kernel_rfl) ?_
  go_simp
  refine Calls.mono (count_any w.heap.size 5 p ((q.length : Int) + bt) (by omega) (by omega) _ e5 f5) ?_
  rintro e wx ⟨rfl, rfl⟩
  rw [HPN.out]
  have HX := Lib.hid ((HX.out.to HS0.out).put 5 (.int .i64 pn))
  have HX : Hid (E3 w (.cells #[.int .i64 l, .int .i64 a, .int .i64 d, .int .i64 t, .int .i64 s, .int .i64 pn, .slice b q.length c] 24) (.cells #[.int .i64 zk, .int .i64 zp, .int .i64 zd, .int .i64 zi, .int .i64 zq, .int .i64 zr] 35) (.cells #[.int .i64 0, .int .i64 0, .int .i64 0, .int .i64 0, .int .i64 0, .int .i64 0, .slice none 0 0] 24) (w1.drew.setCell ⟨w.heap.size, 5, none⟩ (.int .i64 pn))) := HX
  clear e5 f5 hw HS0
  generalize w1.drew.setCell ⟨w.heap.size, 5, none⟩ (.int .i64 pn) = w3 at *
  have c6 := cell_of_row w3 w.heap.size 6 _ _ _ HX.out.b0
  have g6 := frozen_of_row w3 w.heap.size 6 _ _ HX.out.b0
  have c0 := cell_of_row w3 w.heap.size 0 _ _ _ HX.out.b0
  have c1 := cell_of_row w3 w.heap.size 1 _ _ _ HX.out.b0
  have c2 := cell_of_row w3 w.heap.size 2 _ _ _ HX.out.b0
  have c3 := cell_of_row w3 w.heap.size 3 _ _ _ HX.out.b0
  have c4 := cell_of_row w3 w.heap.size 4 _ _ _ HX.out.b0
  have c5 := cell_of_row w3 w.heap.size 5 _ _ _ HX.out.b0
  have r0 := cell_of_row w3 (w.heap.size + 2) 0 _ _ _ HX.out.b2
  have f0 := frozen_of_row w3 (w.heap.size + 2) 0 _ _ HX.out.b2
  have r1 := cell_of_row w3 (w.heap.size + 2) 1 _ _ _ HX.out.b2
  have f1 := frozen_of_row w3 (w.heap.size + 2) 1 _ _ HX.out.b2
  have r2 := cell_of_row w3 (w.heap.size + 2) 2 _ _ _ HX.out.b2
  have f2 := frozen_of_row w3 (w.heap.size + 2) 2 _ _ HX.out.b2
  have r3 := cell_of_row w3 (w.heap.size + 2) 3 _ _ _ HX.out.b2
  have f3 := frozen_of_row w3 (w.heap.size + 2) 3 _ _ HX.out.b2
  have r4 := cell_of_row w3 (w.heap.size + 2) 4 _ _ _ HX.out.b2
  have f4 := frozen_of_row w3 (w.heap.size + 2) 4 _ _ HX.out.b2
  have r5 := cell_of_row w3 (w.heap.size + 2) 5 _ _ _ HX.out.b2
  have f5 := frozen_of_row w3 (w.heap.size + 2) 5 _ _ HX.out.b2
  have r6 := cell_of_row w3 (w.heap.size + 2) 6 _ _ _ HX.out.b2
  have f6 := frozen_of_row w3 (w.heap.size + 2) 6 _ _ HX.out.b2
  have HX6 := Lib.hid (HX.out.put 6 (.slice none 0 0))
  go_wp2
  refine bodyPost_ret (v := .tuple #[.agg #[.int .i64 l, .int .i64 a, .int .i64 d, .int .i64 t, .int .i64 s, .int .i64 pn, .slice none 0 0], .int .i64 0]) (by simp [results, Try.results27, go_sem, r0, r1, r2, r3, r4, r5, r6]) rfl ?_
  rw [← hP]
  exact ⟨none, 0, rfl, World.ownsRow_nil _ _ _ _, ev_bel7 HX6.out.bel (by omega) _ _ _ _ _ _ _⟩
def BalPost (r : Int × Int) (w : World) (e : Ending) (w' : World) : Prop := e = .returned (.tuple #[.int .i64 r.1, .int .i64 r.2]) ∧ Below w.heap.size w w'
set_option maxHeartbeats 1000000 in
theorem implBalanceOf_any (x : ST) (z : TT) (b : Option Addr) (c : Nat) (hm : x.q.length ≤ maxLen) (w : World) (hz : Lies w b (kC x.q)) :
    Calls Try.prog 37 #[sV x b c, tV z] w (BalPost (balF x z) w) := by
  have HX := Lib.hid (Bx2.start w (sO x b c 24) (tO z 35))
  have HZ := Lib.hid hz
  have HOK := Lib.hid (fun r (h : sOK x z = r) w hz => sok_is h b c hm w hz)
  have HIN := Lib.hid (@sOK_in x z)
  have HF : Hid (balF x z = if sOK x z = false then (0, 1) else (x.a - x.d - x.t - x.s - x.p - x.q.length, 0)) := Lib.hid rfl
  generalize balF x z = R at *
  generalize hP : BalPost R w = POST at *
  clear hz
  by_cases hok : sOK x z = false
  · have HR := Lib.hid (HF.out.trans (if_pos hok))
    rw [HR.out] at hP
    clear HF HIN
    obtain ⟨l, a, d, t, s, p, q⟩ := x
    obtain ⟨zk, zp, zd, zi, zq, zr⟩ := z
    dsimp only at *
    have HX : Hid (Bx2 w (.cells #[.int .i64 l, .int .i64 a, .int .i64 d, .int .i64 t, .int .i64 s, .int .i64 p, .slice b q.length c] 24) (.cells #[.int .i64 zk, .int .i64 zp, .int .i64 zd, .int .i64 zi, .int .i64 zq, .int .i64 zr] 35) ((w.alloc (.cells #[.int .i64 l, .int .i64 a, .int .i64 d, .int .i64 t, .int .i64 s, .int .i64 p, .slice b q.length c] 24)).alloc (.cells #[.int .i64 zk, .int .i64 zp, .int .i64 zd, .int .i64 zi, .int .i64 zq, .int .i64 zr] 35))) := HX
    have HOK : Hid (∀ r, sOK ⟨l, a, d, t, s, p, q⟩ ⟨zk, zp, zd, zi, zq, zr⟩ = r → ∀ w, Lies w b (kC q) → Calls Try.prog 21 #[.agg #[.int .i64 l, .int .i64 a, .int .i64 d, .int .i64 t, .int .i64 s, .int .i64 p, .slice b q.length c], .agg #[.int .i64 zk, .int .i64 zp, .int .i64 zd, .int .i64 zi, .int .i64 zq, .int .i64 zr]] w fun e w' => e = .returned (.bool r) ∧ Below w.heap.size w w') := HOK
    show Calls Try.prog 37 #[.agg #[.int .i64 l, .int .i64 a, .int .i64 d, .int .i64 t, .int .i64 s, .int .i64 p, .slice b q.length c], .agg #[.int .i64 zk, .int .i64 zp, .int .i64 zd, .int .i64 zi, .int .i64 zq, .int .i64 zr]] w POST
    go_enter Try.func37, Try.ntmps37
    go_wp2_with fail
    refine Calls.mono (HOK.out _ hok _ (HZ.out.below HX.out.bel (Nat.le_refl _))) ?_
    rintro e w1 ⟨rfl, hb⟩
    have HX := Lib.hid (HX.out.to hb)
    clear hb
    go_wp2
    rw [← hP]
    exact ⟨rfl, HX.out.bel⟩
  have HR := Lib.hid (HF.out.trans (if_neg hok))
  rw [HR.out] at hP
  have hok : sOK x z = true := by simpa using hok
  have hx := HIN.out hok
  have hxa := hx.a
  have hxd := hx.d
  have hxt := hx.t
  have hxs := hx.s
  have hxp := hx.p
  have hxn := hx.n
  have hzq := tkB_q hx.tk
  clear HF HIN HR hx
  obtain ⟨l, a, d, t, s, p, q⟩ := x
  obtain ⟨zk, zp, zd, zi, zq, zr⟩ := z
  dsimp only at *
  have HX : Hid (Bx2 w (.cells #[.int .i64 l, .int .i64 a, .int .i64 d, .int .i64 t, .int .i64 s, .int .i64 p, .slice b q.length c] 24) (.cells #[.int .i64 zk, .int .i64 zp, .int .i64 zd, .int .i64 zi, .int .i64 zq, .int .i64 zr] 35) ((w.alloc (.cells #[.int .i64 l, .int .i64 a, .int .i64 d, .int .i64 t, .int .i64 s, .int .i64 p, .slice b q.length c] 24)).alloc (.cells #[.int .i64 zk, .int .i64 zp, .int .i64 zd, .int .i64 zi, .int .i64 zq, .int .i64 zr] 35))) := HX
  have HOK : Hid (∀ r, sOK ⟨l, a, d, t, s, p, q⟩ ⟨zk, zp, zd, zi, zq, zr⟩ = r → ∀ w, Lies w b (kC q) → Calls Try.prog 21 #[.agg #[.int .i64 l, .int .i64 a, .int .i64 d, .int .i64 t, .int .i64 s, .int .i64 p, .slice b q.length c], .agg #[.int .i64 zk, .int .i64 zp, .int .i64 zd, .int .i64 zi, .int .i64 zq, .int .i64 zr]] w fun e w' => e = .returned (.bool r) ∧ Below w.heap.size w w') := HOK
  show Calls Try.prog 37 #[.agg #[.int .i64 l, .int .i64 a, .int .i64 d, .int .i64 t, .int .i64 s, .int .i64 p, .slice b q.length c], .agg #[.int .i64 zk, .int .i64 zp, .int .i64 zd, .int .i64 zi, .int .i64 zq, .int .i64 zr]] w POST
  go_enter Try.func37, Try.ntmps37
  go_wp2_with fail
  refine Calls.mono (HOK.out _ hok _ (HZ.out.below HX.out.bel (Nat.le_refl _))) ?_
  rintro e w1 ⟨rfl, hb⟩
  have HX := Lib.hid (HX.out.to hb)
  clear hb
  have c1 := cell_of_row w1 w.heap.size 1 _ _ _ HX.out.box
  have c2 := cell_of_row w1 w.heap.size 2 _ _ _ HX.out.box
  have c3 := cell_of_row w1 w.heap.size 3 _ _ _ HX.out.box
  have c4 := cell_of_row w1 w.heap.size 4 _ _ _ HX.out.box
  have c5 := cell_of_row w1 w.heap.size 5 _ _ _ HX.out.box
  have c6 := cell_of_row w1 w.heap.size 6 _ _ _ HX.out.box
  go_wp2
  rw [← hP]
  exact ⟨rfl, HX.out.bel⟩
end Go.Proofs.Ytgbnoaclklbjbaa
