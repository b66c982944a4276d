/- What a part of code costs: l05Part of spec. -/
import Derived.Test.YtppgknjpbfopjaaGreatDoorCst3
import Derived.Test.YtppgknjpbfopjaaGreatDoorHeld
import Derived.Test.YtppgknjpbfopjaaGreatDoorCostT
import Derived.Test.YtppgknjpbfopjaaGreatDoorMatchL
import Derived.Test.YtppgknjpbfopjaaGreatDoorRow
import Derived.Test.YtppgknjpbfopjaaGreatDoorIns
import Derived.Test.YtppgknjpbfopjaaGreatDoorInsRow
import Derived.IntWalk
import Derived.Deep.RegionHeld3
import Derived.Deep.RegionWith
import Derived.Deep.DeepCutAuto
import Derived.Deep.CutBlock
import Derived.Test.YtppgknjpbfopjaaGreatDoorNext
namespace Go.Proofs.YtppgknjpbfopjaaGreatDoor
open Go.ChangeShapes Go.WideShapes Go.ChangeAt Go.RowKit
set_option linter.unusedVariables false
def smS (a : SM) : List Value := [.int .i64 a.t, .int .i64 a.n, .int .i64 a.h, .int .i64 a.l, .int .i64 a.i]
theorem smS_len (a : SM) : (smS a).length = 5 := rfl
theorem sp_ticks : ∀ k : Fin 27, 1 ≤ k.1 → opTk k.1 = tick (k.1 : Int) := by decide
theorem blk_belP {w1 w2 : World} {k : Nat} {Q : Obj} (h : w1.heap[k]? = some Q) (g : Below w1.heap.size w1 w2) : w2.heap[k]? = some Q := (g.block _ (Array.getElem?_eq_some_iff.1 h).1).trans h
/-- What the walk of a part holds: code and known summaries as they came, its result, what was summed, the instruction, its own cost. -/
structure PX (w : World) (p9 p11 p12 : Nat) (out : SM) (x y : Int) (v : SM) (X : World) : Prop where
  r : X.heap[w.heap.size]? = some (smO ⟨0, 0, 0, 0, 0⟩)
  o : X.heap[p9]? = some (smO out)
  i : X.heap[p11]? = some (.cells #[.int .i64 x, .int .i64 y] 170 (0, 0))
  v : X.heap[p12]? = some (smO v)
  b : Below w.heap.size w X
theorem PX.bel {w : World} {p9 p11 p12 : Nat} {out v : SM} {x y : Int} {X X' : World} (h : PX w p9 p11 p12 out x y v X) (hb : Below X.heap.size X X') : PX w p9 p11 p12 out x y v X' :=
  ⟨blk_belP h.r hb, blk_belP h.o hb, blk_belP h.i hb, blk_belP h.v hb, h.b.trans (hb.mono h.b.size)⟩
theorem PX.drew {w : World} {p9 p11 p12 : Nat} {out v : SM} {x y : Int} {X : World} (h : PX w p9 p11 p12 out x y v X) : PX w p9 p11 p12 out x y v X.drew := ⟨h.r, h.o, h.i, h.v, sm_dr h.b⟩
/-- Its own cost is set anew. -/
theorem PX.put {w : World} {p9 p11 p12 : Nat} {out v : SM} {x y : Int} {X : World} (hd : w.heap.size < p12 ∧ p9 ≠ p12 ∧ p11 ≠ p12) (h : PX w p9 p11 p12 out x y v X) (u : SM) : PX w p9 p11 p12 out x y u (set5 X p12 u) :=
  ⟨bl_set5 h.r p12 (by omega) u, bl_set5 h.o p12 hd.2.1 u, bl_set5 h.i p12 hd.2.2 u, sm_put5 h.v u, sm_set5 h.b p12 (by omega) u⟩
theorem sum_at {w : World} {b o : Nat} {l : List SM} (h : ∀ (j : Nat) v, (flat smS l)[j]? = some v → w.cell? ⟨b, o + j, none⟩ = some v) {k : Nat} (hk : k < l.length) :
    w.cell? ⟨b, o + k * 5, none⟩ = some (.int .i64 (l.getD k (one 0 false)).t) ∧ w.cell? ⟨b, o + k * 5 + 1, none⟩ = some (.int .i64 (l.getD k (one 0 false)).n) ∧ w.cell? ⟨b, o + k * 5 + 2, none⟩ = some (.int .i64 (l.getD k (one 0 false)).h) ∧ w.cell? ⟨b, o + k * 5 + 3, none⟩ = some (.int .i64 (l.getD k (one 0 false)).l) ∧ w.cell? ⟨b, o + k * 5 + 4, none⟩ = some (.int .i64 (l.getD k (one 0 false)).i) := by
  have hx : l[k]? = some (l.getD k (one 0 false)) := by simp [List.getD, hk]
  have hat : ∀ j, j < 5 → ∀ v, (smS (l.getD k (one 0 false)))[j]? = some v → w.cell? ⟨b, o + k * 5 + j, none⟩ = some v := fun j hj v hv => by
    have := h (k * 5 + j) v ((flat_at smS_len hx hj).trans hv)
    rwa [show o + (k * 5 + j) = o + k * 5 + j by omega] at this
  exact ⟨hat 0 (by omega) _ rfl, hat 1 (by omega) _ rfl, hat 2 (by omega) _ rfl, hat 3 (by omega) _ rfl, hat 4 (by omega) _ rfl⟩
/-- The same, ahead of its own cost. -/
def P6 (w : World) (p9 p11 : Nat) (out : SM) (x y : Int) (X : World) : Prop := X.heap[w.heap.size]? = some (smO ⟨0, 0, 0, 0, 0⟩) ∧ X.heap[p9]? = some (smO out) ∧ X.heap[p11]? = some (.cells #[.int .i64 x, .int .i64 y] 170 (0, 0)) ∧ Below w.heap.size w X
section
variable {w X Y wn : World} {p9 p11 g : Nat} {out : SM} {x y : Int}
theorem p6_in (h : P6 w p9 p11 out x y X) : P6 w p9 p11 out x y X ∧ X.cell? ⟨p11, 0, none⟩ = some (.int .i64 x) ∧ X.cell? ⟨p11, 1, none⟩ = some (.int .i64 y) := ⟨h, cell_of_row _ _ 0 _ _ _ h.2.2.1, cell_of_row _ _ 1 _ _ _ h.2.2.1⟩
theorem p6_dr (h : P6 w p9 p11 out x y X) : P6 w p9 p11 out x y X.drew := ⟨h.1, h.2.1, h.2.2.1, sm_dr h.2.2.2⟩
theorem p6_al (h : P6 w p9 p11 out x y X) (O : Obj) : P6 w p9 p11 out x y (X.alloc O) := ⟨bl_al h.1 _, bl_al h.2.1 _, bl_al h.2.2.1 _, h.2.2.2.alloc h.2.2.2.size _⟩
theorem p6_bel (h : P6 w p9 p11 out x y X) (hb : Below X.heap.size X wn) : P6 w p9 p11 out x y wn := ⟨blk_belP h.1 hb, blk_belP h.2.1 hb, blk_belP h.2.2.1 hb, h.2.2.2.trans (hb.mono h.2.2.2.size)⟩
/-- A new summary, as it lies behind later calls. -/
def K6 (w : World) (p9 p11 g : Nat) (X : World) : Prop := X.heap[g]? = some (smO ⟨0, 0, 0, 0, 0⟩) ∧ w.heap.size ≠ g ∧ p9 ≠ g ∧ p11 ≠ g ∧ w.heap.size ≤ g
theorem k6_of (h : P6 w p9 p11 out x y Y) (hx : X.heap[Y.heap.size]? = some (smO ⟨0, 0, 0, 0, 0⟩)) (hb : Below X.heap.size X wn) : K6 w p9 p11 Y.heap.size wn :=
  have lt : ∀ {k : Nat} {Q : Obj}, Y.heap[k]? = some Q → k ≠ Y.heap.size := fun hk e => by have := (Array.getElem?_eq_some_iff.1 hk).1; omega
  ⟨blk_belP hx hb, lt h.1, lt h.2.1, lt h.2.2.1, h.2.2.2.size⟩
theorem k6_new (h : P6 w p9 p11 out x y Y) (hb : Below (Y.alloc (smO ⟨0, 0, 0, 0, 0⟩)).heap.size (Y.alloc (smO ⟨0, 0, 0, 0, 0⟩)) wn) : K6 w p9 p11 Y.heap.size wn := k6_of h (heap_alloc_new Y (smO ⟨0, 0, 0, 0, 0⟩)) hb
theorem k6_newd (h : P6 w p9 p11 out x y Y) (hb : Below (Y.alloc (smO ⟨0, 0, 0, 0, 0⟩)).drew.heap.size (Y.alloc (smO ⟨0, 0, 0, 0, 0⟩)).drew wn) : K6 w p9 p11 Y.heap.size wn := k6_of (X := (Y.alloc (smO ⟨0, 0, 0, 0, 0⟩)).drew) h (heap_alloc_new Y (smO ⟨0, 0, 0, 0, 0⟩)) hb
theorem k6_carry (hb : Below X.heap.size X wn) (h : K6 w p9 p11 g X) : K6 w p9 p11 g wn := ⟨blk_belP h.1 hb, h.2⟩
theorem p6_set (k : K6 w p9 p11 g X) (h : P6 w p9 p11 out x y X) (v : SM) : P6 w p9 p11 out x y (set5 X g v) := ⟨bl_set5 h.1 g k.2.1 v, bl_set5 h.2.1 g k.2.2.1 v, bl_set5 h.2.2.1 g k.2.2.2.1 v, sm_set5 h.2.2.2 g k.2.2.2.2 v⟩
theorem k6_put (k : K6 w p9 p11 g X) (v : SM) : (set5 X g v).heap[g]? = some (smO v) := sm_put5 k.1 v
theorem k6_ne (hw : w.heap.size < p9) (k : K6 w p9 p11 g X) : w.heap.size < g ∧ p9 ≠ g ∧ p11 ≠ g := ⟨by have := k.2.1; have := k.2.2.2.2; omega, k.2.2.1, k.2.2.2.1⟩
theorem p6_ne (hw : w.heap.size < p9) (h : P6 w p9 p11 out x y X) : w.heap.size < X.heap.size ∧ p9 ≠ X.heap.size ∧ p11 ≠ X.heap.size :=
  ⟨(Array.getElem?_eq_some_iff.1 h.1).1, fun e => by have := (Array.getElem?_eq_some_iff.1 h.2.1).1; omega, fun e => by have := (Array.getElem?_eq_some_iff.1 h.2.2.1).1; omega⟩
theorem px_of {v : SM} (h : P6 w p9 p11 out x y X) (hg : X.heap[g]? = some (smO v)) : PX w p9 p11 g out x y v X := ⟨h.1, h.2.1, h.2.2.1, hg, h.2.2.2⟩
end
/-- With the tick of an end or an else beside it. -/
def P7 (w : World) (p9 p11 p16 : Nat) (out : SM) (x y : Int) (st : SM) (X : World) : Prop := P6 w p9 p11 out x y X ∧ X.heap[p16]? = some (smO st)
section
variable {w X wn : World} {p9 p11 p12 p16 : Nat} {out st : SM} {x y : Int}
theorem p7_in (h : P7 w p9 p11 p16 out x y st X) : P7 w p9 p11 p16 out x y st X ∧ X.cell? ⟨p16, 0, none⟩ = some (.int .i64 st.t) ∧ X.cell? ⟨p16, 1, none⟩ = some (.int .i64 st.n) ∧ X.cell? ⟨p16, 2, none⟩ = some (.int .i64 st.h) ∧ X.cell? ⟨p16, 3, none⟩ = some (.int .i64 st.l) ∧ X.cell? ⟨p16, 4, none⟩ = some (.int .i64 st.i) := ⟨h, (sm_cells h.2).1⟩
theorem p7_dr (h : P7 w p9 p11 p16 out x y st X) : P7 w p9 p11 p16 out x y st X.drew := ⟨p6_dr h.1, h.2⟩
theorem p7_bel (h : P7 w p9 p11 p16 out x y st X) (hb : Below X.heap.size X wn) : P7 w p9 p11 p16 out x y st wn := ⟨p6_bel h.1 hb, blk_belP h.2 hb⟩
theorem p7_b (h : P7 w p9 p11 p16 out x y st X) : Below w.heap.size w X := h.1.2.2.2
theorem p6_b (h : P6 w p9 p11 out x y X) : Below w.heap.size w X := h.2.2.2
theorem p6_put (hd : w.heap.size < p12 ∧ p9 ≠ p12 ∧ p11 ≠ p12) (h : P6 w p9 p11 out x y X) (u : SM) : P6 w p9 p11 out x y (set5 X p12 u) := ⟨bl_set5 h.1 p12 (by omega) u, bl_set5 h.2.1 p12 hd.2.1 u, bl_set5 h.2.2.1 p12 hd.2.2 u, sm_set5 h.2.2.2 p12 (by omega) u⟩
theorem p7_put (hd : w.heap.size < p12 ∧ p9 ≠ p12 ∧ p11 ≠ p12) (h16 : p16 ≠ p12) (h : P7 w p9 p11 p16 out x y st X) (u : SM) : P7 w p9 p11 p16 out x y st (set5 X p12 u) := ⟨p6_put hd h.1 u, bl_set5 h.2 p12 h16 u⟩
theorem p7_6 (h : P7 w p9 p11 p16 out x y st X) : P6 w p9 p11 out x y X := h.1
theorem kv_dr {v : SM} (h : X.heap[p12]? = some (smO v)) : X.drew.heap[p12]? = some (smO v) := h
theorem p6_of {v : SM} (h : PX w p9 p11 p12 out x y v X) : P6 w p9 p11 out x y X := ⟨h.r, h.o, h.i, h.b⟩
end
theorem l02Tick (k : Nat) (h1 : 1 ≤ k) (h2 : k ≤ 26) (w : World) : Calls Tryz.prog 146 #[.int .i64 (k : Int)] w fun e w' => e = .returned (.int .i64 (tick (k : Int))) ∧ w = w' := by
  have := l02Cost_any k h1 h2 w
  rwa [sp_ticks ⟨k, by omega⟩ h1] at this
theorem pl_mid {done rest : List St} {s : St} (h : plL (done ++ s :: rest)) : s.pl := by
  induction done with
  | nil => rw [List.nil_append, plL] at h; exact h.1
  | cons d t ih => rw [List.cons_append, plL] at h; exact ih h.2
theorem fl_head : ∀ s : St, ∃ x r, s.fl = x :: r
  | .op x => ⟨x, [], by rw [St.fl]⟩
  | .br b => ⟨_, _, by rw [St.fl]⟩
  | .be b f => ⟨_, _, by rw [St.fl]⟩
  | .lp n b => ⟨_, _, by rw [St.fl]⟩
theorem lies_insP {w : World} {a : Option Addr} {zs : List Ins} (h : Lies w a (flat insC zs)) {j : Nat} (hj : j < zs.length) : ∃ b o : Nat, a = some ⟨b, o, none⟩ ∧ b < w.heap.size ∧ w.cell? ⟨b, o + j * 2, none⟩ = some (.int .i64 (zs.getD j (0, 0)).1) ∧ w.cell? ⟨b, o + j * 2 + 1, none⟩ = some (.int .i64 (zs.getD j (0, 0)).2) := by
  obtain ⟨b, o, e, hb, hc⟩ := h.open (by rw [flat_len insC_len]; omega)
  obtain ⟨h0, h1⟩ := ins_at hc hj
  exact ⟨b, o, e, hb, h0, h1⟩
/-- What a call on a part answers. -/
def PartC (za : Option Addr) (n zc : Nat) (ka : Option Addr) (kn kc : Nat) (f t : Int) (C : SM) (w : World) : Prop :=
  Calls Tryz.prog 93 #[.slice za n zc, .int .i64 f, .int .i64 t, .slice ka kn kc] w fun e w' => e = .returned (smV C) ∧ Below w.heap.size w w'
set_option maxRecDepth 100000 in
set_option maxHeartbeats 4000000 in
theorem part_step (za : Option Addr) (zc : Nat) (zs : List Ins) (ka : Option Addr) (kn kc : Nat) (known : List SM) (hkl : known.length = kn) (hko : ∀ a ∈ known, a.ok) (hn : zs.length ≤ 40)
    (hok : ∀ j, j < zs.length → okB (zs.getD j (0, 0)).1 (zs.getD j (0, 0)).2 = true) (hcl : ∀ j, j < zs.length → (zs.getD j (0, 0)).1 = 26 → 0 ≤ (zs.getD j (0, 0)).2 ∧ (zs.getD j (0, 0)).2 < kn)
    (a c : List Ins) (ts : List St) (hz : zs = a ++ flL ts ++ c) (hp : plL ts)
    (IH : Hid (∀ (ts' : List St) (a' c' : List Ins), zs = a' ++ flL ts' ++ c' → plL ts' → (flL ts').length < (flL ts).length → ∀ w, Lies w za (flat insC zs) → Lies w ka (flat smS known) → PartC za zs.length zc ka kn kc (a'.length : Int) ((a'.length : Int) + (flL ts').length) (costL known ts' (one 0 false)) w))
    (w : World) (hw : Lies w za (flat insC zs)) (hkw : Lies w ka (flat smS known)) :
    PartC za zs.length zc ka kn kc (a.length : Int) ((a.length : Int) + (flL ts).length) (costL known ts (one 0 false)) w := by
  have HZ := Lib.hid hw
  have HKW := Lib.hid hkw
  have Hz := Lib.hid hz
  have HP := Lib.hid hp
  have HOK := Lib.hid hok
  have HCL := Lib.hid hcl
  have HKO := Lib.hid hko
  have hlen : a.length + (flL ts).length ≤ zs.length := by rw [hz]; simp
  have HFN : Hid (costL known ([] : List St) (one 0 false) = one 0 false) := Lib.hid (by rw [costL])
  clear hw hkw hz hp hok hcl hko
  unfold PartC
  have HL := Lib.hid (rfl : zs.length = zs.length)
  generalize hL : zs.length = n at *
  have HN := Lib.hid hL
  clear hL
  generalize hA : a.length = al at *
  have HA := Lib.hid hA
  generalize hT : (flL ts).length = tl at *
  have HT := Lib.hid hT
  clear hA hT
  go_enter Tryz.func93, Tryz.ntmps93
  go_wp2_with fail
  refine (l05One_any 0 false _).mono ?_
  rintro e w1 ⟨rfl, hb1⟩
  have HS : Hid ((w1.alloc (smO (one 0 false))).heap[w.heap.size]? = some (smO ⟨0, 0, 0, 0, 0⟩) ∧ (w1.alloc (smO (one 0 false))).heap[w1.heap.size]? = some (smO (one 0 false)) ∧ Below w.heap.size w (w1.alloc (smO (one 0 false)))) :=
    Lib.hid ⟨bl_al (blk_belP (heap_alloc_new w (smO ⟨0, 0, 0, 0, 0⟩)) hb1) _, heap_alloc_new w1 _, ((sm_al w _).trans (hb1.mono (sm_al w _).size)).alloc (Nat.le_trans (sm_al w (smO ⟨0, 0, 0, 0, 0⟩)).size hb1.size) _⟩
  have hz9 : w.heap.size < w1.heap.size := by exact Nat.lt_of_lt_of_le (by simp) hb1.size
  clear hb1
  go_wp2
  go_loopw [10] (fun i wr => ∃ q : Nat, al ≤ q ∧ q ≤ al + tl ∧ i = .int .i64 (q : Int) ∧ Hid (∃ done rest : List St, ts = done ++ rest ∧ q = al + (flL done).length ∧ wr.heap[w.heap.size]? = some (smO ⟨0, 0, 0, 0, 0⟩) ∧ wr.heap[w1.heap.size]? = some (smO (costL known done (one 0 false))) ∧ Below w.heap.size w wr)) (fun i _ => al + tl - (intOf i).toNat)
  case atStart => exact ⟨al, Nat.le_refl _, by omega, rfl, Lib.hid ⟨[], ts, rfl, rfl, HS.out.1, by rw [HFN.out]; exact HS.out.2.1, HS.out.2.2⟩⟩
  case round =>
    obtain ⟨q, hq1, hq2, rfl, hs⟩ := hrel
    by_cases hlt : q < al + tl
    · obtain ⟨done, rest, hts, hqd, hsr, hso, hsb⟩ := hs.out
      rcases rest with _ | ⟨s, rest⟩
      · rw [List.append_nil] at hts
        subst hts
        have := HT.out
        omega
      obtain ⟨x, xr, hxr⟩ := fl_head s
      have hzq : zs = (a ++ flL done) ++ s.fl ++ (flL rest ++ c) := by rw [Hz.out, hts, flL_app, flL]; simp
      have hql : (a ++ flL done).length = q := by rw [List.length_append, HA.out]; omega
      have hqz : q < zs.length := by rw [HN.out]; omega
      have hxq : zs.getD q (0, 0) = x := by rw [hzq, hxr, ← hql]; simp [List.getD]
      have hokx := HOK.out q (by omega)
      have hclx := HCL.out q (by omega)
      rw [hxq] at hokx hclx
      obtain ⟨k, hk, h1, h2, h3, h4⟩ := okB_nat hokx
      obtain ⟨zb, zo, rfl, hzb, d0, d1⟩ := lies_insP (HZ.out.below hsb (Nat.le_refl _)) hqz
      rw [hxq] at d0 d1
      obtain ⟨x1, y⟩ := x
      dsimp only at hk d0 d1 hclx h3 h4
      subst hk
      have HS0 := Lib.hid (show P6 w w1.heap.size wr.heap.size (costL known done (one 0 false)) (k : Int) y (wr.alloc (.cells #[.int .i64 (k : Int), .int .i64 y] 170)) from ⟨bl_al hsr _, bl_al hso _, heap_alloc_new wr _, hsb.alloc hsb.size _⟩)
      have HX := Lib.hid (And.intro hts (And.intro hzq (And.intro hql hxr)))
      have HCX := Lib.hid hclx
      have HLD := Lib.hid hsb
      have hwq : w1.heap.size < wr.heap.size := (Array.getElem?_eq_some_iff.1 hso).1
      generalize hO : costL known done (one 0 false) = out at *
      have HO := Lib.hid hO
      clear hO hts hzq hql hxr hclx hqd hsr hso hsb hxq hokx hs
      go_upto_region 6 with (fail)
      go_cut [12] (fun s12 wx => ∃ g : Nat, s12 = .pointer (some ⟨g, 0, none⟩) ∧ Hid (w.heap.size < g ∧ w1.heap.size ≠ g ∧ wr.heap.size ≠ g) ∧ Hid (PX w w1.heap.size wr.heap.size g out (k : Int) y (one (tick (k : Int)) ((k : Int) == 25)) wx))
      case first =>
        clear d0 d1
        have hwz := hz9
        have h6 := HS0.out
        have hS := p6_in h6
        generalize wr.alloc (.cells #[.int .i64 (k : Int), .int .i64 y] 170) = W at *
        obtain ⟨-, e0, e1⟩ := hS
        go_region_held3 (fun w' => P6 w w1.heap.size wr.heap.size out (k : Int) y w' ∧ w'.cell? ⟨wr.heap.size, 0, none⟩ = some (.int .i64 (k : Int)) ∧ w'.cell? ⟨wr.heap.size, 1, none⟩ = some (.int .i64 y))
          (first
            | (with_reducible exact p6_in (by assumption))
            | (with_reducible exact p6_in (p6_set k6 (by assumption) _))
            | (with_reducible exact p6_in (p6_dr (by assumption)))
            | (with_reducible exact p6_in (p6_al (by assumption) _))
            | (with_reducible exact p6_in (p6_dr (p6_al (by assumption) _))))
          (first
            | (go_at_call 146; (with_reducible refine (l02Tick k h1 h2 _).mono ?_); rintro e w' ⟨rfl, rfl⟩)
            | (go_at_call 95; go_split_ands; (with_reducible refine (l05One_any _ _ _).mono ?_); rintro e wn ⟨rfl, hbn⟩; have kk := p6_bel (w := w) (p9 := w1.heap.size) (p11 := wr.heap.size) (out := out) (x := (k : Int)) (y := y) (by assumption) hbn; (first | (with_reducible (have k6 := k6_new (w := w) (p9 := w1.heap.size) (p11 := wr.heap.size) (out := out) (x := (k : Int)) (y := y) (by assumption) hbn)) | (with_reducible (have k6 := k6_newd (w := w) (p9 := w1.heap.size) (p11 := wr.heap.size) (out := out) (x := (k : Int)) (y := y) (by assumption) hbn)) | skip); (first | (have f6 := sm_cells k6.1; go_split_ands) | skip)))
        all_goals
          go_split_ands
          go_wp2_with fail
          go_meet
          first
            | (with_reducible refine ⟨_, rfl, Lib.hid (k6_ne hwz k6), Lib.hid (px_of (by assumption) (k6_put k6 _))⟩)
            | (refine ⟨_, rfl, Lib.hid (p6_ne hwz (by with_reducible assumption)), Lib.hid (px_of (by with_reducible assumption) ?_)⟩; with_reducible exact heap_alloc_new _ (smO _))
      case rest =>
        obtain ⟨g12, rfl, hgd, hpx⟩ := hcut
        have hsp : s.pl := by
          have := HP.out
          rw [HX.out.1] at this
          exact pl_mid this
        have HSP := Lib.hid hsp
        have b0 : wc.cell? ⟨wr.heap.size, 0, none⟩ = some (.int .i64 (k : Int)) := cell_of_row _ _ 0 _ _ _ hpx.out.i
        have b1 : wc.cell? ⟨wr.heap.size, 1, none⟩ = some (.int .i64 y) := cell_of_row _ _ 1 _ _ _ hpx.out.i
        clear hsp d0 d1 HS0
        go_upto_block 2 with (fail)
        go_cut [10] (fun s10 wx => ∃ (v : SM) (q2 : Nat), s10 = .int .i64 (q2 : Int) ∧ q2 + 1 = q + s.fl.length ∧ Hid (v = s.cost known ∧ PX w w1.heap.size wr.heap.size g12 out (k : Int) y v wx))
        case first =>
          cases s with
          | op x' =>
            have hx := HX.out.2.2.2
            rw [St.fl] at hx
            obtain ⟨hx1, -⟩ := List.cons.inj hx
            have hpl : ¬ (21 ≤ (k : Int) ∧ (k : Int) ≤ 24) := by have := HSP.out; rw [St.pl, hx1] at this; exact this
            have hln : (St.op x').fl.length = 1 := by rw [St.fl]; rfl
            by_cases e26 : k = 26
            · subst e26
              obtain ⟨y0, y1⟩ := HCX.out rfl
              obtain ⟨j, rfl⟩ := Int.eq_ofNat_of_zero_le y0
              have hjk : j < known.length := by omega
              have HCO : Hid ((St.op x').cost known = beh (one (tick ((26 : Nat) : Int)) (((26 : Nat) : Int) == 25)) (known.getD j (one 0 false))) := Lib.hid (by rw [St.cost, hx1, if_pos (by simp)]; rfl)
              obtain ⟨kb, ko, rfl, hkb, hkc⟩ := (HKW.out.below hpx.out.b (Nat.le_refl _)).open (by rw [flat_len smS_len]; omega)
              obtain ⟨k0, k1, k2, k3, k4⟩ := sum_at hkc hjk
              have HOKK : Hid (known.getD j (one 0 false)).ok := Lib.hid (known_ok HKO.out j)
              generalize known.getD j (one 0 false) = S at *
              have HB := Lib.hid (fun w => l05Behind_any (one (tick ((26 : Nat) : Int)) (((26 : Nat) : Int) == 25)) S (one_ok (by have := tick_rng ((26 : Nat) : Int); omega) _) HOKK.out w)
              have HQ : Hid (q + 1 = q + (St.op x').fl.length) := Lib.hid (by rw [hln])
              generalize one (tick ((26 : Nat) : Int)) (((26 : Nat) : Int) == 25) = v at *
              obtain ⟨⟨v0, v1, v2, v3, v4⟩, -, -⟩ := sm_cells hpx.out.v
              clear hx hx1 hpl hln hkc hjk
              go_wp2
              go_region_with (go_at_call 94; (with_reducible refine (HB.out _).mono ?_); rintro e wn ⟨rfl, hbn⟩; have kp := PX.bel (X := wc.drew) hpx.out.drew hbn; have k5 := sm_cells kp.v; go_split_ands)
              all_goals
                have HP2 := Lib.hid (PX.put hgd.out kp (beh v S))
                go_wp2_with fail
                go_meet
                exact ⟨beh v S, q, rfl, HQ.out, Lib.hid ⟨HCO.out.symm, HP2.out⟩⟩
            · have HCO : Hid ((St.op x').cost known = one (tick (k : Int)) ((k : Int) == 25)) := Lib.hid (by rw [St.cost, hx1, if_neg (by show ¬ (k : Int) = 26; omega)]; rfl)
              have HQ : Hid (q + 1 = q + (St.op x').fl.length) := Lib.hid (by rw [hln])
              have f1 : ((k : Int) == 21) = false := beq_eq_false_iff_ne.2 (by omega)
              have f2 : ((k : Int) == 24) = false := beq_eq_false_iff_ne.2 (by omega)
              have f5 : ((k : Int) == 26) = false := beq_eq_false_iff_ne.2 (by omega)
              clear hx hx1 hpl hln e26
              go_wp2_with fail
              go_meet
              exact ⟨_, q, rfl, HQ.out, Lib.hid ⟨HCO.out.symm, hpx.out⟩⟩
          | br b =>
            have hx := HX.out.2.2.2
            rw [St.fl] at hx
            obtain ⟨hx1, -⟩ := List.cons.inj hx
            simp only [Prod.mk.injEq] at hx1
            obtain rfl : k = 21 := by omega
            obtain ⟨-, rfl⟩ := hx1
            have hpl := HSP.out
            rw [St.pl] at hpl
            have hzq := HX.out.2.1
            have hql := HX.out.2.2.1
            rw [St.fl] at hzq
            have hm := match_br (a := a ++ flL done) (c := flL rest ++ c) hpl
            rw [← hzq, hql] at hm
            have HMT : Hid (∀ X, Below w.heap.size w X → Calls Tryz.prog 147 #[.slice (some ⟨zb, zo, none⟩) n zc, .int .i64 (q : Int)] X fun e w' => e = .returned (.tuple #[.int .i64 0, .int .i64 ((q : Int) + 1 + (flL b).length), .bool true]) ∧ X = w') := Lib.hid (fun X hX => by
              have := l04Match_any zs (some ⟨zb, zo, none⟩) zc q hqz (by rw [HN.out]; omega) X (HZ.out.below hX (Nat.le_refl _))
              rw [hm, HN.out] at this
              exact this)
            have hq1l : (a ++ flL done ++ [(21, 0)]).length = q + 1 := by rw [List.length_append, hql]; rfl
            have htl : (flL ts).length = (flL done).length + ((21, 0) :: (flL b ++ [(23, 0)])).length + (flL rest).length := by rw [HX.out.1, flL_app, flL, St.fl]; simp only [List.length_append]; omega
            rw [HT.out] at htl
            simp only [List.length_cons, List.length_append, List.length_nil] at htl
            have HR1 : Hid (∀ X, Below w.heap.size w X → Calls Tryz.prog 93 #[.slice (some ⟨zb, zo, none⟩) n zc, .int .i64 ((q : Int) + 1), .int .i64 ((q : Int) + 1 + (flL b).length), .slice ka kn kc] X fun e w' => e = .returned (smV (costL known b (one 0 false))) ∧ Below X.heap.size X w') := Lib.hid (fun X hX => by
              have := IH.out b (a ++ flL done ++ [(21, 0)]) ([(23, 0)] ++ (flL rest ++ c)) (by rw [hzq]; simp) hpl (by omega) X (HZ.out.below hX (Nat.le_refl _)) (HKW.out.below hX (Nat.le_refl _))
              unfold PartC at this
              rw [hq1l, Int.natCast_add] at this
              exact this)
            have HCO : Hid ((St.br b).cost known = beh (one 1 false) (eith (beh (costL known b (one 0 false)) (one 1 false)) (one 0 false))) := Lib.hid (by rw [St.cost])
            have hln : (St.br b).fl.length = (flL b).length + 2 := by rw [St.fl]; simp
            have OKB : Hid (costL known b (one 0 false)).ok := Lib.hid (costL_ok HKO.out b _ (one_ok (by omega) _))
            have OKV : Hid (one 1 false).ok := Lib.hid (one_ok (by omega) _)
            have OKZ : Hid (one 0 false).ok := Lib.hid (one_ok (by omega) _)
            have hpx : Hid (PX w w1.heap.size wr.heap.size g12 out ((21 : Nat) : Int) 0 (one 1 false) wc) := hpx
            have hbq : (flL b).length ≤ 40 := by omega
            generalize costL known b (one 0 false) = CB at *
            generalize (flL b).length = bl at *
            obtain ⟨V1, hV1⟩ : ∃ r, one 1 false = r := ⟨_, rfl⟩
            obtain ⟨Z0, hZ0⟩ : ∃ r, one 0 false = r := ⟨_, rfl⟩
            have HO1 := Lib.hid (fun w => l05One_any 1 false w)
            have HO0 := Lib.hid (fun w => l05One_any 0 false w)
            rw [hV1] at HCO OKV hpx HO1
            rw [hZ0] at HO0 OKZ HCO
            obtain ⟨T1, hT1⟩ : ∃ r, beh CB V1 = r := ⟨_, rfl⟩
            have OKT : Hid T1.ok := Lib.hid (hT1 ▸ beh_ok OKB.out OKV.out)
            have HB1 := Lib.hid (fun w => l05Behind_any CB V1 OKB.out OKV.out w)
            rw [hT1] at HB1 HCO
            obtain ⟨E1, hE1⟩ : ∃ r, eith T1 Z0 = r := ⟨_, rfl⟩
            have OKE : Hid E1.ok := Lib.hid (hE1 ▸ eith_ok OKT.out OKZ.out)
            have HEI := Lib.hid (fun w => l05Either_any T1 Z0 w)
            rw [hE1] at HEI HCO
            have HB2 := Lib.hid (fun w => l05Behind_any V1 E1 OKV.out OKE.out w)
            obtain ⟨U, hU⟩ : ∃ r, beh V1 E1 = r := ⟨_, rfl⟩
            rw [hU] at HB2 HCO
            clear hx hpl hzq hql hm hq1l htl hU hE1 hT1 hV1 hZ0 IH
            have HB6 := Lib.hid hpx.out.b
            go_wp2_with fail
            refine Calls.mono (HMT.out _ HB6.out) ?_
            rintro e w' ⟨rfl, rfl⟩
            go_wp2_with fail
            refine Calls.mono (HO1.out _) ?_
            rintro e w3 ⟨rfl, hb3⟩
            have H7 := Lib.hid (show P7 w w1.heap.size wr.heap.size w3.heap.size out ((21 : Nat) : Int) 0 V1 (w3.alloc (smO V1)) from ⟨p6_al (p6_bel (p6_of hpx.out) hb3) _, heap_alloc_new w3 (smO V1)⟩)
            have HV := Lib.hid (show (w3.alloc (smO V1)).heap[g12]? = some (smO V1) from bl_al (blk_belP hpx.out.v hb3) _)
            have h16 : w3.heap.size ≠ g12 := fun e => by have := (Array.getElem?_eq_some_iff.1 hpx.out.v).1; have := hb3.size; omega
            clear hb3 b0 b1
            have ho : (0 : Int) < (q : Int) + 1 + (bl : Int) := by omega
            go_upto_region 15 with (fail)
            generalize w3.alloc (smO V1) = W at *
            have kk := p7_dr H7.out
            have kv := kv_dr HV.out
            have hgd' := hgd.out
            have ww1 : IntKind.i64.wrap ((q : Int) + 1) = (q : Int) + 1 := IntWalk.i64_in _ (by omega)
            have HSW := Lib.hid (And.intro kk kv)
            refine wp_region_hl 12 (fun X => P7 w w1.heap.size wr.heap.size w3.heap.size out ((21 : Nat) : Int) 0 V1 X ∧ X.heap[g12]? = some (smO V1)) (by kernel_rfl) rfl rfl (by kernel_rfl) ?_
            clear kk kv
            refine hl_take (v := ?v0br) 0 rfl (by kernel_rfl) (fun _ _ _ h => h) (Or.inl ⟨by rfl, ?hy0br⟩) HSW.out ?rest0br
            case hy0br =>
              intro w hSw
              obtain ⟨-, c0, c1, c2, c3, c4⟩ := p7_in hSw.1
              obtain ⟨d0, d1, d2, d3, d4⟩ := (sm_cells hSw.2).1
              go_simp <;> with_reducible rfl
            try simp only [Act.put, List.setIfInBounds_toArray, List.set_cons_zero, List.set_cons_succ]
            refine hl_take (v := ?v1br) 1 rfl (by kernel_rfl) (fun _ _ _ h => h) (Or.inl ⟨by rfl, ?hy1br⟩) HSW.out ?rest1br
            case hy1br =>
              intro w hSw
              obtain ⟨-, c0, c1, c2, c3, c4⟩ := p7_in hSw.1
              obtain ⟨d0, d1, d2, d3, d4⟩ := (sm_cells hSw.2).1
              go_simp <;> with_reducible rfl
            try simp only [Act.put, List.setIfInBounds_toArray, List.set_cons_zero, List.set_cons_succ]
            refine hl_take (v := ?v2br) 2 rfl (by kernel_rfl) (fun _ _ _ h => h) (Or.inl ⟨by rfl, ?hy2br⟩) HSW.out ?rest2br
            case hy2br =>
              intro w hSw
              obtain ⟨-, c0, c1, c2, c3, c4⟩ := p7_in hSw.1
              obtain ⟨d0, d1, d2, d3, d4⟩ := (sm_cells hSw.2).1
              go_simp <;> with_reducible rfl
            try simp only [Act.put, List.setIfInBounds_toArray, List.set_cons_zero, List.set_cons_succ]
            refine hl_take (v := ?v3br) 3 rfl (by kernel_rfl) (fun _ _ _ h => h) (Or.inl ⟨by rfl, ?hy3br⟩) HSW.out ?rest3br
            case hy3br =>
              intro w hSw
              obtain ⟨-, c0, c1, c2, c3, c4⟩ := p7_in hSw.1
              obtain ⟨d0, d1, d2, d3, d4⟩ := (sm_cells hSw.2).1
              go_simp <;> with_reducible rfl
            try simp only [Act.put, List.setIfInBounds_toArray, List.set_cons_zero, List.set_cons_succ]
            refine hl_take (v := ?v4br) 4 rfl (by kernel_rfl) (fun _ _ _ h => h) (Or.inl ⟨by rfl, ?hy4br⟩) HSW.out ?rest4br
            case hy4br =>
              intro w hSw
              obtain ⟨-, c0, c1, c2, c3, c4⟩ := p7_in hSw.1
              obtain ⟨d0, d1, d2, d3, d4⟩ := (sm_cells hSw.2).1
              go_simp <;> with_reducible rfl
            try simp only [Act.put, List.setIfInBounds_toArray, List.set_cons_zero, List.set_cons_succ]
            refine hl_take (v := ?v5br) 5 rfl (by kernel_rfl) (fun _ _ _ h => h) (Or.inl ⟨by rfl, ?hy5br⟩) HSW.out ?rest5br
            case hy5br =>
              intro w hSw
              obtain ⟨-, c0, c1, c2, c3, c4⟩ := p7_in hSw.1
              obtain ⟨d0, d1, d2, d3, d4⟩ := (sm_cells hSw.2).1
              go_simp <;> with_reducible rfl
            try simp only [Act.put, List.setIfInBounds_toArray, List.set_cons_zero, List.set_cons_succ]
            refine hl_take (v := ?v7br) 7 rfl (by kernel_rfl) (fun _ _ _ h => h) (Or.inl ⟨by rfl, ?hy7br⟩) HSW.out ?rest7br
            case hy7br =>
              intro w hSw
              obtain ⟨-, c0, c1, c2, c3, c4⟩ := p7_in hSw.1
              obtain ⟨d0, d1, d2, d3, d4⟩ := (sm_cells hSw.2).1
              go_simp <;> with_reducible rfl
            try simp only [Act.put, List.setIfInBounds_toArray, List.set_cons_zero, List.set_cons_succ]
            refine hl_one 6 rfl (by kernel_rfl) (fun K hK => ?_)
            go_simp
            refine Calls.mono (HR1.out _ (p7_b HSW.out.1)) ?_
            rintro e wn ⟨rfl, hbn⟩
            have HSW := Lib.hid (And.intro (p7_bel HSW.out.1 hbn) (blk_belP HSW.out.2 hbn))
            refine hK.out _ _ HSW.out ?_
            clear hK hbn
            try simp only [Act.put, List.setIfInBounds_toArray, List.set_cons_zero, List.set_cons_succ]
            refine hl_one 8 rfl (by kernel_rfl) (fun K hK => ?_)
            go_simp
            refine Calls.mono (HB1.out _) ?_
            rintro e wn ⟨rfl, hbn⟩
            have HSW := Lib.hid (And.intro (p7_bel HSW.out.1 hbn) (blk_belP HSW.out.2 hbn))
            refine hK.out _ _ HSW.out ?_
            clear hK hbn
            try simp only [Act.put, List.setIfInBounds_toArray, List.set_cons_zero, List.set_cons_succ]
            refine hl_one 9 rfl (by kernel_rfl) (fun K hK => ?_)
            go_simp
            refine Calls.mono (HO0.out _) ?_
            rintro e wn ⟨rfl, hbn⟩
            have HSW := Lib.hid (And.intro (p7_bel HSW.out.1 hbn) (blk_belP HSW.out.2 hbn))
            refine hK.out _ _ HSW.out ?_
            clear hK hbn
            try simp only [Act.put, List.setIfInBounds_toArray, List.set_cons_zero, List.set_cons_succ]
            refine hl_one 10 rfl (by kernel_rfl) (fun K hK => ?_)
            go_simp
            refine Calls.mono (HEI.out _) ?_
            rintro e wn ⟨rfl, hbn⟩
            have HSW := Lib.hid (And.intro (p7_bel HSW.out.1 hbn) (blk_belP HSW.out.2 hbn))
            refine hK.out _ _ HSW.out ?_
            clear hK hbn
            try simp only [Act.put, List.setIfInBounds_toArray, List.set_cons_zero, List.set_cons_succ]
            refine hl_one 11 rfl (by kernel_rfl) (fun K hK => ?_)
            go_simp
            refine Calls.mono (HB2.out _) ?_
            rintro e wn ⟨rfl, hbn⟩
            have HSW := Lib.hid (And.intro (p7_bel HSW.out.1 hbn) (blk_belP HSW.out.2 hbn))
            refine hK.out _ _ HSW.out ?_
            clear hK hbn
            try simp only [Act.put, List.setIfInBounds_toArray, List.set_cons_zero, List.set_cons_succ]
            refine hl_done (by kernel_rfl) ?_
            have f5 := sm_cells HSW.out.2
            go_split_ands
            go_simp
            go_wp2_with fail
            go_meet
            exact ⟨U, q + 1 + bl, by go_num, by rw [hln]; omega, Lib.hid ⟨HCO.out.symm, px_of (p7_6 (p7_put hgd.out h16 HSW.out.1 U)) (sm_put5 HSW.out.2 U)⟩⟩
          | be b f =>
            have hx := HX.out.2.2.2
            rw [St.fl] at hx
            obtain ⟨hx1, -⟩ := List.cons.inj hx
            simp only [Prod.mk.injEq] at hx1
            obtain rfl : k = 21 := by omega
            obtain ⟨-, rfl⟩ := hx1
            have hpl := HSP.out
            rw [St.pl] at hpl
            have hzq := HX.out.2.1
            have hql := HX.out.2.2.1
            rw [St.fl] at hzq
            have hm := match_be (a := a ++ flL done) (c := flL rest ++ c) hpl.1 hpl.2
            rw [← hzq, hql] at hm
            have HMT : Hid (∀ X, Below w.heap.size w X → Calls Tryz.prog 147 #[.slice (some ⟨zb, zo, none⟩) n zc, .int .i64 (q : Int)] X fun e w' => e = .returned (.tuple #[.int .i64 ((q : Int) + 1 + (flL b).length), .int .i64 ((q : Int) + 1 + (flL b).length + 1 + (flL f).length), .bool true]) ∧ X = w') := Lib.hid (fun X hX => by
              have := l04Match_any zs (some ⟨zb, zo, none⟩) zc q hqz (by rw [HN.out]; omega) X (HZ.out.below hX (Nat.le_refl _))
              rw [hm, HN.out] at this
              exact this)
            have hq1l : (a ++ flL done ++ [(21, 0)]).length = q + 1 := by rw [List.length_append, hql]; rfl
            have htl : (flL ts).length = (flL done).length + ((21, 0) :: (flL b ++ (22, 0) :: (flL f ++ [(23, 0)]))).length + (flL rest).length := by rw [HX.out.1, flL_app, flL, St.fl]; simp only [List.length_append]; omega
            rw [HT.out] at htl
            simp only [List.length_cons, List.length_append, List.length_nil] at htl
            have HR1 : Hid (∀ X, Below w.heap.size w X → Calls Tryz.prog 93 #[.slice (some ⟨zb, zo, none⟩) n zc, .int .i64 ((q : Int) + 1), .int .i64 ((q : Int) + 1 + (flL b).length), .slice ka kn kc] X fun e w' => e = .returned (smV (costL known b (one 0 false))) ∧ Below X.heap.size X w') := Lib.hid (fun X hX => by
              have := IH.out b (a ++ flL done ++ [(21, 0)]) ((22, 0) :: (flL f ++ [(23, 0)]) ++ (flL rest ++ c)) (by rw [hzq]; simp) hpl.1 (by omega) X (HZ.out.below hX (Nat.le_refl _)) (HKW.out.below hX (Nat.le_refl _))
              unfold PartC at this
              rw [hq1l, Int.natCast_add] at this
              exact this)
            have hq2l : (a ++ flL done ++ [(21, 0)] ++ flL b ++ [(22, 0)]).length = q + 1 + (flL b).length + 1 := by rw [List.length_append, List.length_append, hq1l]; rfl
            have HR2 : Hid (∀ X, Below w.heap.size w X → Calls Tryz.prog 93 #[.slice (some ⟨zb, zo, none⟩) n zc, .int .i64 ((q : Int) + 1 + (flL b).length + 1), .int .i64 ((q : Int) + 1 + (flL b).length + 1 + (flL f).length), .slice ka kn kc] X fun e w' => e = .returned (smV (costL known f (one 0 false))) ∧ Below X.heap.size X w') := Lib.hid (fun X hX => by
              have := IH.out f (a ++ flL done ++ [(21, 0)] ++ flL b ++ [(22, 0)]) ([(23, 0)] ++ (flL rest ++ c)) (by rw [hzq]; simp) hpl.2 (by omega) X (HZ.out.below hX (Nat.le_refl _)) (HKW.out.below hX (Nat.le_refl _))
              unfold PartC at this
              rw [hq2l, Int.natCast_add, Int.natCast_add, Int.natCast_add] at this
              exact this)
            have HCO : Hid ((St.be b f).cost known = beh (one 1 false) (eith (beh (costL known b (one 0 false)) (one 1 false)) (beh (costL known f (one 0 false)) (one 1 false)))) := Lib.hid (by rw [St.cost])
            have hln : (St.be b f).fl.length = (flL b).length + (flL f).length + 3 := by rw [St.fl]; simp ; omega
            have OKB : Hid (costL known b (one 0 false)).ok := Lib.hid (costL_ok HKO.out b _ (one_ok (by omega) _))
            have OKF : Hid (costL known f (one 0 false)).ok := Lib.hid (costL_ok HKO.out f _ (one_ok (by omega) _))
            have OKV : Hid (one 1 false).ok := Lib.hid (one_ok (by omega) _)
            have OKZ : Hid (one 0 false).ok := Lib.hid (one_ok (by omega) _)
            have hpx : Hid (PX w w1.heap.size wr.heap.size g12 out ((21 : Nat) : Int) 0 (one 1 false) wc) := hpx
            have hbq : (flL b).length ≤ 40 := by omega
            have hfq : (flL f).length ≤ 40 := by omega
            generalize costL known b (one 0 false) = CB at *
            generalize (flL b).length = bl at *
            generalize costL known f (one 0 false) = CF at *
            generalize (flL f).length = fl at *
            obtain ⟨V1, hV1⟩ : ∃ r, one 1 false = r := ⟨_, rfl⟩
            obtain ⟨Z0, hZ0⟩ : ∃ r, one 0 false = r := ⟨_, rfl⟩
            have HO1 := Lib.hid (fun w => l05One_any 1 false w)
            have HO0 := Lib.hid (fun w => l05One_any 0 false w)
            rw [hV1] at HCO OKV hpx HO1
            rw [hZ0] at HO0 OKZ
            obtain ⟨T1, hT1⟩ : ∃ r, beh CB V1 = r := ⟨_, rfl⟩
            have OKT : Hid T1.ok := Lib.hid (hT1 ▸ beh_ok OKB.out OKV.out)
            have HB1 := Lib.hid (fun w => l05Behind_any CB V1 OKB.out OKV.out w)
            rw [hT1] at HB1 HCO
            obtain ⟨T2, hT2⟩ : ∃ r, beh CF V1 = r := ⟨_, rfl⟩
            have OKT2 : Hid T2.ok := Lib.hid (hT2 ▸ beh_ok OKF.out OKV.out)
            have HB3 := Lib.hid (fun w => l05Behind_any CF V1 OKF.out OKV.out w)
            rw [hT2] at HB3 HCO
            obtain ⟨E1, hE1⟩ : ∃ r, eith T1 T2 = r := ⟨_, rfl⟩
            have OKE : Hid E1.ok := Lib.hid (hE1 ▸ eith_ok OKT.out OKT2.out)
            have HEI := Lib.hid (fun w => l05Either_any T1 T2 w)
            rw [hE1] at HEI HCO
            have HB2 := Lib.hid (fun w => l05Behind_any V1 E1 OKV.out OKE.out w)
            obtain ⟨U, hU⟩ : ∃ r, beh V1 E1 = r := ⟨_, rfl⟩
            rw [hU] at HB2 HCO
            clear hx hpl hzq hql hm hq1l htl hU hE1 hT1 hV1 hZ0 IH hq2l hT2
            have HB6 := Lib.hid hpx.out.b
            go_wp2_with fail
            refine Calls.mono (HMT.out _ HB6.out) ?_
            rintro e w' ⟨rfl, rfl⟩
            go_wp2_with fail
            refine Calls.mono (HO1.out _) ?_
            rintro e w3 ⟨rfl, hb3⟩
            have H7 := Lib.hid (show P7 w w1.heap.size wr.heap.size w3.heap.size out ((21 : Nat) : Int) 0 V1 (w3.alloc (smO V1)) from ⟨p6_al (p6_bel (p6_of hpx.out) hb3) _, heap_alloc_new w3 (smO V1)⟩)
            have HV := Lib.hid (show (w3.alloc (smO V1)).heap[g12]? = some (smO V1) from bl_al (blk_belP hpx.out.v hb3) _)
            have h16 : w3.heap.size ≠ g12 := fun e => by have := (Array.getElem?_eq_some_iff.1 hpx.out.v).1; have := hb3.size; omega
            clear hb3 b0 b1
            have ho : (0 : Int) < (q : Int) + 1 + (bl : Int) := by omega
            go_upto_region 14 with (fail)
            generalize w3.alloc (smO V1) = W at *
            have kk := p7_dr H7.out
            have kv := kv_dr HV.out
            have hgd' := hgd.out
            have ww1 : IntKind.i64.wrap ((q : Int) + 1) = (q : Int) + 1 := IntWalk.i64_in _ (by omega)
            have ww2 : IntKind.i64.wrap ((q : Int) + 1 + (bl : Int) + 1) = (q : Int) + 1 + (bl : Int) + 1 := IntWalk.i64_in _ (by omega)
            have HSW := Lib.hid (And.intro kk kv)
            refine wp_region_hl 19 (fun X => P7 w w1.heap.size wr.heap.size w3.heap.size out ((21 : Nat) : Int) 0 V1 X ∧ X.heap[g12]? = some (smO V1)) (by kernel_rfl) rfl rfl (by kernel_rfl) ?_
            clear kk kv
            refine hl_take (v := ?v0be) 0 rfl (by kernel_rfl) (fun _ _ _ h => h) (Or.inl ⟨by rfl, ?hy0be⟩) HSW.out ?rest0be
            case hy0be =>
              intro w hSw
              obtain ⟨-, c0, c1, c2, c3, c4⟩ := p7_in hSw.1
              obtain ⟨d0, d1, d2, d3, d4⟩ := (sm_cells hSw.2).1
              go_simp <;> with_reducible rfl
            try simp only [Act.put, List.setIfInBounds_toArray, List.set_cons_zero, List.set_cons_succ]
            refine hl_take (v := ?v1be) 1 rfl (by kernel_rfl) (fun _ _ _ h => h) (Or.inl ⟨by rfl, ?hy1be⟩) HSW.out ?rest1be
            case hy1be =>
              intro w hSw
              obtain ⟨-, c0, c1, c2, c3, c4⟩ := p7_in hSw.1
              obtain ⟨d0, d1, d2, d3, d4⟩ := (sm_cells hSw.2).1
              go_simp <;> with_reducible rfl
            try simp only [Act.put, List.setIfInBounds_toArray, List.set_cons_zero, List.set_cons_succ]
            refine hl_take (v := ?v2be) 2 rfl (by kernel_rfl) (fun _ _ _ h => h) (Or.inl ⟨by rfl, ?hy2be⟩) HSW.out ?rest2be
            case hy2be =>
              intro w hSw
              obtain ⟨-, c0, c1, c2, c3, c4⟩ := p7_in hSw.1
              obtain ⟨d0, d1, d2, d3, d4⟩ := (sm_cells hSw.2).1
              go_simp <;> with_reducible rfl
            try simp only [Act.put, List.setIfInBounds_toArray, List.set_cons_zero, List.set_cons_succ]
            refine hl_take (v := ?v3be) 3 rfl (by kernel_rfl) (fun _ _ _ h => h) (Or.inl ⟨by rfl, ?hy3be⟩) HSW.out ?rest3be
            case hy3be =>
              intro w hSw
              obtain ⟨-, c0, c1, c2, c3, c4⟩ := p7_in hSw.1
              obtain ⟨d0, d1, d2, d3, d4⟩ := (sm_cells hSw.2).1
              go_simp <;> with_reducible rfl
            try simp only [Act.put, List.setIfInBounds_toArray, List.set_cons_zero, List.set_cons_succ]
            refine hl_take (v := ?v4be) 4 rfl (by kernel_rfl) (fun _ _ _ h => h) (Or.inl ⟨by rfl, ?hy4be⟩) HSW.out ?rest4be
            case hy4be =>
              intro w hSw
              obtain ⟨-, c0, c1, c2, c3, c4⟩ := p7_in hSw.1
              obtain ⟨d0, d1, d2, d3, d4⟩ := (sm_cells hSw.2).1
              go_simp <;> with_reducible rfl
            try simp only [Act.put, List.setIfInBounds_toArray, List.set_cons_zero, List.set_cons_succ]
            refine hl_take (v := ?v5be) 5 rfl (by kernel_rfl) (fun _ _ _ h => h) (Or.inl ⟨by rfl, ?hy5be⟩) HSW.out ?rest5be
            case hy5be =>
              intro w hSw
              obtain ⟨-, c0, c1, c2, c3, c4⟩ := p7_in hSw.1
              obtain ⟨d0, d1, d2, d3, d4⟩ := (sm_cells hSw.2).1
              go_simp <;> with_reducible rfl
            try simp only [Act.put, List.setIfInBounds_toArray, List.set_cons_zero, List.set_cons_succ]
            refine hl_take (v := ?v7be) 7 rfl (by kernel_rfl) (fun _ _ _ h => h) (Or.inl ⟨by rfl, ?hy7be⟩) HSW.out ?rest7be
            case hy7be =>
              intro w hSw
              obtain ⟨-, c0, c1, c2, c3, c4⟩ := p7_in hSw.1
              obtain ⟨d0, d1, d2, d3, d4⟩ := (sm_cells hSw.2).1
              go_simp <;> with_reducible rfl
            try simp only [Act.put, List.setIfInBounds_toArray, List.set_cons_zero, List.set_cons_succ]
            refine hl_take (v := ?v9be) 9 rfl (by kernel_rfl) (fun _ _ _ h => h) (Or.inl ⟨by rfl, ?hy9be⟩) HSW.out ?rest9be
            case hy9be =>
              intro w hSw
              obtain ⟨-, c0, c1, c2, c3, c4⟩ := p7_in hSw.1
              obtain ⟨d0, d1, d2, d3, d4⟩ := (sm_cells hSw.2).1
              go_simp <;> with_reducible rfl
            try simp only [Act.put, List.setIfInBounds_toArray, List.set_cons_zero, List.set_cons_succ]
            refine hl_take (v := ?v10be) 10 rfl (by kernel_rfl) (fun _ _ _ h => h) (Or.inl ⟨by rfl, ?hy10be⟩) HSW.out ?rest10be
            case hy10be =>
              intro w hSw
              obtain ⟨-, c0, c1, c2, c3, c4⟩ := p7_in hSw.1
              obtain ⟨d0, d1, d2, d3, d4⟩ := (sm_cells hSw.2).1
              go_simp <;> with_reducible rfl
            try simp only [Act.put, List.setIfInBounds_toArray, List.set_cons_zero, List.set_cons_succ]
            refine hl_take (v := ?v11be) 11 rfl (by kernel_rfl) (fun _ _ _ h => h) (Or.inl ⟨by rfl, ?hy11be⟩) HSW.out ?rest11be
            case hy11be =>
              intro w hSw
              obtain ⟨-, c0, c1, c2, c3, c4⟩ := p7_in hSw.1
              obtain ⟨d0, d1, d2, d3, d4⟩ := (sm_cells hSw.2).1
              go_simp <;> with_reducible rfl
            try simp only [Act.put, List.setIfInBounds_toArray, List.set_cons_zero, List.set_cons_succ]
            refine hl_take (v := ?v12be) 12 rfl (by kernel_rfl) (fun _ _ _ h => h) (Or.inl ⟨by rfl, ?hy12be⟩) HSW.out ?rest12be
            case hy12be =>
              intro w hSw
              obtain ⟨-, c0, c1, c2, c3, c4⟩ := p7_in hSw.1
              obtain ⟨d0, d1, d2, d3, d4⟩ := (sm_cells hSw.2).1
              go_simp <;> with_reducible rfl
            try simp only [Act.put, List.setIfInBounds_toArray, List.set_cons_zero, List.set_cons_succ]
            refine hl_take (v := ?v13be) 13 rfl (by kernel_rfl) (fun _ _ _ h => h) (Or.inl ⟨by rfl, ?hy13be⟩) HSW.out ?rest13be
            case hy13be =>
              intro w hSw
              obtain ⟨-, c0, c1, c2, c3, c4⟩ := p7_in hSw.1
              obtain ⟨d0, d1, d2, d3, d4⟩ := (sm_cells hSw.2).1
              go_simp <;> with_reducible rfl
            try simp only [Act.put, List.setIfInBounds_toArray, List.set_cons_zero, List.set_cons_succ]
            refine hl_take (v := ?v15be) 15 rfl (by kernel_rfl) (fun _ _ _ h => h) (Or.inl ⟨by rfl, ?hy15be⟩) HSW.out ?rest15be
            case hy15be =>
              intro w hSw
              obtain ⟨-, c0, c1, c2, c3, c4⟩ := p7_in hSw.1
              obtain ⟨d0, d1, d2, d3, d4⟩ := (sm_cells hSw.2).1
              go_simp <;> with_reducible rfl
            try simp only [Act.put, List.setIfInBounds_toArray, List.set_cons_zero, List.set_cons_succ]
            refine hl_one 6 rfl (by kernel_rfl) (fun K hK => ?_)
            go_simp
            refine Calls.mono (HR1.out _ (p7_b HSW.out.1)) ?_
            rintro e wn ⟨rfl, hbn⟩
            have HSW := Lib.hid (And.intro (p7_bel HSW.out.1 hbn) (blk_belP HSW.out.2 hbn))
            refine hK.out _ _ HSW.out ?_
            clear hK hbn
            try simp only [Act.put, List.setIfInBounds_toArray, List.set_cons_zero, List.set_cons_succ]
            refine hl_one 8 rfl (by kernel_rfl) (fun K hK => ?_)
            go_simp
            refine Calls.mono (HB1.out _) ?_
            rintro e wn ⟨rfl, hbn⟩
            have HSW := Lib.hid (And.intro (p7_bel HSW.out.1 hbn) (blk_belP HSW.out.2 hbn))
            refine hK.out _ _ HSW.out ?_
            clear hK hbn
            try simp only [Act.put, List.setIfInBounds_toArray, List.set_cons_zero, List.set_cons_succ]
            refine hl_one 14 rfl (by kernel_rfl) (fun K hK => ?_)
            go_simp
            refine Calls.mono (HR2.out _ (p7_b HSW.out.1)) ?_
            rintro e wn ⟨rfl, hbn⟩
            have HSW := Lib.hid (And.intro (p7_bel HSW.out.1 hbn) (blk_belP HSW.out.2 hbn))
            refine hK.out _ _ HSW.out ?_
            clear hK hbn
            try simp only [Act.put, List.setIfInBounds_toArray, List.set_cons_zero, List.set_cons_succ]
            refine hl_one 16 rfl (by kernel_rfl) (fun K hK => ?_)
            go_simp
            refine Calls.mono (HB3.out _) ?_
            rintro e wn ⟨rfl, hbn⟩
            have HSW := Lib.hid (And.intro (p7_bel HSW.out.1 hbn) (blk_belP HSW.out.2 hbn))
            refine hK.out _ _ HSW.out ?_
            clear hK hbn
            try simp only [Act.put, List.setIfInBounds_toArray, List.set_cons_zero, List.set_cons_succ]
            refine hl_one 17 rfl (by kernel_rfl) (fun K hK => ?_)
            go_simp
            refine Calls.mono (HEI.out _) ?_
            rintro e wn ⟨rfl, hbn⟩
            have HSW := Lib.hid (And.intro (p7_bel HSW.out.1 hbn) (blk_belP HSW.out.2 hbn))
            refine hK.out _ _ HSW.out ?_
            clear hK hbn
            try simp only [Act.put, List.setIfInBounds_toArray, List.set_cons_zero, List.set_cons_succ]
            refine hl_one 18 rfl (by kernel_rfl) (fun K hK => ?_)
            go_simp
            refine Calls.mono (HB2.out _) ?_
            rintro e wn ⟨rfl, hbn⟩
            have HSW := Lib.hid (And.intro (p7_bel HSW.out.1 hbn) (blk_belP HSW.out.2 hbn))
            refine hK.out _ _ HSW.out ?_
            clear hK hbn
            try simp only [Act.put, List.setIfInBounds_toArray, List.set_cons_zero, List.set_cons_succ]
            refine hl_done (by kernel_rfl) ?_
            have f5 := sm_cells HSW.out.2
            go_split_ands
            go_simp
            go_wp2_with fail
            go_meet
            exact ⟨U, q + 1 + bl + 1 + fl, by go_num, by rw [hln]; omega, Lib.hid ⟨HCO.out.symm, px_of (p7_6 (p7_put hgd.out h16 HSW.out.1 U)) (sm_put5 HSW.out.2 U)⟩⟩
          | lp n' b =>
            have hx := HX.out.2.2.2
            rw [St.fl] at hx
            obtain ⟨hx1, -⟩ := List.cons.inj hx
            simp only [Prod.mk.injEq] at hx1
            obtain rfl : k = 24 := by omega
            obtain ⟨-, rfl⟩ := hx1
            obtain ⟨yn, rfl⟩ := Int.eq_ofNat_of_zero_le (show 0 ≤ n' by have : opLo 24 = 1 := rfl; omega)
            have hyn : yn ≤ 20 := by have : opHi 24 = 20 := rfl; omega
            have hpl := HSP.out
            rw [St.pl] at hpl
            have hzq := HX.out.2.1
            have hql := HX.out.2.2.1
            rw [St.fl] at hzq
            have hm := match_lp (a := a ++ flL done) (c := flL rest ++ c) (n := (yn : Int)) hpl
            rw [← hzq, hql] at hm
            have HMT : Hid (∀ X, Below w.heap.size w X → Calls Tryz.prog 147 #[.slice (some ⟨zb, zo, none⟩) n zc, .int .i64 (q : Int)] X fun e w' => e = .returned (.tuple #[.int .i64 0, .int .i64 ((q : Int) + 1 + (flL b).length), .bool true]) ∧ X = w') := Lib.hid (fun X hX => by
              have := l04Match_any zs (some ⟨zb, zo, none⟩) zc q hqz (by rw [HN.out]; omega) X (HZ.out.below hX (Nat.le_refl _))
              rw [hm, HN.out] at this
              exact this)
            have hq1l : (a ++ flL done ++ [(24, (yn : Int))]).length = q + 1 := by rw [List.length_append, hql]; rfl
            have htl : (flL ts).length = (flL done).length + ((24, (yn : Int)) :: (flL b ++ [(23, 0)])).length + (flL rest).length := by rw [HX.out.1, flL_app, flL, St.fl]; simp only [List.length_append]; omega
            rw [HT.out] at htl
            simp only [List.length_cons, List.length_append, List.length_nil] at htl
            have HR1 : Hid (∀ X, Below w.heap.size w X → Calls Tryz.prog 93 #[.slice (some ⟨zb, zo, none⟩) n zc, .int .i64 ((q : Int) + 1), .int .i64 ((q : Int) + 1 + (flL b).length), .slice ka kn kc] X fun e w' => e = .returned (smV (costL known b (one 0 false))) ∧ Below X.heap.size X w') := Lib.hid (fun X hX => by
              have := IH.out b (a ++ flL done ++ [(24, (yn : Int))]) ([(23, 0)] ++ (flL rest ++ c)) (by rw [hzq]; simp) hpl (by omega) X (HZ.out.below hX (Nat.le_refl _)) (HKW.out.below hX (Nat.le_refl _))
              unfold PartC at this
              rw [hq1l, Int.natCast_add] at this
              exact this)
            have HCO : Hid ((St.lp (yn : Int) b).cost known = beh (one 1 false) (tims (beh (costL known b (one 0 false)) (one 1 false)) yn)) := Lib.hid (by rw [St.cost]; rfl)
            have hln : (St.lp (yn : Int) b).fl.length = (flL b).length + 2 := by rw [St.fl]; simp
            have OKB : Hid (costL known b (one 0 false)).ok := Lib.hid (costL_ok HKO.out b _ (one_ok (by omega) _))
            have OKV : Hid (one 1 false).ok := Lib.hid (one_ok (by omega) _)
            have OKZ : Hid (one 0 false).ok := Lib.hid (one_ok (by omega) _)
            have hpx : Hid (PX w w1.heap.size wr.heap.size g12 out ((24 : Nat) : Int) (yn : Int) (one 1 false) wc) := hpx
            have hbq : (flL b).length ≤ 40 := by omega
            generalize costL known b (one 0 false) = CB at *
            generalize (flL b).length = bl at *
            obtain ⟨V1, hV1⟩ : ∃ r, one 1 false = r := ⟨_, rfl⟩
            obtain ⟨Z0, hZ0⟩ : ∃ r, one 0 false = r := ⟨_, rfl⟩
            have HO1 := Lib.hid (fun w => l05One_any 1 false w)
            have HO0 := Lib.hid (fun w => l05One_any 0 false w)
            rw [hV1] at HCO OKV hpx HO1
            rw [hZ0] at HO0 OKZ
            obtain ⟨T1, hT1⟩ : ∃ r, beh CB V1 = r := ⟨_, rfl⟩
            have OKT : Hid T1.ok := Lib.hid (hT1 ▸ beh_ok OKB.out OKV.out)
            have HB1 := Lib.hid (fun w => l05Behind_any CB V1 OKB.out OKV.out w)
            rw [hT1] at HB1 HCO
            obtain ⟨E1, hE1⟩ : ∃ r, tims T1 yn = r := ⟨_, rfl⟩
            have OKE : Hid E1.ok := Lib.hid (hE1 ▸ tims_ok OKT.out yn)
            have HTI := Lib.hid (fun w => l05Times_any T1 yn OKT.out hyn w)
            rw [hE1] at HTI HCO
            have HB2 := Lib.hid (fun w => l05Behind_any V1 E1 OKV.out OKE.out w)
            obtain ⟨U, hU⟩ : ∃ r, beh V1 E1 = r := ⟨_, rfl⟩
            rw [hU] at HB2 HCO
            clear hx hpl hzq hql hm hq1l htl hU hE1 hT1 hV1 hZ0 IH
            have HB6 := Lib.hid hpx.out.b
            go_wp2_with fail
            refine Calls.mono (HMT.out _ HB6.out) ?_
            rintro e w' ⟨rfl, rfl⟩
            go_upto_region 19 with (fail)
            have kk := p6_dr (p6_of hpx.out)
            have kv := kv_dr hpx.out.v
            have hgd' := hgd.out
            have ww1 : IntKind.i64.wrap ((q : Int) + 1) = (q : Int) + 1 := IntWalk.i64_in _ (by omega)
            have HSW := Lib.hid (And.intro kk kv)
            refine wp_region_hl 13 (fun X => P6 w w1.heap.size wr.heap.size out ((24 : Nat) : Int) (yn : Int) X ∧ X.heap[g12]? = some (smO V1)) (by kernel_rfl) rfl rfl (by kernel_rfl) ?_
            clear kk kv
            refine hl_take (v := ?v0lp) 0 rfl (by kernel_rfl) (fun _ _ _ h => h) (Or.inl ⟨by rfl, ?hy0lp⟩) HSW.out ?rest0lp
            case hy0lp =>
              intro w hSw
              obtain ⟨-, c0, c1⟩ := p6_in hSw.1
              obtain ⟨d0, d1, d2, d3, d4⟩ := (sm_cells hSw.2).1
              go_simp <;> with_reducible rfl
            try simp only [Act.put, List.setIfInBounds_toArray, List.set_cons_zero, List.set_cons_succ]
            refine hl_take (v := ?v1lp) 1 rfl (by kernel_rfl) (fun _ _ _ h => h) (Or.inl ⟨by rfl, ?hy1lp⟩) HSW.out ?rest1lp
            case hy1lp =>
              intro w hSw
              obtain ⟨-, c0, c1⟩ := p6_in hSw.1
              obtain ⟨d0, d1, d2, d3, d4⟩ := (sm_cells hSw.2).1
              go_simp <;> with_reducible rfl
            try simp only [Act.put, List.setIfInBounds_toArray, List.set_cons_zero, List.set_cons_succ]
            refine hl_take (v := ?v2lp) 2 rfl (by kernel_rfl) (fun _ _ _ h => h) (Or.inl ⟨by rfl, ?hy2lp⟩) HSW.out ?rest2lp
            case hy2lp =>
              intro w hSw
              obtain ⟨-, c0, c1⟩ := p6_in hSw.1
              obtain ⟨d0, d1, d2, d3, d4⟩ := (sm_cells hSw.2).1
              go_simp <;> with_reducible rfl
            try simp only [Act.put, List.setIfInBounds_toArray, List.set_cons_zero, List.set_cons_succ]
            refine hl_take (v := ?v3lp) 3 rfl (by kernel_rfl) (fun _ _ _ h => h) (Or.inl ⟨by rfl, ?hy3lp⟩) HSW.out ?rest3lp
            case hy3lp =>
              intro w hSw
              obtain ⟨-, c0, c1⟩ := p6_in hSw.1
              obtain ⟨d0, d1, d2, d3, d4⟩ := (sm_cells hSw.2).1
              go_simp <;> with_reducible rfl
            try simp only [Act.put, List.setIfInBounds_toArray, List.set_cons_zero, List.set_cons_succ]
            refine hl_take (v := ?v4lp) 4 rfl (by kernel_rfl) (fun _ _ _ h => h) (Or.inl ⟨by rfl, ?hy4lp⟩) HSW.out ?rest4lp
            case hy4lp =>
              intro w hSw
              obtain ⟨-, c0, c1⟩ := p6_in hSw.1
              obtain ⟨d0, d1, d2, d3, d4⟩ := (sm_cells hSw.2).1
              go_simp <;> with_reducible rfl
            try simp only [Act.put, List.setIfInBounds_toArray, List.set_cons_zero, List.set_cons_succ]
            refine hl_take (v := ?v5lp) 5 rfl (by kernel_rfl) (fun _ _ _ h => h) (Or.inl ⟨by rfl, ?hy5lp⟩) HSW.out ?rest5lp
            case hy5lp =>
              intro w hSw
              obtain ⟨-, c0, c1⟩ := p6_in hSw.1
              obtain ⟨d0, d1, d2, d3, d4⟩ := (sm_cells hSw.2).1
              go_simp <;> with_reducible rfl
            try simp only [Act.put, List.setIfInBounds_toArray, List.set_cons_zero, List.set_cons_succ]
            refine hl_take (v := ?v9lp) 9 rfl (by kernel_rfl) (fun _ _ _ h => h) (Or.inl ⟨by rfl, ?hy9lp⟩) HSW.out ?rest9lp
            case hy9lp =>
              intro w hSw
              obtain ⟨-, c0, c1⟩ := p6_in hSw.1
              obtain ⟨d0, d1, d2, d3, d4⟩ := (sm_cells hSw.2).1
              go_simp <;> with_reducible rfl
            try simp only [Act.put, List.setIfInBounds_toArray, List.set_cons_zero, List.set_cons_succ]
            refine hl_take (v := ?v10lp) 10 rfl (by kernel_rfl) (fun _ _ _ h => h) (Or.inl ⟨by rfl, ?hy10lp⟩) HSW.out ?rest10lp
            case hy10lp =>
              intro w hSw
              obtain ⟨-, c0, c1⟩ := p6_in hSw.1
              obtain ⟨d0, d1, d2, d3, d4⟩ := (sm_cells hSw.2).1
              go_simp <;> with_reducible rfl
            try simp only [Act.put, List.setIfInBounds_toArray, List.set_cons_zero, List.set_cons_succ]
            refine hl_one 6 rfl (by kernel_rfl) (fun K hK => ?_)
            go_simp
            refine Calls.mono (HR1.out _ (p6_b HSW.out.1)) ?_
            rintro e wn ⟨rfl, hbn⟩
            have HSW := Lib.hid (And.intro (p6_bel HSW.out.1 hbn) (blk_belP HSW.out.2 hbn))
            refine hK.out _ _ HSW.out ?_
            clear hK hbn
            try simp only [Act.put, List.setIfInBounds_toArray, List.set_cons_zero, List.set_cons_succ]
            refine hl_one 7 rfl (by kernel_rfl) (fun K hK => ?_)
            go_simp
            refine Calls.mono (HO1.out _) ?_
            rintro e wn ⟨rfl, hbn⟩
            have HSW := Lib.hid (And.intro (p6_bel HSW.out.1 hbn) (blk_belP HSW.out.2 hbn))
            refine hK.out _ _ HSW.out ?_
            clear hK hbn
            try simp only [Act.put, List.setIfInBounds_toArray, List.set_cons_zero, List.set_cons_succ]
            refine hl_one 8 rfl (by kernel_rfl) (fun K hK => ?_)
            go_simp
            refine Calls.mono (HB1.out _) ?_
            rintro e wn ⟨rfl, hbn⟩
            have HSW := Lib.hid (And.intro (p6_bel HSW.out.1 hbn) (blk_belP HSW.out.2 hbn))
            refine hK.out _ _ HSW.out ?_
            clear hK hbn
            try simp only [Act.put, List.setIfInBounds_toArray, List.set_cons_zero, List.set_cons_succ]
            refine hl_one 11 rfl (by kernel_rfl) (fun K hK => ?_)
            go_simp
            refine Calls.mono (HTI.out _) ?_
            rintro e wn ⟨rfl, hbn⟩
            have HSW := Lib.hid (And.intro (p6_bel HSW.out.1 hbn) (blk_belP HSW.out.2 hbn))
            refine hK.out _ _ HSW.out ?_
            clear hK hbn
            try simp only [Act.put, List.setIfInBounds_toArray, List.set_cons_zero, List.set_cons_succ]
            refine hl_one 12 rfl (by kernel_rfl) (fun K hK => ?_)
            go_simp
            refine Calls.mono (HB2.out _) ?_
            rintro e wn ⟨rfl, hbn⟩
            have HSW := Lib.hid (And.intro (p6_bel HSW.out.1 hbn) (blk_belP HSW.out.2 hbn))
            refine hK.out _ _ HSW.out ?_
            clear hK hbn
            try simp only [Act.put, List.setIfInBounds_toArray, List.set_cons_zero, List.set_cons_succ]
            refine hl_done (by kernel_rfl) ?_
            have f5 := sm_cells HSW.out.2
            go_split_ands
            go_simp
            go_wp2_with fail
            go_meet
            exact ⟨U, q + 1 + bl, by go_num, by rw [hln]; omega, Lib.hid ⟨HCO.out.symm, px_of (p6_put hgd.out HSW.out.1 U) (sm_put5 HSW.out.2 U)⟩⟩
        case rest =>
          obtain ⟨v, q2, rfl, hq2', hpx2⟩ := hcut
          clear hpx b0 b1
          obtain ⟨⟨t0, t1, t2, t3, t4⟩, -, -⟩ := sm_cells hpx2.out.2.o
          obtain ⟨⟨v0, v1, v2, v3, v4⟩, -, -⟩ := sm_cells hpx2.out.2.v
          have HOK1 : Hid (out.ok ∧ v.ok) := Lib.hid ⟨HO.out ▸ costL_ok HKO.out done _ (one_ok (by omega) _), hpx2.out.1 ▸ cost_ok HKO.out s⟩
          go_wp2_with fail
          refine Calls.mono (l05Behind_any out v HOK1.out.1 HOK1.out.2 _) ?_
          rintro e w3 ⟨rfl, hb3⟩
          have HPX3 := Lib.hid (hpx2.out.2.bel hb3)
          have HV := Lib.hid hpx2.out.1
          clear hb3 t0 t1 t2 t3 t4 v0 v1 v2 v3 v4 hpx2
          obtain ⟨⟨t0, t1, t2, t3, t4⟩, ⟨f0, f1, f2, f3, f4⟩, -⟩ := sm_cells HPX3.out.o
          have HE : Hid (costL known (done ++ [s]) (one 0 false) = beh out v) := Lib.hid (by rw [costL_app HKO.out, costL, costL, HO.out, HV.out])
          have HD : Hid (ts = (done ++ [s]) ++ rest ∧ q2 + 1 = al + (flL (done ++ [s])).length) := Lib.hid ⟨by rw [HX.out.1]; simp, by rw [flL_app, flL_one, List.length_append]; have := HX.out.2.2.1; rw [List.length_append, HA.out] at this; omega⟩
          have hle : q2 + 1 ≤ al + tl := by
            have h1 := HD.out.2
            have h2 := HT.out
            rw [HD.out.1, flL_app, List.length_append] at h2
            omega
          have hgr : q < q2 + 1 := by
            have := HX.out.2.2.2
            rw [hq2', this]
            simp
          have hq3 : (q2 : Int) ≤ 1000 := by omega
          go_wp2
          have HW3 := Lib.hid (And.intro (bl_set5 HPX3.out.r w1.heap.size (by omega) (beh out v)) (And.intro (sm_put5 HPX3.out.o (beh out v)) (sm_set5 HPX3.out.b w1.heap.size (by omega) (beh out v))))
          clear t0 t1 t2 t3 t4 f0 f1 f2 f3 f4
          go_roundw
          case rel => exact ⟨q2 + 1, by omega, hle, by go_num, Lib.hid ⟨done ++ [s], rest, HD.out.1, HD.out.2, HW3.out.1, by rw [HE.out]; exact HW3.out.2.1, HW3.out.2.2⟩⟩
          case measure => simp [intOf]; omega
    · obtain rfl : q = al + tl := by omega
      obtain ⟨done, rest, hts, hqd, hsr, hso, hsb⟩ := hs.out
      have hrest : rest = [] := by
        rcases rest with _ | ⟨s, rest⟩
        · rfl
        · obtain ⟨x, xr, hxr⟩ := fl_head s
          have := HT.out
          rw [hts, flL_app, flL, hxr] at this
          simp at this
          omega
      subst hrest
      rw [List.append_nil] at hts
      subst hts
      have HR := Lib.hid (And.intro hsr (And.intro hso hsb))
      obtain ⟨⟨t0, t1, t2, t3, t4⟩, -, -⟩ := sm_cells HR.out.2.1
      obtain ⟨⟨r0, r1, r2, r3, r4⟩, ⟨f0, f1, f2, f3, f4⟩, -⟩ := sm_cells HR.out.1
      clear hsr hso hsb hqd hs
      go_wp2
      exact bodyPost_ret (v := smV (costL known ts (one 0 false))) (by simp [results, Tryz.results93, go_sem, r0, r1, r2, r3, r4]) rfl ⟨rfl, sm_set5 HR.out.2.2 w.heap.size (Nat.le_refl _) (costL known ts (one 0 false))⟩
end Go.Proofs.YtppgknjpbfopjaaGreatDoor
namespace Go.Proofs.YtppgknjpbfopjaaGreatDoor
theorem part_any (za : Option Addr) (zc : Nat) (zs : List Ins) (ka : Option Addr) (kn kc : Nat) (known : List SM) (hkl : known.length = kn) (hko : ∀ a ∈ known, a.ok) (hn : zs.length ≤ 40)
    (hok : ∀ j, j < zs.length → okB (zs.getD j (0, 0)).1 (zs.getD j (0, 0)).2 = true) (hcl : ∀ j, j < zs.length → (zs.getD j (0, 0)).1 = 26 → 0 ≤ (zs.getD j (0, 0)).2 ∧ (zs.getD j (0, 0)).2 < kn) :
    ∀ (m : Nat) (ts : List St) (a c : List Ins), (flL ts).length ≤ m → zs = a ++ flL ts ++ c → plL ts → ∀ w, Lies w za (flat insC zs) → Lies w ka (flat smS known) →
      PartC za zs.length zc ka kn kc (a.length : Int) ((a.length : Int) + (flL ts).length) (costL known ts (one 0 false)) w
  | 0, ts, a, c, hl, hz, hp, w, hw, hkw => part_step za zc zs ka kn kc known hkl hko hn hok hcl a c ts hz hp (Lib.hid (fun _ _ _ _ _ hlt => by omega)) w hw hkw
  | m + 1, ts, a, c, hl, hz, hp, w, hw, hkw => part_step za zc zs ka kn kc known hkl hko hn hok hcl a c ts hz hp
      (Lib.hid (fun ts' a' c' hz' hp' hlt w' hw' hkw' => part_any za zc zs ka kn kc known hkl hko hn hok hcl m ts' a' c' (by omega) hz' hp' w' hw' hkw')) w hw hkw
theorem okAll_at {zs : List Ins} (ha : okAll zs = true) {j : Nat} (hj : j < zs.length) : okB (zs.getD j (0, 0)).1 (zs.getD j (0, 0)).2 = true := by
  unfold okAll at ha
  rw [List.all_eq_true] at ha
  have hm : zs.getD j (0, 0) ∈ zs := by
    rw [show zs.getD j (0, 0) = zs[j] by simp [List.getD, hj]]
    exact List.getElem_mem hj
  exact ha _ hm
theorem part_whole (za : Option Addr) (zc : Nat) (zs : List Ins) (ka : Option Addr) (kc : Nat) (known : List SM) (hko : ∀ a ∈ known, a.ok) (hn : zs.length ≤ 40) {ks : List Int} (ha : okAll zs = true) (hv : (vVer zs ks known.length).2 = 0)
    (w : World) (hw : Lies w za (flat insC zs)) (hkw : Lies w ka (flat smS known)) : PartC za zs.length zc ka known.length kc 0 zs.length (codeCost known zs) w := by
  obtain ⟨ts, hf, hp⟩ := tree_of (okAll_vAll ha) hv
  have hc : ∀ j, j < zs.length → (zs.getD j (0, 0)).1 = 26 → 0 ≤ (zs.getD j (0, 0)).2 ∧ (zs.getD j (0, 0)).2 < known.length := fun j hj h26 => by
    obtain ⟨b, top, k, -, -, -, hk, -, -, -, -, h⟩ := (acc_all hko ha hv).1 j hj
    exact h (by omega)
  have h := part_any za zc zs ka known.length kc known rfl hko hn (fun j hj => okAll_at ha hj) hc zs.length ts [] [] (by rw [hf]; exact Nat.le_refl _) (by rw [hf]; simp) hp w hw hkw
  rw [← codeCost_tree hko hp, hf] at h
  rw [show ((([] : List Ins).length : Nat) : Int) = 0 from rfl, Int.zero_add] at h
  exact h
end Go.Proofs.YtppgknjpbfopjaaGreatDoor
