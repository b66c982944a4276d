/- What a valid program gives; impl's jobsOf; LoadOf of both. (Written by tools/gen_bd.py.) -/
import Derived.Test.YtppgknjpbfopjaaGreatDoorSmP
import Derived.Test.YtppgknjpbfopjaaGreatDoorPgmM
import Derived.Test.YtppgknjpbfopjaaGreatDoorPgm2
import Derived.Test.YtppgknjpbfopjaaGreatDoorCosts
import Derived.Test.YtppgknjpbfopjaaGreatDoorCosts2
import Derived.Test.YtppgknjpbfopjaaGreatDoorJob
import Derived.Test.YtppgknjpbfopjaaGreatDoorBz
namespace Go.Proofs.YtppgknjpbfopjaaGreatDoor
open Go.ChangeShapes Go.WideShapes Go.ChangeAt Go.RowKit
set_option linter.unusedVariables false
/-- What a valid program gives. -/
structure PgOK (D : Pgm) : Prop where
  all : (allF D.rs D.ks).2.2 = 0
  t1 : 1 ≤ D.n2
  t5 : D.n2 ≤ 5
  tk : ∀ k, k < D.n2 → tkB (D.ts.getD k t0) = true ∧ (D.ts.getD k t0).r < (D.n1 : Int)
theorem tkGo_ok {n : Int} : ∀ (ts : List TT) (j : Nat), (tkGo n ts j).2 = 0 → ∀ k, k < ts.length → tkB (ts.getD k t0) = true ∧ (ts.getD k t0).r < n
  | [], _, _, k, hk => by simp at hk
  | z :: ts, j, h, k, hk => by
    rw [tkGo] at h
    by_cases h1 : tkB z = false
    · rw [if_pos h1] at h; exact absurd (show (10 : Int) = 0 from h) (by decide)
    rw [if_neg h1] at h
    by_cases h2 : z.r ≥ n
    · rw [if_pos h2] at h; exact absurd (show (15 : Int) = 0 from h) (by decide)
    rw [if_neg h2] at h
    cases k with
    | zero => exact ⟨by simpa using h1, by simpa using h2⟩
    | succ k => simpa using tkGo_ok ts (j + 1) h k (by simpa using hk)
theorem pg_ok {D : Pgm} (h : okP D = true) : PgOK D := by
  unfold okP at h
  have h0 : (ckF D).2 = 0 := by simpa using h
  by_cases h1 : (kindsB D.ks && (wellR D.rs && decide (D.n3 = 8))) = false
  · rw [ckF_bad h1] at h0; exact absurd (show (1 : Int) = 0 from h0) (by decide)
  have h1' : (kindsB D.ks && (wellR D.rs && decide (D.n3 = 8))) = true := by simpa using h1
  by_cases h2 : (allGo D.ks D.rs 0).2.2 = 0
  · have h3 := h1'
    simp only [Bool.and_eq_true] at h3
    rw [ckF_go h1' h2] at h0
    unfold tkF at h0
    by_cases h4 : D.ts.length = 0
    · rw [if_pos h4] at h0; exact absurd (show (5 : Int) = 0 from h0) (by decide)
    rw [if_neg h4] at h0
    by_cases h5 : 5 < D.ts.length
    · rw [if_pos h5] at h0; exact absurd (show (6 : Int) = 0 from h0) (by decide)
    rw [if_neg h5] at h0
    exact ⟨by rw [allF_go h3.1 h3.2.1]; exact h2, by show 1 ≤ D.ts.length; omega, by show D.ts.length ≤ 5; omega, fun k hk => tkGo_ok D.ts 0 h0 k hk⟩
  · rw [ckF_ver h1' h2] at h0; exact absurd h0 h2
theorem tk_facts {z : TT} (h : tkB z = true) : (1 ≤ z.p ∧ z.p ≤ 5000) ∧ (1 ≤ z.d ∧ z.d ≤ 5000) ∧ (0 ≤ z.r ∧ z.r ≤ 5) ∧ (0 ≤ z.q ∧ z.q ≤ 4) := by
  unfold tkB at h
  simp only [decide_eq_true_eq] at h
  omega
/-- A task's job. -/
def jobK (D : Pgm) (k : Nat) : SM := jobS ((costsL D.rs).getD (D.ts.getD k t0).r.toNat sm0)
theorem PgOK.sum {D : Pgm} (h : PgOK D) {k : Nat} (hk : k < D.n2) : (D.ts.getD k t0).r.toNat < (costsL D.rs).length ∧ ((costsL D.rs).getD (D.ts.getD k t0).r.toNat sm0).ok := by
  have h1 := (h.tk k hk).2
  have h2 := (tk_facts (h.tk k hk).1).2.2.1
  have hl : (D.ts.getD k t0).r.toNat < (costsL D.rs).length := by rw [costsL_len]; show _ < D.n1; omega
  refine ⟨hl, ?_⟩
  have := costs_ok h.all D.rs.length (Nat.le_refl _)
  rw [List.take_length] at this
  exact this _ (by rw [List.getD_eq_getElem?_getD, List.getElem?_eq_getElem hl]; exact List.getElem_mem hl)
theorem PgOK.job {D : Pgm} (h : PgOK D) {k : Nat} (hk : k < D.n2) : (jobK D k).ok := jobS_ok (h.sum hk).2
theorem sm_at5 {w : World} {b o : Nat} {ss : List SM} (h : ∀ (j : Nat) v, (flat smC ss)[j]? = some v → w.cell? ⟨b, o + j, none⟩ = some v) {i : Nat} (hi : i < ss.length) :
    w.cell? ⟨b, o + i * 5, none⟩ = some (.int .i64 (ss.getD i sm0).t) ∧ w.cell? ⟨b, o + i * 5 + 1, none⟩ = some (.int .i64 (ss.getD i sm0).n) ∧ w.cell? ⟨b, o + i * 5 + 2, none⟩ = some (.int .i64 (ss.getD i sm0).h) ∧ w.cell? ⟨b, o + i * 5 + 3, none⟩ = some (.int .i64 (ss.getD i sm0).l) ∧ w.cell? ⟨b, o + i * 5 + 4, none⟩ = some (.int .i64 (ss.getD i sm0).i) := by
  have hx : ss[i]? = some (ss.getD i sm0) := by simp [List.getD, hi]
  exact ⟨h (i * 5) _ (flat_at smC_len hx (j := 0) (by omega)), h (i * 5 + 1) _ (flat_at smC_len hx (j := 1) (by omega)), h (i * 5 + 2) _ (flat_at smC_len hx (j := 2) (by omega)), h (i * 5 + 3) _ (flat_at smC_len hx (j := 3) (by omega)), h (i * 5 + 4) _ (flat_at smC_len hx (j := 4) (by omega))⟩
/-- Bounds: four numbers each. -/
structure BB where
  c : Int
  l : Int
  b : Int
  n : Int
def bdC (z : BB) : List Value := [.int .i64 z.c, .int .i64 z.l, .int .i64 z.b, .int .i64 z.n]
theorem bdC_len (z : BB) : (bdC z).length = 4 := rfl
def b0 : BB := ⟨0, 0, 0, 0⟩
def mk (n : Nat) (f : Nat → BB) : List BB := (List.range n).map f
theorem mk_len (n : Nat) (f : Nat → BB) : (mk n f).length = n := by simp [mk]
theorem mk_at {n : Nat} {f : Nat → BB} {k : Nat} (h : k < n) : (mk n f)[k]? = some (f k) := by simp [mk, h]
theorem mk_eq {n : Nat} {f g : Nat → BB} (h : ∀ k, k < n → f k = g k) : mk n f = mk n g := by
  unfold mk
  exact List.map_congr_left (fun k hk => h k (List.mem_range.1 hk))
theorem flat_put {α : Type} {enc : α → List Value} {K : Nat} (h : ∀ x, (enc x).length = K) {zs : List α} {i : Nat} {x y : α} (hi : zs[i]? = some x) {j : Nat} (hj : j < K) {v : Value} (hv : (enc x).set j v = enc y) : (flat enc zs).set (i * K + j) v = flat enc (zs.set i y) := by
  induction zs generalizing i with
  | nil => simp at hi
  | cons z t ih =>
    cases i with
    | zero =>
      simp at hi
      subst hi
      rw [flat_cons, Nat.zero_mul, Nat.zero_add, List.set_append_left _ _ (by rw [h]; exact hj), hv, List.set_cons_zero, flat_cons]
    | succ i =>
      rw [flat_cons, List.set_append_right _ _ (by rw [h, Nat.add_mul]; omega), h, show (i + 1) * K + j - K = i * K + j by rw [Nat.add_mul]; omega, List.set_cons_succ, flat_cons]
      rw [ih (by simpa using hi)]
theorem mk_set {n : Nat} {f : Nat → BB} {k : Nat} (y : BB) : (mk n f).set k y = mk n (fun i => if i = k then y else f i) := by
  apply List.ext_getElem
  · simp [mk]
  · intro i h1 h2
    simp only [mk, List.length_set, List.length_map, List.length_range] at h1
    by_cases e : i = k
    · subst e; simp [mk]
    · simp [mk, Ne.symm e, e]
theorem bd_set0 {n : Nat} {f : Nat → BB} {k : Nat} (h : k < n) (v : Int) : (flat bdC (mk n f)).set (k * 4) (.int .i64 v) = flat bdC (mk n (fun i => if i = k then { f k with c := v } else f i)) := by
  rw [← mk_set]; exact flat_put (j := 0) bdC_len (mk_at h) (by omega) rfl
theorem bd_set1 {n : Nat} {f : Nat → BB} {k : Nat} (h : k < n) (v : Int) : (flat bdC (mk n f)).set (k * 4 + 1) (.int .i64 v) = flat bdC (mk n (fun i => if i = k then { f k with l := v } else f i)) := by
  rw [← mk_set]; exact flat_put bdC_len (mk_at h) (by omega) rfl
theorem bd_set3 {n : Nat} {f : Nat → BB} {k : Nat} (h : k < n) (v : Int) : (flat bdC (mk n f)).set (k * 4 + 3) (.int .i64 v) = flat bdC (mk n (fun i => if i = k then { f k with n := v } else f i)) := by
  rw [← mk_set]; exact flat_put bdC_len (mk_at h) (by omega) rfl
def jbF (D : Pgm) (m : Nat) (i : Nat) : BB := if i < m then ⟨(jobK D i).t, longest (jobK D i), 0, 0⟩ else b0
theorem made4 (z : Value) (m : Nat) : (madeCells #[z, z, z, z] m).toList = List.replicate m z := by
  apply List.ext_getElem
  · simp [madeCells]
  · intro i h1 h2
    have h3 : i % 4 = 0 ∨ i % 4 = 1 ∨ i % 4 = 2 ∨ i % 4 = 3 := by omega
    rcases h3 with h | h | h | h <;> simp [madeCells, h]
theorem rep4 (n : Nat) : (List.replicate n b0).flatMap bdC = List.replicate (n * 4) (Value.int .i64 0) := by
  induction n with
  | zero => rfl
  | succ n ih =>
    rw [List.replicate_succ, List.flatMap_cons, ih, show (n + 1) * 4 = 4 + n * 4 by omega, ← List.replicate_append_replicate]
    rfl
theorem jb_zero (D : Pgm) (n : Nat) : flat bdC (mk n (jbF D 0)) = (List.replicate n b0).flatMap bdC := by
  have : mk n (jbF D 0) = List.replicate n b0 := by
    apply List.ext_getElem
    · simp [mk]
    · intro i h1 h2; simp [mk, jbF]
  rw [this]; rfl
theorem jb_step {D : Pgm} {n k : Nat} (h : k < n) : ((flat bdC (mk n (jbF D k))).set (k * 4) (.int .i64 (jobK D k).t)).set (k * 4 + 1) (.int .i64 (longest (jobK D k))) = flat bdC (mk n (jbF D (k + 1))) := by
  rw [bd_set0 h, bd_set1 h]
  congr 1
  refine mk_eq (fun i hi => ?_)
  unfold jbF
  by_cases e : i = k
  · subst e; simp [b0]
  · rw [if_neg e, if_neg e]
    by_cases q : i < k
    · rw [if_pos q, if_pos (by omega)]
    · rw [if_neg q, if_neg (by omega)]
def JbPost (D : Pgm) (w : World) (e : Ending) (w' : World) : Prop :=
  ∃ g, e = .returned (.slice (some ⟨g, 0, none⟩) D.n2 D.n2) ∧ w'.ownsRow w.heap.size 68 4 (.slice (some ⟨g, 0, none⟩) D.n2 D.n2) D.n2 (flat bdC (mk D.n2 (jbF D D.n2))) ∧ Below w.heap.size w w'
theorem longF_ok {a : SM} (h : a.ok) : longF a = (longest a, 0) := by unfold longF; rw [smOK_yes h]; rfl
theorem PgOK.n1 {D : Pgm} (h : PgOK D) : 1 ≤ D.n1 := by
  have h1 := (h.tk 0 (by have := h.t1; omega)).2
  have h2 := (tk_facts (h.tk 0 (by have := h.t1; omega)).1).2.2.1
  omega
set_option maxRecDepth 100000 in
set_option maxHeartbeats 4000000 in
theorem jobsOf_any (h : PH) (D : Pgm) (hp : PgOK D) (w : World) (ht : OpTab w) (hz : PLies w h D) : Calls Tryz.prog 54 #[pV h D] w (JbPost D w) := by
  obtain ⟨i0, hi, hz0, hz1, hz2⟩ := info_parts (show (Tryz.prog.info? 68).map (fun i => (i.zero, i.size, i.bytes)) = some (some (.agg #[.int .i64 0, .int .i64 0, .int .i64 0, .int .i64 0]), 4, 32) by kernel_rfl)
  have HI := Lib.hid (And.intro hi (And.intro hz0 (And.intro hz1 hz2)))
  clear hi hz0 hz1 hz2
  have HN1 : Hid (D.rs.length = D.n1) := Lib.hid rfl
  have HN2 : Hid (D.ts.length = D.n2) := Lib.hid rfl
  obtain ⟨a0, a1, a2, a3, e0, e1, e2, e3⟩ := h
  obtain ⟨tb, to_, rfl, htb, hts⟩ := hz.ts.open (by rw [flat_len tC_len, HN2.out]; have := hp.t1; omega)
  have HX := Lib.hid (Bx.start w (pO ⟨a0, a1, some ⟨tb, to_, none⟩, a3, e0, e1, e2, e3⟩ D 35))
  have HCS := Lib.hid (fun X (hX : Below w.heap.size w X) => costs0_any a1 e1 D.rs D.ks hp.all X (ht.below hX (Nat.le_refl _)) (hz.rs.below hX (Nat.le_refl _)).routs)
  have HTS := Lib.hid hts
  have HP := Lib.hid hp
  have HPO : Hid (∀ g w', w'.ownsRow w.heap.size 68 4 (.slice (some ⟨g, 0, none⟩) D.n2 D.n2) D.n2 (flat bdC (mk D.n2 (jbF D D.n2))) → Below w.heap.size w w' → JbPost D w (.returned (.slice (some ⟨g, 0, none⟩) D.n2 D.n2)) w') := Lib.hid (fun g w' h1 h2 => ⟨g, rfl, h1, h2⟩)
  have hn5 := hp.t5
  have hn1 := hp.n1
  generalize JbPost D w = POST at *
  rw [HN1.out] at HCS
  clear ht hz hp hts
  go_enter Tryz.func54, Tryz.ntmps54
  have q1 := cell_of_row _ w.heap.size 1 _ _ _ HX.out.box
  go_wp2_with fail
  refine Calls.mono (HCS.out _ HX.out.bel) ?_
  rintro e w1 ⟨hb1, sa, sn, sc, rfl, hs⟩
  have hsl := sr_len hs
  rw [costsL_len, HN1.out] at hsl
  have HX1 := Lib.hid (HX.out.to hb1)
  obtain ⟨sb, so, rfl, hsb, hss⟩ := (lies_own hs).open (by rw [flat_len smC_len, costsL_len, HN1.out]; omega)
  have HSS := Lib.hid hss
  have hB1 : w.heap.size ≤ w1.heap.size := HX1.out.bel.size
  have q2 := cell_of_row _ w.heap.size 2 _ _ _ HX1.out.box
  clear hb1 hs q1 hss
  subst hsl
  go_wp2_with (at_make; go_must (refine wpList_make_full _ rfl _ _ _ rfl w1.heap.size 68 i0 _ 4 Tryz.underlying29 HI.out.1 HI.out.2.1 HI.out.2.2.1 .i64 .i64 _ _ D.n2 rfl rfl rfl rfl (by rw [HI.out.2.2.2]; omega) (by unfold maxLen; omega) (Nat.le_refl _) ?_); intro w2 hown2 hgrow2; have HB12 := Lib.hid ((Below.refl w1.heap.size w1).grown hgrow2 (Nat.le_refl _) (by intro k hk; cases hk)); have HX2 := Lib.hid (HX1.out.to HB12.out); clear q2; have q2 := cell_of_row _ w.heap.size 2 _ _ _ HX2.out.box)
  have HR0 : Hid (w2.ownsRow w1.heap.size 68 4 (.slice (some ⟨w1.heap.size, 0, none⟩) D.n2 D.n2) D.n2 (flat bdC (mk D.n2 (jbF D 0)))) := Lib.hid (by
    have e : flat bdC (mk D.n2 (jbF D 0)) = _ := jb_zero D D.n2
    rw [e]
    have h9 := hown2
    rw [rep4]
    have h8 : (madeCells (Value.agg #[.int .i64 0, .int .i64 0, .int .i64 0, .int .i64 0]).cells (D.n2 * 4)).toList = List.replicate (D.n2 * 4) (Value.int .i64 0) := made4 _ _
    rw [h8] at h9
    exact h9)
  clear hown2 hgrow2 q2
  go_loopw [18] (fun i wr => ∃ k : Nat, k ≤ D.n2 ∧ i = .int .i64 k ∧ Hid (wr.ownsRow w1.heap.size 68 4 (.slice (some ⟨w1.heap.size, 0, none⟩) D.n2 D.n2) D.n2 (flat bdC (mk D.n2 (jbF D k)))) ∧ Hid (Below w1.heap.size w1 wr)) (fun i _ => D.n2 - (intOf i).toNat)
  case atStart => exact ⟨0, Nat.zero_le _, rfl, HR0, HB12⟩
  case round =>
    obtain ⟨k, hk, rfl, ho, hb⟩ := hrel
    have HBw := Lib.hid (HX1.out.bel.trans (hb.out.mono hB1))
    by_cases hlt : k < D.n2
    · have d6 : C6 tb (to_ + k * 6) (D.ts.getD k t0) wr := C6.bel (tt_at HTS.out (by rw [HN2.out]; exact hlt)) HBw.out htb
      obtain ⟨j1, j2⟩ := HP.out.sum hlt
      have htk := HP.out.tk k hlt
      obtain ⟨-, -, r12, -⟩ := tk_facts htk.1
      have hrn := htk.2
      have hs5 := sm_at5 HSS.out j1
      have HJC := Lib.hid (jobCost_any _ j2)
      have HLO := Lib.hid (fun X => LongestOf_any (jobK D k) X)
      rw [longF_ok (HP.out.job hlt)] at HLO
      have HST := Lib.hid (jb_step (D := D) hlt)
      have HJK : Hid (jobS ((costsL D.rs).getD (D.ts.getD k t0).r.toNat sm0) = jobK D k) := Lib.hid rfl
      rw [HJK.out] at HJC
      generalize jobK D k = q at *
      generalize D.ts.getD k t0 = z at *
      obtain ⟨zk, zp, zd, zi, zq, zr⟩ := z
      dsimp only at r12 hrn hs5 j1 d6 HJC HJK
      obtain ⟨r, rfl⟩ : ∃ r : Nat, zr = r := ⟨zr.toNat, by omega⟩
      rw [Int.toNat_natCast] at hs5 HJC HJK
      generalize (costsL D.rs).getD r sm0 = s at *
      obtain ⟨d0, d1, d2, d3, d4, d5⟩ := d6
      obtain ⟨u0, u1, u2, u3, u4⟩ := hs5
      have x0 := (hb.out.cell (p := ⟨sb, so + r * 5, none⟩) hsb).trans u0
      have x1 := (hb.out.cell (p := ⟨sb, so + r * 5 + 1, none⟩) hsb).trans u1
      have x2 := (hb.out.cell (p := ⟨sb, so + r * 5 + 2, none⟩) hsb).trans u2
      have x3 := (hb.out.cell (p := ⟨sb, so + r * 5 + 3, none⟩) hsb).trans u3
      have x4 := (hb.out.cell (p := ⟨sb, so + r * 5 + 4, none⟩) hsb).trans u4
      have HA := Lib.hid (dbox wr (tO ⟨zk, zp, zd, zi, zq, (r : Int)⟩ 77))
      have hsbr : sb < wr.heap.size := Nat.lt_of_lt_of_le hsb hb.out.size
      clear u0 u1 u2 u3 u4 htk j1 j2 HJK
      go_wp2_with fail
      refine Calls.mono (HJC.out _) ?_
      rintro e w3 ⟨rfl, hb3⟩
      have HB3 := Lib.hid ((HA.out.trans (hb3.mono HA.out.size)))
      have HW4 := Lib.hid (HB3.out.alloc HB3.out.size (smO q))
      have R4 := Lib.hid (own_bl ho.out HW4.out)
      have hg3 : w1.heap.size < w3.heap.size := Nat.lt_of_lt_of_le (ho.out.lt _ rfl).2 HB3.out.size
      have hn1' : ¬ w1.heap.size = w3.heap.size := by omega
      have hn2' : ¬ w3.heap.size = w1.heap.size := by omega
      obtain ⟨o0, ho0⟩ : ∃ o0, (w3.alloc (smO q)).cell? ⟨w1.heap.size, k * 4, none⟩ = some o0 := ⟨_, by rw [R4.out.cellAt (k * 4) (by omega)]; exact List.getElem?_eq_getElem (by rw [flat_len bdC_len, mk_len]; omega)⟩
      have f0 := R4.out.frozenAt (k * 4)
      obtain ⟨⟨c0, c1, c2, c3, c4⟩, -, -⟩ := sm_cells (heap_alloc_new w3 (smO q))
      clear hb3 d0 d1 d2 d3 d4 d5 x0 x1 x2 x3 x4
      go_wp2_with fail
      have R4b := Lib.hid (own_bl ho.out HB3.out)
      have R5 := Lib.hid (own_bl (R4b.out.stored (k * 4) (.int .i64 q.t)).1 (dbox _ (smO q)))
      have HW5a := (hb.out.trans (HB3.out.mono hb.out.size)).setCell (p := ⟨w1.heap.size, k * 4, none⟩) (Nat.le_refl _) (.int .i64 q.t)
      have HW5 := Lib.hid (HW5a.alloc HW5a.size (smO q))
      clear HW5a
      refine Calls.mono (HLO.out _) ?_
      rintro e w5 ⟨rfl, hb5⟩
      have R6 := Lib.hid (own_bl R5.out hb5)
      have HW6 := Lib.hid (HW5.out.trans (hb5.mono HW5.out.size))
      obtain ⟨o1, ho1⟩ : ∃ o1, w5.cell? ⟨w1.heap.size, k * 4 + 1, none⟩ = some o1 := ⟨_, by rw [R6.out.cellAt (k * 4 + 1) (by omega)]; exact List.getElem?_eq_getElem (by rw [List.length_set, flat_len bdC_len, mk_len]; omega)⟩
      have f1 := R6.out.frozenAt (k * 4 + 1)
      have R7 := Lib.hid (R6.out.stored (k * 4 + 1) (.int .i64 (longest q))).1
      rw [HST.out] at R7
      have HW7 := Lib.hid (HW6.out.setCell (p := ⟨w1.heap.size, k * 4 + 1, none⟩) (Nat.le_refl _) (.int .i64 (longest q)))
      clear hb5 ho0 f0 c0 c1 c2 c3 c4
      go_wp2
      go_roundw
      case rel => exact ⟨k + 1, by omega, by go_num, R7, HW7⟩
      case measure => simp [intOf]; omega
    · obtain rfl : k = D.n2 := by omega
      go_wp2
      exact HPO.out _ _ (own_base ho.out hB1) HBw.out
/-- The load of the first tasks. -/
def ldF (D : Pgm) : Nat → Int
  | 0 => 0
  | k + 1 => ldF D k + quo (1000 * (jobK D k).t) (D.ts.getD k t0).p
theorem PgOK.ld {D : Pgm} (h : PgOK D) {k : Nat} (hk : k < D.n2) : (0 ≤ (jobK D k).t ∧ (jobK D k).t ≤ 2147483647) ∧ (1 ≤ (D.ts.getD k t0).p ∧ (D.ts.getD k t0).p ≤ 5000) ∧ 0 ≤ quo (1000 * (jobK D k).t) (D.ts.getD k t0).p ∧ quo (1000 * (jobK D k).t) (D.ts.getD k t0).p ≤ 2147483647000 := by
  have h1 := (h.job hk).1
  have h2 := (tk_facts (h.tk k hk).1).1
  have h3 := quo_bd (n := 1000 * (jobK D k).t) (p := (D.ts.getD k t0).p) (by omega) h2.1
  exact ⟨h1, h2, h3.1, by omega⟩
def ldR (D : Pgm) : Int × Int := if okP D = true then (ldF D D.n2, 0) else (0, 1)
set_option maxRecDepth 100000 in
set_option maxHeartbeats 4000000 in
theorem LoadOf_any (h : PH) (D : Pgm) (hm : D.le maxLen) (w : World) (ht : VTabs w) (hz : PLies w h D) : Calls Tryz.prog 19 #[pV h D] w (BzPost (ldR D) w) := by
  have HX0 := Lib.hid (Bx.start w (pO h D 35))
  have HOK := Lib.hid (programOK_any h D hm _ (ht.below HX0.out.bel (Nat.le_refl _)) (hz.below HX0.out.bel (Nat.le_refl _)))
  cases hok : okP D
  · have HP := Lib.hid (fun w' (hb : Below w.heap.size w w') => show BzPost (ldR D) w (.returned (.tuple #[.int .i64 0, .int .i64 1])) w' from ⟨by unfold ldR; rw [hok]; rfl, hb⟩)
    rw [hok] at HOK
    generalize BzPost (ldR D) w = POST at *
    clear ht hz hok
    go_enter Tryz.func19, Tryz.ntmps19
    go_wp2_with fail
    refine Calls.mono HOK.out ?_
    rintro e w1 ⟨rfl, hb⟩
    have HX := Lib.hid (HX0.out.to hb)
    clear hb
    go_wp2
    exact HP.out _ HX.out.bel
  have hp := pg_ok hok
  have HP := Lib.hid (fun w' (hb : Below w.heap.size w w') => show BzPost (ldR D) w (.returned (.tuple #[.int .i64 (ldF D D.n2), .int .i64 0])) w' from ⟨by unfold ldR; rw [hok]; rfl, hb⟩)
  rw [hok] at HOK
  have HJ := Lib.hid (fun X (hX : Below w.heap.size w X) => jobsOf_any h D hp X (ht.op.below hX (Nat.le_refl _)) (hz.below hX (Nat.le_refl _)))
  generalize BzPost (ldR D) w = POST at *
  have HN2 : Hid (D.ts.length = D.n2) := Lib.hid rfl
  have HLD := Lib.hid (fun k (hk : k < D.n2) => hp.ld hk)
  obtain ⟨a0, a1, a2, a3, e0, e1, e2, e3⟩ := h
  obtain ⟨tb, to_, rfl, htb, hts⟩ := hz.ts.open (by rw [flat_len tC_len, HN2.out]; have := hp.t1; omega)
  have HTS := Lib.hid hts
  have hn5 := hp.t5
  clear ht hz hok hp hm hts
  go_enter Tryz.func19, Tryz.ntmps19
  go_wp2_with fail
  refine Calls.mono HOK.out ?_
  rintro e w1 ⟨rfl, hb⟩
  have HX := Lib.hid (HX0.out.to hb)
  have q0 := cell_of_row _ w.heap.size 0 _ _ _ HX.out.box
  have q1 := cell_of_row _ w.heap.size 1 _ _ _ HX.out.box
  have q2 := cell_of_row _ w.heap.size 2 _ _ _ HX.out.box
  have q3 := cell_of_row _ w.heap.size 3 _ _ _ HX.out.box
  clear hb HX0
  go_wp2_with fail
  refine Calls.mono (HJ.out _ HX.out.bel) ?_
  rintro e w2 ⟨g, rfl, ho, hb2⟩
  have HO := Lib.hid ho
  have HX2 := Lib.hid (HX.out.to hb2)
  clear ho hb2 q0 q1 q2 q3 HX
  go_wp2_with fail
  go_loopw [4, 13] (fun s i wr => ∃ (k : Nat) (acc : Int), k ≤ D.n2 ∧ i = .int .i64 k ∧ s = .int .i64 acc ∧ 0 ≤ acc ∧ acc ≤ 2147483647000 * (k : Int) ∧ Hid (acc = ldF D k) ∧ Hid (Below w2.heap.size w2 wr)) (fun _ i _ => D.n2 - (intOf i).toNat)
  case atStart => exact ⟨0, 0, Nat.zero_le _, rfl, rfl, by omega, by omega, Lib.hid rfl, Lib.hid (Below.refl _ _)⟩
  case round =>
    obtain ⟨k, acc, hk, rfl, rfl, hacc0, hacc1, hl, hb⟩ := hrel
    have HXr := Lib.hid (HX2.out.bel.trans (hb.out.mono HX2.out.bel.size))
    by_cases hlt : k < D.n2
    · obtain ⟨-, d1, -⟩ := (C6.bel (tt_at HTS.out (by rw [HN2.out]; exact hlt)) HXr.out htb : C6 tb (to_ + k * 6) (D.ts.getD k t0) wr)
      have HOr := Lib.hid (own_bl HO.out hb.out)
      have hcl : ∀ j, j < 4 → wr.cell? ⟨g, k * 4 + j, none⟩ = some ((bdC ⟨(jobK D k).t, longest (jobK D k), 0, 0⟩).getD j undef) := fun j hj => by
        have h1 := HOr.out.cellAt (k * 4 + j) (by omega)
        rw [h1]
        have h2 : (mk D.n2 (jbF D D.n2))[k]? = some ⟨(jobK D k).t, longest (jobK D k), 0, 0⟩ := by rw [mk_at hlt]; unfold jbF; rw [if_pos hlt]
        have h3 := flat_at bdC_len h2 hj
        rw [h3]
        match j, hj with
        | 0, _ => rfl
        | 1, _ => rfl
        | 2, _ => rfl
        | 3, _ => rfl
      have u0 : wr.cell? ⟨g, k * 4, none⟩ = some (.int .i64 (jobK D k).t) := hcl 0 (by omega)
      have u1 : wr.cell? ⟨g, k * 4 + 1, none⟩ = some (.int .i64 (longest (jobK D k))) := hcl 1 (by omega)
      have u2 : wr.cell? ⟨g, k * 4 + 2, none⟩ = some (.int .i64 0) := hcl 2 (by omega)
      have u3 : wr.cell? ⟨g, k * 4 + 3, none⟩ = some (.int .i64 0) := hcl 3 (by omega)
      obtain ⟨⟨t0', t1'⟩, ⟨p0, p1⟩, y0, y1⟩ := HLD.out k hlt
      have HS : Hid (ldF D (k + 1) = ldF D k + quo (1000 * (jobK D k).t) (D.ts.getD k t0).p) := Lib.hid rfl
      have hbx := blk_bel HX2.out.box hb.out
      have HBX := Lib.hid hbx
      have htbr : tb < wr.heap.size := Nat.lt_of_lt_of_le htb HXr.out.size
      have hbs : w2.heap.size ≤ wr.heap.size := hb.out.size
      have hwr : w.heap.size < wr.heap.size := (Array.getElem?_eq_some_iff.1 hbx).1
      have hlg : 0 ≤ longest (jobK D k) ∨ longest (jobK D k) < 0 := by omega
      have HT := Lib.hid (fun X => quotientUp_any (1000 * (jobK D k).t) (D.ts.getD k t0).p ⟨by omega, by omega⟩ ⟨p0, p1⟩ X)
      obtain ⟨qq, hqq⟩ : ∃ qq, quo (1000 * (jobK D k).t) (D.ts.getD k t0).p = qq := ⟨_, rfl⟩
      rw [hqq] at HT HS y0 y1
      generalize (jobK D k).t = T at *
      generalize longest (jobK D k) = Lg at *
      generalize (D.ts.getD k t0).p = P at *
      have HNB := Lib.hid (dbox wr (.cells #[.int .i64 T, .int .i64 Lg, .int .i64 0, .int .i64 0] 68))
      have HNC := Lib.hid (heap_alloc_new wr (.cells #[.int .i64 T, .int .i64 Lg, .int .i64 0, .int .i64 0] 68))
      clear hcl hbx hqq
      go_wp2_with fail
      have HBX2 := Lib.hid (blk_bel HBX.out HNB.out)
      have d2 := (HNB.out.cell (p := ⟨tb, to_ + k * 6 + 1, none⟩) htbr).trans d1
      generalize hG : wr.heap.size = gw at *
      clear hG
      generalize wr.alloc (.cells #[.int .i64 T, .int .i64 Lg, .int .i64 0, .int .i64 0] 68) = w3 at *
      have x0 := cell_of_row _ gw 0 _ _ _ HNC.out
      have x2 := cell_of_row _ w.heap.size 2 _ _ _ HBX2.out
      have v1 := IntWalk.i64_in (1000 * T) (by omega)
      have v2 := IntWalk.i64_in (acc + qq) (by omega)
      have lk : (k : Int) < (D.n2 : Int) := by omega
      clear u0 u1 u2 u3 d1
      go_quiet ((go_at_call 55; refine Calls.mono (HT.out _) ?_; exact fun e w' h => ⟨h.1, _, h.2.symm⟩))
      clear v1 v2
      go_wp2
      go_roundw
      case rel => exact ⟨k + 1, acc + qq, by omega, by go_num, rfl, by omega, by omega, Lib.hid (by rw [HS.out, ← hl.out]), Lib.hid (bel_dn (hb.out.trans (HNB.out.mono hbs)) _)⟩
      case measure => simp [intOf]; omega
    · obtain rfl : k = D.n2 := by omega
      have HE := Lib.hid hl.out
      go_wp2
      rw [HE.out]
      exact HP.out _ HXr.out
set_option maxRecDepth 100000 in
set_option maxHeartbeats 4000000 in
theorem specLoadOf_any (h : PH) (D : Pgm) (hm : D.le maxLen) (w : World) (hz : PLies w h D) : Calls Tryz.prog 18 #[pV h D] w (BzPost (ldR D) w) := by
  have HX0 := Lib.hid (Bx.start w (pO h D 35))
  have HOK := Lib.hid (l08OK_any h D hm _ (hz.below HX0.out.bel (Nat.le_refl _)))
  cases hok : okP D
  · have HP := Lib.hid (fun w' (hb : Below w.heap.size w w') => show BzPost (ldR D) w (.returned (.tuple #[.int .i64 0, .int .i64 1])) w' from ⟨by unfold ldR; rw [hok]; rfl, hb⟩)
    rw [hok] at HOK
    generalize BzPost (ldR D) w = POST at *
    clear hz hok
    go_enter Tryz.func18, Tryz.ntmps18
    go_wp2_with fail
    refine Calls.mono HOK.out ?_
    rintro e w1 ⟨rfl, hb⟩
    have HX := Lib.hid (HX0.out.to hb)
    clear hb
    go_wp2
    exact HP.out _ HX.out.bel
  have hp := pg_ok hok
  have HP := Lib.hid (fun w' (hb : Below w.heap.size w w') => show BzPost (ldR D) w (.returned (.tuple #[.int .i64 (ldF D D.n2), .int .i64 0])) w' from ⟨by unfold ldR; rw [hok]; rfl, hb⟩)
  rw [hok] at HOK
  have HCS := Lib.hid (fun X (hX : Below w.heap.size w X) => l05Costs_any h.a1 h.c1 D.rs D.ks X hp.all (hz.rs.below hX (Nat.le_refl _)).routs)
  generalize BzPost (ldR D) w = POST at *
  have HN1 : Hid (D.rs.length = D.n1) := Lib.hid rfl
  have HN2 : Hid (D.ts.length = D.n2) := Lib.hid rfl
  have HLD := Lib.hid (fun k (hk : k < D.n2) => hp.ld hk)
  rw [HN1.out] at HCS
  obtain ⟨a0, a1, a2, a3, e0, e1, e2, e3⟩ := h
  obtain ⟨tb, to_, rfl, htb, hts⟩ := hz.ts.open (by rw [flat_len tC_len, HN2.out]; have := hp.t1; omega)
  have HTS := Lib.hid hts
  have hn5 := hp.t5
  have hn1 := hp.n1
  have HPK := Lib.hid hp
  clear hz hok hp hm hts
  go_enter Tryz.func18, Tryz.ntmps18
  go_wp2_with fail
  refine Calls.mono HOK.out ?_
  rintro e w1 ⟨rfl, hb⟩
  have HX := Lib.hid (HX0.out.to hb)
  have q1 := cell_of_row _ w.heap.size 1 _ _ _ HX.out.box
  clear hb HX0
  go_wp2_with fail
  refine Calls.mono (HCS.out _ HX.out.bel) ?_
  rintro e w2 ⟨hb2, sa, sn, sc, rfl, hs⟩
  have HX2 := Lib.hid (HX.out.to hb2)
  obtain ⟨sb, so, rfl, hsb, hss⟩ := (lies_own hs).open (by rw [flat_len smC_len, costsL_len, HN1.out]; omega)
  have hsl := sr_len hs
  rw [costsL_len, HN1.out] at hsl
  subst hsl
  have HSS := Lib.hid hss
  clear q1 HX hs hss hb2
  go_wp2_with fail
  go_loopw [5, 6] (fun s i wr => ∃ (k : Nat) (acc : Int), k ≤ D.n2 ∧ i = .int .i64 k ∧ s = .int .i64 acc ∧ 0 ≤ acc ∧ acc ≤ 2147483647000 * (k : Int) ∧ Hid (acc = ldF D k) ∧ Hid (Below w2.heap.size w2 wr)) (fun _ i _ => D.n2 - (intOf i).toNat)
  case atStart => exact ⟨0, 0, Nat.zero_le _, rfl, rfl, by omega, by omega, Lib.hid rfl, Lib.hid (Below.refl _ _)⟩
  case round =>
    obtain ⟨k, acc, hk, rfl, rfl, hacc0, hacc1, hl, hb⟩ := hrel
    have HXr := Lib.hid (HX2.out.bel.trans (hb.out.mono HX2.out.bel.size))
    have q2 := cell_of_row _ w.heap.size 2 _ _ _ (blk_bel HX2.out.box hb.out)
    by_cases hlt : k < D.n2
    · obtain ⟨d0, d1, d2, d3, d4, d5⟩ := (C6.bel (tt_at HTS.out (by rw [HN2.out]; exact hlt)) HXr.out htb : C6 tb (to_ + k * 6) (D.ts.getD k t0) wr)
      obtain ⟨j1, j2⟩ := HPK.out.sum hlt
      have htk := HPK.out.tk k hlt
      obtain ⟨-, -, r12, -⟩ := tk_facts htk.1
      have hrn := htk.2
      have hs5 := sm_at5 HSS.out j1
      obtain ⟨⟨t0', t1'⟩, ⟨p0, p1⟩, y0, y1⟩ := HLD.out k hlt
      have HS : Hid (ldF D (k + 1) = ldF D k + quo (1000 * (jobK D k).t) (D.ts.getD k t0).p) := Lib.hid rfl
      have HJC := Lib.hid (fun X => l09Job_any _ j2 X)
      have HJK : Hid (jobS ((costsL D.rs).getD (D.ts.getD k t0).r.toNat sm0) = jobK D k) := Lib.hid rfl
      rw [HJK.out] at HJC
      have HQE : Hid (quo (1000 * (jobK D k).t) (D.ts.getD k t0).p = (1000 * (jobK D k).t + (D.ts.getD k t0).p - 1) / (D.ts.getD k t0).p) := Lib.hid rfl
      obtain ⟨qq, hqq⟩ : ∃ qq, quo (1000 * (jobK D k).t) (D.ts.getD k t0).p = qq := ⟨_, rfl⟩
      rw [hqq] at HS y0 y1 HQE
      have hwr : w.heap.size < wr.heap.size := Nat.lt_of_lt_of_le (Array.getElem?_eq_some_iff.1 HX2.out.box).1 hb.out.size
      have htbr : tb < wr.heap.size := Nat.lt_of_lt_of_le htb HXr.out.size
      have hbs : w2.heap.size ≤ wr.heap.size := hb.out.size
      generalize jobK D k = q at *
      generalize D.ts.getD k t0 = z at *
      obtain ⟨zk, zp, zd, zi, zq, zr⟩ := z
      dsimp only at r12 hrn hs5 j1 d0 d1 d2 d3 d4 d5 HJC HJK HS HQE p0 p1
      obtain ⟨r, rfl⟩ : ∃ r : Nat, zr = r := ⟨zr.toNat, by omega⟩
      rw [Int.toNat_natCast] at hs5 HJC HJK
      generalize (costsL D.rs).getD r sm0 = s at *
      obtain ⟨u0, u1, u2, u3, u4⟩ := hs5
      have x0 := (hb.out.cell (p := ⟨sb, so + r * 5, none⟩) hsb).trans u0
      have x1 := (hb.out.cell (p := ⟨sb, so + r * 5 + 1, none⟩) hsb).trans u1
      have x2 := (hb.out.cell (p := ⟨sb, so + r * 5 + 2, none⟩) hsb).trans u2
      have x3 := (hb.out.cell (p := ⟨sb, so + r * 5 + 3, none⟩) hsb).trans u3
      have x4 := (hb.out.cell (p := ⟨sb, so + r * 5 + 4, none⟩) hsb).trans u4
      have HNB := Lib.hid (dbox wr (tO ⟨zk, zp, zd, zi, zq, (r : Int)⟩ 77))
      have HNC := Lib.hid (heap_alloc_new wr (tO ⟨zk, zp, zd, zi, zq, (r : Int)⟩ 77))
      have hsbr : sb < wr.heap.size := Nat.lt_of_lt_of_le hsb hbs
      clear u0 u1 u2 u3 u4 htk j1 j2 HJK hqq
      go_wp2_with fail
      have s0 := (HNB.out.cell (p := ⟨sb, so + r * 5, none⟩) hsbr).trans x0
      have s1 := (HNB.out.cell (p := ⟨sb, so + r * 5 + 1, none⟩) hsbr).trans x1
      have s2 := (HNB.out.cell (p := ⟨sb, so + r * 5 + 2, none⟩) hsbr).trans x2
      have s3 := (HNB.out.cell (p := ⟨sb, so + r * 5 + 3, none⟩) hsbr).trans x3
      have s4 := (HNB.out.cell (p := ⟨sb, so + r * 5 + 4, none⟩) hsbr).trans x4
      have hgw : wr.heap.size < (wr.alloc (tO ⟨zk, zp, zd, zi, zq, (r : Int)⟩ 77)).heap.size := by simp
      have hsb3 : sb < (wr.alloc (tO ⟨zk, zp, zd, zi, zq, (r : Int)⟩ 77)).heap.size := by simp; omega
      have hwg := hsbr
      clear d0 d1 d2 d3 d4 d5 x0 x1 x2 x3 x4 q2
      generalize hG : wr.heap.size = gw at *
      generalize wr.alloc (tO ⟨zk, zp, zd, zi, zq, (r : Int)⟩ 77) = w3 at *
      have HGW := Lib.hid hG
      clear hG
      have t0 := cell_of_row _ gw 0 _ _ _ HNC.out
      have t1 := cell_of_row _ gw 1 _ _ _ HNC.out
      have t2 := cell_of_row _ gw 2 _ _ _ HNC.out
      have t3 := cell_of_row _ gw 3 _ _ _ HNC.out
      have t4 := cell_of_row _ gw 4 _ _ _ HNC.out
      have t5 := cell_of_row _ gw 5 _ _ _ HNC.out
      have v1 := IntWalk.i64_in (1000 * q.t) (by omega)
      have v2 := IntWalk.i64_in (1000 * q.t + zp) (by omega)
      have v3 := IntWalk.i64_in (1000 * q.t + zp - 1) (by omega)
      have v4 := IntWalk.i64_in qq (by omega)
      have v5 := IntWalk.i64_in (acc + qq) (by omega)
      have v6 : (1000 * q.t + zp - 1).tdiv zp = qq := by rw [Int.tdiv_eq_ediv_of_nonneg (by omega)]; exact HQE.out.symm
      have v7 : (zp == 0) = false := beq_eq_false_iff_ne.2 (by omega)
      have v8 : ¬ zp = 0 := by omega
      have hfd : ∀ w, (Instr.field 81 (smV q) 0).run Tryz.prog w = .ok (.int .i64 q.t) w := fun _ => by kernel_rfl
      have lk : (r : Int) < (D.n1 : Int) := hrn
      have HSW : Hid (Below w3.heap.size w3 w3.drew) := Lib.hid (Below.refl _ _).drew
      refine wp_region_hl 17 (fun X => Below w3.heap.size w3 X) (by kernel_rfl) rfl rfl (by kernel_rfl) ?_
      refine hl_take (v := ?v0) 0 rfl (by kernel_rfl) (fun _ _ _ h => h) (Or.inl ⟨by rfl, ?hy0⟩) HSW.out ?rest0
      case hy0 =>
        intro X hSw
        go_simp <;> with_reducible rfl
      try simp only [Act.put, List.setIfInBounds_toArray, List.set_cons_zero, List.set_cons_succ]
      refine hl_take (v := ?v1) 1 rfl (by kernel_rfl) (fun _ _ _ h => h) (Or.inl ⟨by rfl, ?hy1⟩) HSW.out ?rest1
      case hy1 =>
        intro X hSw
        go_simp <;> with_reducible rfl
      try simp only [Act.put, List.setIfInBounds_toArray, List.set_cons_zero, List.set_cons_succ]
      refine hl_take (v := ?v2) 2 rfl (by kernel_rfl) (fun _ _ _ h => h) (Or.inl ⟨by rfl, ?hy2⟩) HSW.out ?rest2
      case hy2 =>
        intro X hSw
        go_simp <;> with_reducible rfl
      try simp only [Act.put, List.setIfInBounds_toArray, List.set_cons_zero, List.set_cons_succ]
      refine hl_take (v := ?v3) 3 rfl (by kernel_rfl) (fun _ _ _ h => h) (Or.inl ⟨by rfl, ?hy3⟩) HSW.out ?rest3
      case hy3 =>
        intro X hSw
        have y0 := (hSw.cell (p := ⟨gw, 0, none⟩) hgw).trans t0
        have y1 := (hSw.cell (p := ⟨gw, 1, none⟩) hgw).trans t1
        have y2 := (hSw.cell (p := ⟨gw, 2, none⟩) hgw).trans t2
        have y3 := (hSw.cell (p := ⟨gw, 3, none⟩) hgw).trans t3
        have y4 := (hSw.cell (p := ⟨gw, 4, none⟩) hgw).trans t4
        have y5 := (hSw.cell (p := ⟨gw, 5, none⟩) hgw).trans t5
        go_simp <;> with_reducible rfl
      try simp only [Act.put, List.setIfInBounds_toArray, List.set_cons_zero, List.set_cons_succ]
      refine hl_take (v := ?v4) 4 rfl (by kernel_rfl) (fun _ _ _ h => h) (Or.inl ⟨by rfl, ?hy4⟩) HSW.out ?rest4
      case hy4 =>
        intro X hSw
        go_simp <;> with_reducible rfl
      try simp only [Act.put, List.setIfInBounds_toArray, List.set_cons_zero, List.set_cons_succ]
      refine hl_take (v := ?v5) 5 rfl (by kernel_rfl) (fun _ _ _ h => h) (Or.inl ⟨by rfl, ?hy5⟩) HSW.out ?rest5
      case hy5 =>
        intro X hSw
        have y0 := (hSw.cell (p := ⟨sb, so + r * 5, none⟩) hsb3).trans s0
        have y1 := (hSw.cell (p := ⟨sb, so + r * 5 + 1, none⟩) hsb3).trans s1
        have y2 := (hSw.cell (p := ⟨sb, so + r * 5 + 2, none⟩) hsb3).trans s2
        have y3 := (hSw.cell (p := ⟨sb, so + r * 5 + 3, none⟩) hsb3).trans s3
        have y4 := (hSw.cell (p := ⟨sb, so + r * 5 + 4, none⟩) hsb3).trans s4
        go_simp <;> with_reducible rfl
      try simp only [Act.put, List.setIfInBounds_toArray, List.set_cons_zero, List.set_cons_succ]
      refine hl_take (v := ?v9) 9 rfl (by kernel_rfl) (fun _ _ _ h => h) (Or.inl ⟨by rfl, ?hy9⟩) HSW.out ?rest9
      case hy9 =>
        intro X hSw
        go_simp <;> with_reducible rfl
      try simp only [Act.put, List.setIfInBounds_toArray, List.set_cons_zero, List.set_cons_succ]
      refine hl_take (v := ?v10) 10 rfl (by kernel_rfl) (fun _ _ _ h => h) (Or.inl ⟨by rfl, ?hy10⟩) HSW.out ?rest10
      case hy10 =>
        intro X hSw
        have y0 := (hSw.cell (p := ⟨gw, 0, none⟩) hgw).trans t0
        have y1 := (hSw.cell (p := ⟨gw, 1, none⟩) hgw).trans t1
        have y2 := (hSw.cell (p := ⟨gw, 2, none⟩) hgw).trans t2
        have y3 := (hSw.cell (p := ⟨gw, 3, none⟩) hgw).trans t3
        have y4 := (hSw.cell (p := ⟨gw, 4, none⟩) hgw).trans t4
        have y5 := (hSw.cell (p := ⟨gw, 5, none⟩) hgw).trans t5
        go_simp <;> with_reducible rfl
      try simp only [Act.put, List.setIfInBounds_toArray, List.set_cons_zero, List.set_cons_succ]
      refine hl_take (v := ?v13) 13 rfl (by kernel_rfl) (fun _ _ _ h => h) (Or.inl ⟨by rfl, ?hy13⟩) HSW.out ?rest13
      case hy13 =>
        intro X hSw
        go_simp <;> with_reducible rfl
      try simp only [Act.put, List.setIfInBounds_toArray, List.set_cons_zero, List.set_cons_succ]
      refine hl_take (v := ?v14) 14 rfl (by kernel_rfl) (fun _ _ _ h => h) (Or.inl ⟨by rfl, ?hy14⟩) HSW.out ?rest14
      case hy14 =>
        intro X hSw
        have y0 := (hSw.cell (p := ⟨gw, 0, none⟩) hgw).trans t0
        have y1 := (hSw.cell (p := ⟨gw, 1, none⟩) hgw).trans t1
        have y2 := (hSw.cell (p := ⟨gw, 2, none⟩) hgw).trans t2
        have y3 := (hSw.cell (p := ⟨gw, 3, none⟩) hgw).trans t3
        have y4 := (hSw.cell (p := ⟨gw, 4, none⟩) hgw).trans t4
        have y5 := (hSw.cell (p := ⟨gw, 5, none⟩) hgw).trans t5
        go_simp <;> with_reducible rfl
      try simp only [Act.put, List.setIfInBounds_toArray, List.set_cons_zero, List.set_cons_succ]
      refine hl_one 6 rfl (by kernel_rfl) (fun K hK => ?_)
      go_simp
      refine Calls.mono (HJC.out _) ?_
      rintro e w5 ⟨rfl, hb5⟩
      have HS6 := Lib.hid (HSW.out.trans (hb5.mono HSW.out.size))
      refine hK.out _ _ HS6.out ?_
      clear hK hb5
      try simp only [Act.put, List.setIfInBounds_toArray, List.set_cons_zero, List.set_cons_succ]
      refine hl_take (v := ?v7) 7 rfl (by kernel_rfl) (fun _ _ _ h => h) (Or.inl ⟨by rfl, ?hy7⟩) HS6.out ?rest7
      case hy7 =>
        intro X hSw
        go_simp <;> with_reducible rfl
      try simp only [Act.put, List.setIfInBounds_toArray, List.set_cons_zero, List.set_cons_succ]
      refine hl_take (v := ?v8) 8 rfl (by kernel_rfl) (fun _ _ _ h => h) (Or.inl ⟨by rfl, ?hy8⟩) HS6.out ?rest8
      case hy8 =>
        intro X hSw
        go_simp <;> with_reducible rfl
      try simp only [Act.put, List.setIfInBounds_toArray, List.set_cons_zero, List.set_cons_succ]
      refine hl_take (v := ?v11) 11 rfl (by kernel_rfl) (fun _ _ _ h => h) (Or.inl ⟨by rfl, ?hy11⟩) HS6.out ?rest11
      case hy11 =>
        intro X hSw
        go_simp <;> with_reducible rfl
      try simp only [Act.put, List.setIfInBounds_toArray, List.set_cons_zero, List.set_cons_succ]
      refine hl_take (v := ?v12) 12 rfl (by kernel_rfl) (fun _ _ _ h => h) (Or.inl ⟨by rfl, ?hy12⟩) HS6.out ?rest12
      case hy12 =>
        intro X hSw
        go_simp <;> with_reducible rfl
      try simp only [Act.put, List.setIfInBounds_toArray, List.set_cons_zero, List.set_cons_succ]
      refine hl_take (v := ?v15) 15 rfl (by kernel_rfl) (fun _ _ _ h => h) (Or.inl ⟨by rfl, ?hy15⟩) HS6.out ?rest15
      case hy15 =>
        intro X hSw
        go_simp <;> with_reducible rfl
      try simp only [Act.put, List.setIfInBounds_toArray, List.set_cons_zero, List.set_cons_succ]
      refine hl_take (v := ?v16) 16 rfl (by kernel_rfl) (fun _ _ _ h => h) (Or.inl ⟨by rfl, ?hy16⟩) HS6.out ?rest16
      case hy16 =>
        intro X hSw
        go_simp <;> with_reducible rfl
      try simp only [Act.put, List.setIfInBounds_toArray, List.set_cons_zero, List.set_cons_succ]
      refine hl_done (by kernel_rfl) ?_
      go_simp
      clear v1 v2 v3 v4 v5 v6 v7 v8 hfd
      go_wp2
      go_roundw
      case rel => exact ⟨k + 1, acc + qq, by omega, by go_num, rfl, by omega, by omega, Lib.hid (by rw [HS.out, ← hl.out]), Lib.hid ((hb.out.trans (HNB.out.mono hbs)).trans (HS6.out.mono (by have := HNB.out.size; omega)))⟩
      case measure => simp [intOf]; omega
    · obtain rfl : k = D.n2 := by omega
      have HE := Lib.hid hl.out
      go_wp2
      rw [HE.out]
      exact HP.out _ HXr.out
end Go.Proofs.YtppgknjpbfopjaaGreatDoor
