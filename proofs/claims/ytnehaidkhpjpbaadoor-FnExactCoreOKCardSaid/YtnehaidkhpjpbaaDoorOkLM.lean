/- What a walk of accepted code has open; routines' rows with their capacities. -/
import Derived.Test.YtnehaidkhpjpbaaDoorOkM
import Derived.Test.YtnehaidkhpjpbaaDoorRtM
import Derived.Test.YtnehaidkhpjpbaaDoorHeld
import Derived.Test.YtnehaidkhpjpbaaDoorCor3
namespace Go.Proofs.YtnehaidkhpjpbaaDoor
open Go.ChangeShapes Go.WideShapes Go.ChangeAt Go.RowKit Go.PlainAid
set_option linter.unusedVariables false
theorem vRun_pre {ks : List Int} {r : Int} : ∀ (code : List Ins) (i : Nat) (w : VW), w.pre → (vRun ks r code i w).2.1 = 0 → (vRun ks r code i w).1.pre
  | [], _, _, hw, _ => hw
  | x :: t, i, w, hw, h => by
    rw [vRun] at h ⊢
    by_cases hs : (vStep ks r x i w).2 = 0
    · rw [if_pos hs] at h ⊢
      exact vRun_pre t (i + 1) _ (pre_step hw hs) h
    · rw [if_neg hs] at h
      exact absurd h hs
theorem opn_facts {zs : List Ins} {ks : List Int} {r : Int} (hok : okAll zs = true) (h : (vVer zs ks r).2 = 0) {n : Nat} (hn : n ≤ zs.length) :
    (vAt zs ks r n).opn.length ≤ 4 ∧ (∀ j, j < (vAt zs ks r n).opn.length → ∃ q : Nat, ((vAt zs ks r n).opn.getD j vo0).pos = (q : Int) ∧ q < zs.length) ∧ loopsO zs (vAt zs ks r n).opn = loopsL zs n := by
  have hv := okAll_vAll hok
  have hi := oinv hv h n hn
  refine ⟨?_, fun j hj => ?_, loops_eq hi⟩
  · unfold vAt
    exact (vRun_pre _ _ _ pre_start (vRun_prefix (vVer_ok h).1 n)).o4
  · have e : (vAt zs ks r n).opn.getD j vo0 = (vAt zs ks r n).opn[j] := by simp [List.getD, hj]
    have hr : (vAt zs ks r n).opn.reverse[(vAt zs ks r n).opn.length - 1 - j]? = some (vAt zs ks r n).opn[j] := by
      rw [List.getElem?_reverse (by omega)]
      rw [show (vAt zs ks r n).opn.length - 1 - ((vAt zs ks r n).opn.length - 1 - j) = j by omega]
      exact List.getElem?_eq_getElem hj
    obtain ⟨q, h1, h2, _⟩ := hi.each _ _ hr
    exact ⟨q, by rw [e]; exact h1, by omega⟩
theorem own_cnt {w : World} {B m c : Nat} {e : TypeId} {op : Option Addr} {os : List VO} (h : w.ownsRow B e 3 (.slice op m c) m (flat soC (os.map so))) : m = os.length := by
  have := h.1
  rw [flat_len soC_len, List.length_map] at this
  omega
/-- Rows of routines, each as long as its room at most. -/
structure RoutC (w : World) (a : Option Addr) (ls : List (List Ins)) : Prop where
  rows : ∃ rs : List RT, rs.length = ls.length ∧ Lies w a (flat rtC rs) ∧ ∀ j, j < ls.length → (rs.getD j (none, 0, 0)).2.1 = (ls.getD j []).length ∧ Lies w (rs.getD j (none, 0, 0)).1 (flat insC (ls.getD j [])) ∧ (ls.getD j []).length ≤ (rs.getD j (none, 0, 0)).2.2
theorem RoutC.below {w w' : World} {a : Option Addr} {ls : List (List Ins)} (h : RoutC w a ls) (hb : Below w.heap.size w w') : RoutC w' a ls := by
  obtain ⟨rs, h1, h2, h3⟩ := h.rows
  exact ⟨rs, h1, h2.below hb (Nat.le_refl _), fun j hj => ⟨(h3 j hj).1, (h3 j hj).2.1.below hb (Nat.le_refl _), (h3 j hj).2.2⟩⟩
theorem RoutC.routs {w : World} {a : Option Addr} {ls : List (List Ins)} (h : RoutC w a ls) : Routs w a ls := by
  obtain ⟨rs, h1, h2, h3⟩ := h.rows
  exact ⟨rs, h1, h2, fun j hj => ⟨(h3 j hj).1, (h3 j hj).2.1⟩⟩
theorem RoutC.at {w : World} {a : Option Addr} {ls : List (List Ins)} (h : RoutC w a ls) {j : Nat} (hj : j < ls.length) : ∃ b o x c, a = some ⟨b, o, none⟩ ∧ b < w.heap.size ∧ w.cell? ⟨b, o + j, none⟩ = some (.slice x (ls.getD j []).length c) ∧ Lies w x (flat insC (ls.getD j [])) ∧ (ls.getD j []).length ≤ c := by
  obtain ⟨rs, h1, h2, h3⟩ := h.rows
  obtain ⟨b, o, rfl, hb, hc⟩ := h2.open (by rw [flat_len rtC_len]; omega)
  have hx : rs[j]? = some (rs.getD j (none, 0, 0)) := by simp [List.getD, h1, hj]
  have h0 := flat_at rtC_len hx (j := 0) (by omega)
  rw [Nat.mul_one, Nat.add_zero] at h0
  have hcell := hc j _ h0
  obtain ⟨e1, e2, e3⟩ := h3 j hj
  rw [← e1]
  exact ⟨b, o, _, _, rfl, hb, hcell, e2, by rw [e1]; exact e3⟩
end Go.Proofs.YtnehaidkhpjpbaaDoor
namespace Go.Proofs.YtnehaidkhpjpbaaDoor
open Go.ChangeShapes Go.WideShapes Go.ChangeAt Go.RowKit Go.PlainAid
set_option linter.unusedVariables false
theorem frB_plc {ls : List (List Ins)} {fs : List FM} {j : Nat} (h : plB ls (fs.getD j fm0).1 (fs.getD j fm0).2.1 (nxt fs j) = false) : frB ls fs j = false := by unfold frB; rw [h]; rfl
theorem plc_yes {ls : List (List Ins)} {fs : List FM} {j : Nat} (h : plB ls (fs.getD j fm0).1 (fs.getD j fm0).2.1 (nxt fs j) = true) : ∃ q p' : Nat, (fs.getD j fm0).1 = q ∧ (fs.getD j fm0).2.1 = p' ∧ q < ls.length ∧ p' ≤ (ls.getD q []).length ∧ frB ls fs j = cGo (fs.getD j fm0).2.2 (loopsL (ls.getD q []) p') := by
  have hp := plB_rng h
  unfold codeLen at hp
  have e1 : (fs.getD j fm0).1 = (((fs.getD j fm0).1.toNat : Nat) : Int) := by omega
  have e2 : (fs.getD j fm0).2.1 = (((fs.getD j fm0).2.1.toNat : Nat) : Int) := by omega
  refine ⟨(fs.getD j fm0).1.toNat, (fs.getD j fm0).2.1.toNat, e1, e2, by omega, by omega, ?_⟩
  unfold frB
  rw [h, Bool.true_and]
theorem nxt_none {fs : List FM} {j : Nat} (hj : j < fs.length) (h : nxt fs j = none) : fs.length - j = 1 := by
  unfold nxt at h
  split at h
  · cases h
  · omega
theorem nxt_some {fs : List FM} {j : Nat} {s : Int} (h : nxt fs j = some s) : j + 1 < fs.length ∧ (fs.getD (j + 1) fm0).1 = s := by
  unfold nxt at h
  split at h
  · rename_i h1; exact ⟨h1, by injection h⟩
  · cases h
set_option maxRecDepth 100000 in
set_option maxHeartbeats 2000000 in
theorem coreOK_any (ls : List (List Ins)) (b : Option Addr) (bc : Nat) (ks : List Int) (k : Option Addr) (kc : Nat) (h : CH) (C : Cor) (acc : (allF ls ks).2.2 = 0) (hcap : C.fr.length ≤ h.c0) (hk : ks.length ≤ maxLen) (hcl : C.le maxLen) (w : World) (ht : VTabs w) (hz : RoutC w b ls) (hy : Lies w k (kC ks)) (hc : CLies w h C) :
    Calls Tryd.prog 88 #[.slice b ls.length bc, .slice k ks.length kc, cV h C] w fun e w' => e = .returned (.bool (corB ls ks C)) ∧ Below w.heap.size w w' := by
  obtain ⟨ha0, ha1, hc0, hc1⟩ := h
  obtain ⟨fs, st⟩ := C
  have hln := hcl.h2
  have hst := hcl.h1
  simp only at hln hst hcap
  have HN6 := Lib.hid (@corB_many ls ks ⟨fs, st⟩)
  have HNF := Lib.hid (fun j => @corB_frame ls ks ⟨fs, st⟩ j)
  have HNS := Lib.hid (@corB_size ls ks ⟨fs, st⟩)
  have HNR := Lib.hid (@corB_rest ls ks ⟨fs, st⟩)
  simp only at HN6 HNF HNS HNR
  change Calls Tryd.prog 88 #[.slice b ls.length bc, .slice k ks.length kc, .agg #[.slice ha0 fs.length hc0, .slice ha1 st.length hc1]] w _
  have HB := Lib.hid (Bx.start w (.cells #[.slice ha0 fs.length hc0, .slice ha1 st.length hc1] 62))
  generalize corB ls ks ⟨fs, st⟩ = R at *
  obtain ⟨hm, _, ha⟩ := all_acc acc
  by_cases h6 : fs.length ≤ 6
  case neg =>
    have HF : Hid (R = false) := Lib.hid (HN6.out h6)
    have h6i : (6 : Int) < (fs.length : Int) := by omega
    clear hz hy hc ha HN6 HNF HNS HNR hln hcl acc
    generalize fs.length = n at *
    generalize ls.length = u at *
    generalize ks.length = kn at *
    generalize st.length = sn at *
    go_enter Tryd.func88, Tryd.ntmps88
    go_wp2
    go_ret
    exact ⟨rb_eq HF.out.symm, HB.out.bel⟩
  have HIP := Lib.hid (fun g o m c r p x l xc nx hn hn1 hn2 X hz hf hs => inPlace_any ls b bc g o m c r p x l xc nx hm (fun j hj => (ha j hj).1) hn hn1 hn2 X hz hf hs)
  have HWK : Hid (∀ q, q < ls.length → ∀ x c p', (ls.getD q []).length ≤ c → p' ≤ (ls.getD q []).length → ∀ X, Below w.heap.size w X → Lies X x (flat insC (ls.getD q [])) →
      Calls Tryd.prog 66 #[.slice x (ls.getD q []).length c, .slice k ks.length kc, .int .i64 (q : Int), .int .i64 (p' : Int)] X fun e w' => ∃ (st : Option Addr) (n c1 : Nat) (op : Option Addr) (c2 : Nat), e = .returned (.agg #[.slice k ks.length kc, .int .i64 (q : Int), .int .i64 (p' : Int), .slice st n c1, .slice op (vAt (ls.getD q []) ks q p').opn.length c2]) ∧ w'.ownsRow X.heap.size 5 1 (.slice st n c1) n (u8s (vStack (ls.getD q []) ks q p')) ∧ Lies w' op (flat soC ((vAt (ls.getD q []) ks q p').opn.map so)) ∧ Below X.heap.size X w') :=
    Lib.hid (fun q hq x c p' hc hp X hX hz => (walkTo_any (ls.getD q []) x c ks k kc q p' (ha q hq).2.2.2 hp hc X (ht.below hX (Nat.le_refl _)) hz (hy.below hX (Nat.le_refl _))).mono fun e w' ⟨st, n, c1, op, m, c2, e1, e2, e3, e4⟩ => ⟨st, n, c1, op, c2, by rw [e1, own_cnt e3]; rfl, e2, lies_own e3, e4⟩)
  have HCN : Hid (∀ q, q < ls.length → ∀ p', p' ≤ (ls.getD q []).length → ∀ (l : List Int) (x y d : Option Addr) (xc yc dc : Nat), l.length ≤ maxLen → ∀ X, Lies X x (kC l) → Lies X y (flat insC (ls.getD q [])) → Lies X d (flat soC ((vAt (ls.getD q []) ks q p').opn.map so)) →
      Calls Tryd.prog 120 #[.slice x l.length xc, .slice y (ls.getD q []).length yc, .slice d (vAt (ls.getD q []) ks q p').opn.length dc] X fun e w' => e = .returned (.bool (cGo l (loopsL (ls.getD q []) p'))) ∧ Below X.heap.size X w') :=
    Lib.hid (fun q hq p' hp l x y d xc yc dc hl X h1 h2 h3 => by
      obtain ⟨g1, g2, g3⟩ := opn_facts (ha q hq).2.1 (ha q hq).2.2.1 hp
      rw [← g3]
      exact countersOK_any l (ls.getD q []) _ x y d xc yc dc hl (ha q hq).1 g1 g2 X h1 h2 h3)
  have HST : Hid (∀ q, q < ls.length → ∀ p', p' ≤ (ls.getD q []).length → (stackF (ls.getD q []) ks q (p' : Int)).1 = bs (vStack (ls.getD q []) ks q p')) := Lib.hid (fun q hq p' hp => by
    unfold stackF
    rw [if_neg (fun e => e (ha q hq).2.2.2), if_neg (by omega), Int.toNat_natCast])
  have HSZ := Lib.hid (acc_stack acc)
  have HMT := Lib.hid (fun T hT X hz => matches_any T st ha1 hc1 hst hT X hz)
  have HTS := Lib.hid (fun j => typB_size (ls := ls) (ks := ks) (fs := fs) (n := j))
  have HTE := Lib.hid (fun j q => @typB_step ls ks fs j q)
  have HT0 : Hid ((⟨#[]⟩ : ByteArray) = typB ls ks fs 0) := Lib.hid rfl
  have HA := Lib.hid (fun w (h : RoutC w b ls) j (hj : j < ls.length) => h.at hj)
  have HZ := Lib.hid hz
  have HC := Lib.hid hc
  have HF := Lib.hid (fun j (hj : j < fs.length) => hc.fr.at hj)
  have HS := Lib.hid hc.st
  have HL := Lib.hid (fun j hj => (ha j hj).1)
  have HLN := Lib.hid hln
  have HPF := Lib.hid (fun j => @frB_plc ls fs j)
  have HPY := Lib.hid (fun j => @plc_yes ls fs j)
  have HN1 := Lib.hid (fun j => @nxt_none fs j)
  have HN2 := Lib.hid (fun j s => @nxt_some fs j s)
  have HRG := Lib.hid (fun j => @frB_rng ls fs j)
  clear hz hy hc ha hln hcl HN6 hk acc ht
  simp only at HF HS
  generalize hM : fs.length = n at *
  have HM := Lib.hid hM
  generalize hU : ls.length = u at *
  have HU := Lib.hid hU
  clear hM hU
  generalize ks.length = kn at *
  generalize hsn : st.length = sn at *
  have HSN := Lib.hid hsn
  clear hsn
  go_enter Tryd.func88, Tryd.ntmps88
  go_wp2
  go_loopw [7, 19] (fun t i wr => ∃ j : Nat, j ≤ n ∧ i = .int .i64 j ∧ t = .string (typB ls ks fs j) ∧ Hid (∀ m, m < j → frB ls fs m = true) ∧ Hid (Bx w (.cells #[.slice ha0 n hc0, .slice ha1 sn hc1] 62) wr)) (fun _ i _ => n - (intOf i).toNat)
  case atStart => exact ⟨0, Nat.zero_le _, rfl, by rw [HT0.out], Lib.hid (by intro m hm; omega), HB⟩
  case round =>
    obtain ⟨j, hj, rfl, rfl, hr, hb⟩ := hrel
    have b0 := cell_of_row _ w.heap.size 0 _ _ _ hb.out.box
    have b1 := cell_of_row _ w.heap.size 1 _ _ _ hb.out.box
    by_cases hlt : j < n
    · have hlti : (j : Int) < (n : Int) := by omega
      have hjc : j ≤ hc0 := by omega
      obtain ⟨y2, o2, x2, z2, rfl, hb2, f0, f1, f2, hx2⟩ := HF.out j hlt
      have d0 := (hb.out.bel.cell (p := ⟨y2, o2 + j * 3, none⟩) hb2).trans f0
      have d1 := (hb.out.bel.cell (p := ⟨y2, o2 + j * 3 + 1, none⟩) hb2).trans f1
      have d2 := (hb.out.bel.cell (p := ⟨y2, o2 + j * 3 + 2, none⟩) hb2).trans f2
      have HBX := Lib.hid (hb.out.to (dbox wr (.cells #[.int .i64 (fs.getD j fm0).1, .int .i64 (fs.getD j fm0).2.1, .slice x2 (fs.getD j fm0).2.2.length z2] 149)))
      have HNX : Hid (∀ s, nxt fs j = some s → w.cell? ⟨y2, o2 + j * 3 + 3, none⟩ = some (.int .i64 s) ∧ y2 < w.heap.size) := Lib.hid (fun s e => by
        obtain ⟨h1, h2⟩ := HN2.out j s e
        obtain ⟨y6, o6, _, _, e6, hb6, g6, _⟩ := HF.out (j + 1) h1
        cases e6
        exact ⟨by rw [← h2, show o2 + j * 3 + 3 = o2 + (j + 1) * 3 by omega]; exact g6, hb6⟩)
      have HIJ := Lib.hid (fun c => HIP.out y2 (o2 + j * 3) (n - j) c (fs.getD j fm0).1 (fs.getD j fm0).2.1 x2 (fs.getD j fm0).2.2.length z2 (nxt fs j) (by omega) (fun e => HN1.out j hlt e) (fun s e => by have := (HN2.out j s e).1; omega) _ (HZ.out.routs.below HBX.out.bel)
        ⟨(HBX.out.bel.cell (p := ⟨y2, o2 + j * 3, none⟩) hb2).trans f0, (HBX.out.bel.cell (p := ⟨y2, o2 + j * 3 + 1, none⟩) hb2).trans f1, (HBX.out.bel.cell (p := ⟨y2, o2 + j * 3 + 2, none⟩) hb2).trans f2⟩ (fun s e => (HBX.out.bel.cell (p := ⟨y2, o2 + j * 3 + 3, none⟩) (HNX.out s e).2).trans (HNX.out s e).1))
      have HX2 := Lib.hid hx2
      have hvl := HLN.out j hlt
      cases hpl : plB ls (fs.getD j fm0).1 (fs.getD j fm0).2.1 (nxt fs j) with
      | false =>
        have HE : Hid (R = false) := Lib.hid (HNF.out j hlt (HPF.out j hpl))
        rw [hpl] at HIJ
        have c0 := cell_of_row _ w.heap.size 0 _ _ _ HBX.out.box
        clear hpl f0 f1 f2 hx2 HNX
        generalize (fs.getD j fm0).1 = r at *
        generalize (fs.getD j fm0).2.1 = p at *
        generalize (fs.getD j fm0).2.2.length = v2 at *
        go_wp2_with fail
        refine Calls.mono (HIJ.out _) ?_
        rintro e w3 ⟨rfl, hb3⟩
        have HX3 := Lib.hid (HBX.out.to hb3)
        clear hb3
        go_wp2
        go_ret
        exact ⟨rb_eq HE.out.symm, HX3.out.bel⟩
      | true =>
        obtain ⟨q, p', er, ep, hq, hpl2, hcg⟩ := HPY.out j hpl
        have hqi : (q : Int) < (u : Int) := by omega
        obtain ⟨y3, o3, x3, z3, rfl, hb4, c3, hz3, hcap3⟩ := HA.out w HZ.out q hq
        have HTJ := Lib.hid (HTE.out j q er)
        have HSJ := Lib.hid (HST.out q hq p' hpl2)
        have hs8 := HSZ.out q hq p'
        rw [HSJ.out] at hs8
        have hts := HTS.out j (fun m hm => by obtain ⟨q', e, hq'⟩ := HRG.out m (hr.out m hm); rw [e, Int.toNat_natCast]; exact HSZ.out q' hq' _) j (Nat.le_refl _)
        rw [ep] at HTJ
        rw [HSJ.out] at HTJ
        have HWJ := Lib.hid (fun X h1 h2 => HWK.out q hq x3 z3 p' hcap3 hpl2 X h1 h2)
        have HCJ := Lib.hid (fun xc yc dc d X h1 h2 h3 => HCN.out q hq p' hpl2 (fs.getD j fm0).2.2 x2 x3 d xc yc dc hvl X h1 h2 h3)
        have HZ3 := Lib.hid hz3
        have HC3 := Lib.hid c3
        have hlq := HL.out q hq
        have HCG := Lib.hid hcg
        rw [hpl] at HIJ
        have c0 := cell_of_row _ w.heap.size 0 _ _ _ HBX.out.box
        have KB := Lib.hid (heap_alloc_new wr (.cells #[.int .i64 (fs.getD j fm0).1, .int .i64 (fs.getD j fm0).2.1, .slice x2 (fs.getD j fm0).2.2.length z2] 149))
        clear hpl f0 f1 f2 hx2 HNX hz3 c3 hcg
        generalize (fs.getD j fm0).1 = r at *
        generalize (fs.getD j fm0).2.1 = p at *
        subst er ep
        generalize (fs.getD j fm0).2.2 = l at *
        generalize ls.getD q [] = zs at *
        generalize (vAt zs ks q p').opn = os at *
        generalize vStack zs ks q p' = ST at *
        cases hcgv : cGo l (loopsL zs p') with
        | false =>
          have HE : Hid (R = false) := Lib.hid (HNF.out j hlt (HCG.out.trans hcgv))
          rw [hcgv] at HCJ
          clear hcgv HCG
          generalize l.length = v2 at *
          generalize zs.length = m at *
          generalize hol : os.length = ol at *
          go_wp2_with fail
          refine Calls.mono (HIJ.out _) ?_
          rintro e w3 ⟨rfl, hb3⟩
          have HX3 := Lib.hid (HBX.out.to hb3)
          have KB3 := Lib.hid (blk_bel KB.out hb3)
          clear hb3 b0 b1 d0 d1 d2 c0 HIJ KB HBX
          have b0 := cell_of_row _ w.heap.size 0 _ _ _ HX3.out.box
          have b1 := cell_of_row _ w.heap.size 1 _ _ _ HX3.out.box
          have g0 := cell_of_row _ wr.heap.size 0 _ _ _ KB3.out
          have g1 := cell_of_row _ wr.heap.size 1 _ _ _ KB3.out
          have g2 := cell_of_row _ wr.heap.size 2 _ _ _ KB3.out
          have d3 := (HX3.out.bel.cell (p := ⟨y3, o3 + q, none⟩) hb4).trans HC3.out
          go_wp2_with fail
          refine Calls.mono (HWJ.out _ HX3.out.bel (HZ3.out.below HX3.out.bel (Nat.le_refl _))) ?_
          rintro e w4 ⟨st', n4, c4, op, c5, rfl, ho, hop, hb4'⟩
          have hd := dbox w4 (.cells #[.slice k kn kc, .int .i64 (q : Int), .int .i64 (p' : Int), .slice st' n4 c4, .slice op ol c5] 102)
          have HX5 := Lib.hid ((HX3.out.to hb4').to hd)
          have KB5 := Lib.hid (blk_bel (blk_bel KB3.out hb4') hd)
          have KW5 := Lib.hid (heap_alloc_new w4 (.cells #[.slice k kn kc, .int .i64 (q : Int), .int .i64 (p' : Int), .slice st' n4 c4, .slice op ol c5] 102))
          have HO5 := Lib.hid (own_bl ho hd)
          have HP5 := Lib.hid (hop.below hd (Nat.le_refl _))
          clear hb4' hd ho hop b0 b1 g0 g1 g2 d3 HX3 KB3
          have b0 := cell_of_row _ w.heap.size 0 _ _ _ HX5.out.box
          have b1 := cell_of_row _ w.heap.size 1 _ _ _ HX5.out.box
          have g0 := cell_of_row _ wr.heap.size 0 _ _ _ KB5.out
          have g1 := cell_of_row _ wr.heap.size 1 _ _ _ KB5.out
          have g2 := cell_of_row _ wr.heap.size 2 _ _ _ KB5.out
          have u3 := cell_of_row _ w4.heap.size 3 _ _ _ KW5.out
          have u4 := cell_of_row _ w4.heap.size 4 _ _ _ KW5.out
          go_wp2_with fail
          refine Calls.mono (HCJ.out _ _ _ _ _ (HX2.out.below HX5.out.bel (Nat.le_refl _)) (HZ3.out.below HX5.out.bel (Nat.le_refl _)) HP5.out) ?_
          rintro e w6 ⟨rfl, hb6⟩
          have HX6 := Lib.hid (HX5.out.to hb6)
          clear hb6
          go_wp2
          go_ret
          exact ⟨rb_eq HE.out.symm, HX6.out.bel⟩
        | true =>
          have HE : Hid (∀ m, m < j + 1 → frB ls fs m = true) := Lib.hid (fun m' hm' => by
            by_cases hmj : m' < j
            · exact hr.out m' hmj
            · rw [show m' = j by omega]; exact HCG.out.trans hcgv)
          rw [hcgv] at HCJ
          clear hcgv HCG
          generalize l.length = v2 at *
          generalize zs.length = m at *
          generalize hol : os.length = ol at *
          go_wp2_with fail
          refine Calls.mono (HIJ.out _) ?_
          rintro e w3 ⟨rfl, hb3⟩
          have HX3 := Lib.hid (HBX.out.to hb3)
          have KB3 := Lib.hid (blk_bel KB.out hb3)
          clear hb3 b0 b1 d0 d1 d2 c0 HIJ KB HBX
          have b0 := cell_of_row _ w.heap.size 0 _ _ _ HX3.out.box
          have b1 := cell_of_row _ w.heap.size 1 _ _ _ HX3.out.box
          have g0 := cell_of_row _ wr.heap.size 0 _ _ _ KB3.out
          have g1 := cell_of_row _ wr.heap.size 1 _ _ _ KB3.out
          have g2 := cell_of_row _ wr.heap.size 2 _ _ _ KB3.out
          have d3 := (HX3.out.bel.cell (p := ⟨y3, o3 + q, none⟩) hb4).trans HC3.out
          go_wp2_with fail
          refine Calls.mono (HWJ.out _ HX3.out.bel (HZ3.out.below HX3.out.bel (Nat.le_refl _))) ?_
          rintro e w4 ⟨st', n4, c4, op, c5, rfl, ho, hop, hb4'⟩
          have hd := dbox w4 (.cells #[.slice k kn kc, .int .i64 (q : Int), .int .i64 (p' : Int), .slice st' n4 c4, .slice op ol c5] 102)
          have HX5 := Lib.hid ((HX3.out.to hb4').to hd)
          have KB5 := Lib.hid (blk_bel (blk_bel KB3.out hb4') hd)
          have KW5 := Lib.hid (heap_alloc_new w4 (.cells #[.slice k kn kc, .int .i64 (q : Int), .int .i64 (p' : Int), .slice st' n4 c4, .slice op ol c5] 102))
          have HO5 := Lib.hid (own_bl ho hd)
          have HP5 := Lib.hid (hop.below hd (Nat.le_refl _))
          clear hb4' hd ho hop b0 b1 g0 g1 g2 d3 HX3 KB3
          have b0 := cell_of_row _ w.heap.size 0 _ _ _ HX5.out.box
          have b1 := cell_of_row _ w.heap.size 1 _ _ _ HX5.out.box
          have g0 := cell_of_row _ wr.heap.size 0 _ _ _ KB5.out
          have g1 := cell_of_row _ wr.heap.size 1 _ _ _ KB5.out
          have g2 := cell_of_row _ wr.heap.size 2 _ _ _ KB5.out
          have u3 := cell_of_row _ w4.heap.size 3 _ _ _ KW5.out
          have u4 := cell_of_row _ w4.heap.size 4 _ _ _ KW5.out
          go_wp2_with fail
          refine Calls.mono (HCJ.out _ _ _ _ _ (HX2.out.below HX5.out.bel (Nat.le_refl _)) (HZ3.out.below HX5.out.bel (Nat.le_refl _)) HP5.out) ?_
          rintro e w6 ⟨rfl, hb6⟩
          have HX6 := Lib.hid (HX5.out.to hb6)
          have KW6 := Lib.hid (blk_bel KW5.out hb6)
          have ho6 := own_bl HO5.out hb6
          clear hb6 b0 b1 g0 g1 g2 u3 u4 KB5 KW5 HO5 HP5 HX5
          have u3 := cell_of_row _ w4.heap.size 3 _ _ _ KW6.out
          have hcv := own_str 99 9 5 Tryd.underlying99 Tryd.underlying5 Tryd.underlying9 ho6
          clear ho6
          have hs8a : (⟨ST.toArray⟩ : ByteArray).size ≤ 8 := hs8
          have hs8b : ST.length ≤ 8 := hs8
          go_wp2
          exact ⟨⟨j + 1, by omega, by go_num, by rw [HTJ.out]; rfl, HE, HX6⟩, by simp [intOf]; omega⟩
    · obtain rfl : j = n := by omega
      have hT := HTS.out j (fun m hm => by obtain ⟨q', e, hq'⟩ := HRG.out m (hr.out m hm); rw [e, Int.toNat_natCast]; exact HSZ.out q' hq' _) j (Nat.le_refl _)
      have HRA := hr
      clear HTS HWK HCN HIP HA HF HPF HPY HN1 HN2 HRG HTE HST HSZ HNF hr
      generalize typB ls ks fs j = T at *
      by_cases hsz : T.size = sn
      case neg =>
        have HE := Lib.hid (HNS.out hsz)
        have gt : ((sn : Int) == (T.size : Int)) = false := by rw [beq_eq_false_iff_ne]; omega
        go_wp2
        go_ret
        exact ⟨rb_eq HE.out.symm, hb.out.bel⟩
      have HE := Lib.hid (HNR.out h6 HRA.out hsz)
      have HM2 := Lib.hid (HMT.out T hsz)
      have gt : ((sn : Int) == (T.size : Int)) = true := by rw [beq_iff_eq]; omega
      have HS2 := Lib.hid (HS.out.below hb.out.bel (Nat.le_refl _))
      clear HNS HNR HMT
      go_wp2_with fail
      refine Calls.mono (HM2.out _ HS2.out) ?_
      rintro e w3 ⟨rfl, hb3⟩
      have HX3 := Lib.hid (hb.out.to hb3)
      clear hb3
      go_wp2
      go_ret
      exact ⟨rb_eq HE.out.symm, HX3.out.bel⟩
end Go.Proofs.YtnehaidkhpjpbaaDoor
namespace Go.Proofs.YtnehaidkhpjpbaaDoor
open Go.ChangeShapes Go.WideShapes Go.ChangeAt Go.RowKit Go.PlainAid
set_option linter.unusedVariables false
set_option maxRecDepth 100000 in
set_option maxHeartbeats 2000000 in
theorem implCoreOK_any (a : Option Addr) (c : Nat) (ls : List (List Ins)) (ks : List Int) (k : Option Addr) (kc : Nat) (h : CH) (C : Cor) (hm : ls.length ≤ maxLen) (hl : ∀ j, j < ls.length → (ls.getD j []).length ≤ maxLen) (hk : ks.length ≤ maxLen) (hcap : C.fr.length ≤ h.c0) (hcl : C.le maxLen) (w : World) (ht : VTabs w) (hz : RoutC w a ls) (hy : Lies w k (kC ks)) (hc : CLies w h C) :
    Calls Tryd.prog 49 #[.slice a ls.length c, .slice k ks.length kc, cV h C] w fun e w' => e = .returned (.bool (corF ls ks C)) ∧ Below w.heap.size w w' := by
  have HX := Lib.hid (Bx.start w (.cells #[.slice h.a0 C.fr.length h.c0, .slice h.a1 C.st.length h.c1] 62))
  have HV := Lib.hid (verifyAll_any a c ls ks k kc hm hl hk _ (ht.below HX.out.bel (Nat.le_refl _)) (hz.routs.below HX.out.bel) (hy.below HX.out.bel (Nat.le_refl _)))
  have HO : Hid ((allF ls ks).2.2 = 0 → ∀ X, Below w.heap.size w X → Calls Tryd.prog 88 #[.slice a ls.length c, .slice k ks.length kc, .agg #[.slice h.a0 C.fr.length h.c0, .slice h.a1 C.st.length h.c1]] X fun e w' => e = .returned (.bool (corB ls ks C)) ∧ Below X.heap.size X w') :=
    Lib.hid (fun hv X hX => coreOK_any ls a c ks k kc h C hv hcap hk hcl X (ht.below hX (Nat.le_refl _)) (hz.below hX) (hy.below hX (Nat.le_refl _)) (hc.below hX (Nat.le_refl _)))
  have HN := Lib.hid (@corF_no ls ks C)
  have HY := Lib.hid (@corF_ok ls ks C)
  clear hz hy hc hl hcl ht hcap
  change Calls Tryd.prog 49 #[.slice a ls.length c, .slice k ks.length kc, .agg #[.slice h.a0 C.fr.length h.c0, .slice h.a1 C.st.length h.c1]] w _
  generalize corF ls ks C = R at *
  generalize corB ls ks C = S at *
  generalize (allF ls ks).1 = x at *
  generalize (allF ls ks).2.1 = y at *
  generalize (allF ls ks).2.2 = z at *
  unfold maxLen at hm hk
  generalize ls.length = n at *
  generalize ks.length = m at *
  generalize C.fr.length = u at *
  generalize C.st.length = v at *
  by_cases hv : z = 0
  · have HE := Lib.hid (HY.out hv)
    have HO2 := Lib.hid (HO.out hv)
    subst hv
    clear HN HY HO
    go_enter Tryd.func49, Tryd.ntmps49
    go_wp2_with fail
    refine Calls.mono HV.out ?_
    rintro e w1 ⟨rfl, hb1⟩
    have HX1 := Lib.hid (HX.out.to hb1)
    clear hb1
    have c0 := cell_of_row _ w.heap.size 0 _ _ _ HX1.out.box
    have c1 := cell_of_row _ w.heap.size 1 _ _ _ HX1.out.box
    go_wp2_with fail
    refine Calls.mono (HO2.out _ HX1.out.bel) ?_
    rintro e w2 ⟨rfl, hb2⟩
    have HX2 := Lib.hid (HX1.out.to hb2)
    clear hb2
    go_wp2
    go_ret
    exact ⟨rb_eq HE.out.symm, HX2.out.bel⟩
  · have HE := Lib.hid (HN.out hv)
    have gz : (z == 0) = false := by rw [beq_eq_false_iff_ne]; exact hv
    clear HN HY HO
    go_enter Tryd.func49, Tryd.ntmps49
    go_wp2_with fail
    refine Calls.mono HV.out ?_
    rintro e w1 ⟨rfl, hb1⟩
    have HX1 := Lib.hid (HX.out.to hb1)
    clear hb1
    go_wp2
    go_ret
    exact ⟨rb_eq HE.out.symm, HX1.out.bel⟩
def ToCPostC (C : Cor) (w : World) (e : Ending) (w' : World) : Prop := ∃ H : CH, e = .returned (cV H C) ∧ CLies w' H C ∧ C.fr.length ≤ H.c0 ∧ Below w.heap.size w w'
set_option maxRecDepth 100000 in
set_option maxHeartbeats 1000000 in
theorem toCoreC_any (h : CH) (C : Cor) (hn : C.le 1048576) (w : World) (hz : CLies w h C) : Calls Tryd.prog 48 #[cV h C] w (ToCPostC C w) := by
  have HB := HB3 w
  have HK := HK3 w
  have HZ := Lib.hid hz
  have HP : Hid (∀ (H : CH) (w' : World), CLies w' H C → C.fr.length ≤ H.c0 → Below w.heap.size w w' → ToCPostC C w (.returned (cV H C)) w') := Lib.hid (fun H w' h1 h3 h2 => ⟨H, rfl, h1, h3, h2⟩)
  have HA0 := Lib.hid (fun w hz => toFrameS_any C.fr h.a0 h.c0 hn.h0 hn.h2 w hz)
  have HA1 := Lib.hid (fun w hz => toIntS_ex C.st h.a1 h.c1 hn.h1 w hz)
  clear hz
  generalize ToCPostC C w = POST at *
  go_enter Tryd.func48, Tryd.ntmps48
  go_wp2_with fail
  refine Calls.mono (HA0.out _ ((HZ.out.below (HB.out _ _ _) (Nat.le_refl _)).fr)) ?_
  rintro e w1 ⟨rfl, ho, hb⟩
  obtain ⟨s0, s1, s2, s3⟩ := HK.out (cO h C 70) (.cells #[.slice none 0 0, .slice none 0 0] 62) (.cells #[.slice none 0 0, .slice none 0 0] 62)
  have K0 := Lib.hid (blk_bel s0 hb)
  have K1 := Lib.hid (blk_bel s1 hb)
  have K2 := Lib.hid (blk_bel s2 hb)
  have Hb := Lib.hid ((HB.out _ _ _).trans (hb.mono (by rw [s3]; omega)))
  have HL := Lib.hid (show w.heap.size + 3 ≤ w1.heap.size by have := hb.size; rw [s3] at this; exact this)
  rw [s3] at ho ⊢
  have R0 := Lib.hid ho
  clear s0 s1 s2 s3 ho hb
  have c0 := cell_of_row w1 (w.heap.size + 2) 0 _ _ _ K2.out
  have c1 := frozen_of_row w1 (w.heap.size + 2) 0 _ _ K2.out
  have c2 := cell_of_row w1 w.heap.size 1 _ _ _ K0.out
  generalize hN : C.fr.length = n0 at *
  have K1 := Lib.hid (blk_far (p := w.heap.size + 2) (i := 0) K1.out (by omega) (.slice (some ⟨w.heap.size + 3, 0, none⟩) n0 n0))
  have K2 : Hid ((w1.setCell ⟨w.heap.size + 2, 0, none⟩ (.slice (some ⟨w.heap.size + 3, 0, none⟩) n0 n0)).heap[w.heap.size + 2]? = some (.cells #[.slice (some ⟨w.heap.size + 3, 0, none⟩) n0 n0, .slice none 0 0] 62)) := Lib.hid (wk_set K2.out 0 (.slice (some ⟨w.heap.size + 3, 0, none⟩) n0 n0))
  have R0 := Lib.hid (R0.out.far (p := w.heap.size + 2) (i := 0) (by omega) (.slice (some ⟨w.heap.size + 3, 0, none⟩) n0 n0))
  have Hb := Lib.hid (Hb.out.setCell (p := ⟨w.heap.size + 2, 0, none⟩) (by simp only; omega) (.slice (some ⟨w.heap.size + 3, 0, none⟩) n0 n0))
  have HL := Lib.hid (show w.heap.size + 3 ≤ (w1.setCell ⟨w.heap.size + 2, 0, none⟩ (.slice (some ⟨w.heap.size + 3, 0, none⟩) n0 n0)).heap.size by simp only [World.setCell, Array.size_modify]; exact HL.out)
  go_wp2_with fail
  refine Calls.mono (HA1.out _ ((HZ.out.below Hb.out (Nat.le_refl _)).st)) ?_
  rintro e w2 ⟨g1, rfl, ho, hb⟩
  have R0 := Lib.hid (R0.out.bel hb)
  have R1 := Lib.hid (own_base ho HL.out)
  have K1 := Lib.hid (blk_bel K1.out hb)
  have K2 := Lib.hid (blk_bel K2.out hb)
  have Hb := Lib.hid (Hb.out.trans (hb.mono (Nat.le_trans (Nat.le_add_right _ 3) HL.out)))
  clear ho hb c0 c1 c2
  have c0 := cell_of_row w2 (w.heap.size + 2) 0 _ _ _ K2.out
  have c1 := cell_of_row w2 (w.heap.size + 2) 1 _ _ _ K2.out
  have f1 := frozen_of_row w2 (w.heap.size + 2) 1 _ _ K2.out
  have d0 := cell_of_row w2 (w.heap.size + 1) 0 _ _ _ K1.out
  have d1 := cell_of_row w2 (w.heap.size + 1) 1 _ _ _ K1.out
  have e0 := frozen_of_row w2 (w.heap.size + 1) 0 _ _ K1.out
  have e1 := frozen_of_row w2 (w.heap.size + 1) 1 _ _ K1.out
  go_wp2
  refine bodyPost_ret (v := .agg #[.slice (some ⟨w.heap.size + 3, 0, none⟩) n0 n0, .slice (some ⟨g1, 0, none⟩) C.st.length C.st.length]) (by simp [results, Tryd.results48, go_sem, d0, d1]) rfl ?_
  have HX := HP.out ⟨some ⟨w.heap.size + 3, 0, none⟩, some ⟨g1, 0, none⟩, n0, C.st.length⟩
  rw [show cV ⟨some ⟨w.heap.size + 3, 0, none⟩, some ⟨g1, 0, none⟩, n0, C.st.length⟩ C = .agg #[.slice (some ⟨w.heap.size + 3, 0, none⟩) n0 n0, .slice (some ⟨g1, 0, none⟩) C.st.length C.st.length] from by rw [← hN]] at HX
  refine HX _ ⟨?_, ?_⟩ (Nat.le_of_eq rfl) ?_
  · exact (((R0.out.far (by omega) _).far (by omega) _).far (by omega) _).frs
  · exact lies_own (own_far (own_far (own_far R1.out (by omega) _) (by omega) _) (by omega) _)
  · exact bel_set (bel_set (bel_set Hb.out (by omega) _) (by omega) _) (by omega) _
theorem ROwn.routC {B hi : Nat} {ls : List (List Ins)} {w : World} (h : ROwn B hi ls w) : RoutC w (some ⟨B, 0, none⟩) ls := by
  obtain ⟨rs, h1, h2, h3, h4, h5⟩ := h.rows
  refine ⟨rs, h1, lies_own h2, fun j hj => ?_⟩
  obtain ⟨g, e, ho⟩ := h3.each j (by omega)
  rw [e]
  exact ⟨rfl, lies_own ho, Nat.le_refl _⟩
end Go.Proofs.YtnehaidkhpjpbaaDoor
namespace Go.Proofs.YtnehaidkhpjpbaaDoor
open Go.ChangeShapes Go.WideShapes Go.ChangeAt Go.RowKit
set_option linter.unusedVariables false
set_option maxRecDepth 100000 in
set_option maxHeartbeats 4000000 in
theorem FnExactCoreOK_came (a : Option Addr) (n c : Nat) (k : Option Addr) (m kc : Nat) (cs : Array Value) (W : World) (h : Came Tryd.prog W 33 [.slice a n c]) (hk : Came Tryd.prog W 23 [.slice k m kc]) (hc : Came Tryd.prog W 70 cs.toList) (hf : OpTab W ∧ EffTab W ∧ FbTab W) :
    Calls Tryd.prog 10 #[.slice a n c, .slice k m kc, .agg cs] W fun e w' => e = .returned (.bool true) ∧ Below W.heap.size W w' := by
  obtain ⟨hT, hE, hF⟩ := hf
  obtain ⟨hm, ls, rfl, hz, hlm⟩ := came_rts h
  obtain ⟨hm2, _, ks, rfl, hy⟩ := came_ks hk
  obtain ⟨H, C, e, hcl, hcm⟩ := came_cor hc
  rw [e]
  clear h hk hc e
  have hmm := hm
  have hmm2 := hm2
  unfold maxLen at hmm hmm2
  have HB := Lib.hid (Bx.start W (cO H C 70))
  by_cases hk2 : (1048576 : Int) < ks.length
  · clear hz hy hT hE hF hm hm2 hlm hcl hcm
    generalize ls.length = n at *
    generalize ks.length = m at *
    go_enter Tryd.func10, Tryd.ntmps10
    go_wp2
    go_ret
    exact ⟨rfl, HB.out.bel⟩
  have Hz := Lib.hid hz
  have Hy := Lib.hid hy
  have Hc := Lib.hid hcl
  have HT : Hid (∀ w, Below W.heap.size W w → VTabs w) := Lib.hid (fun w hb => (VTabs.mk hT hE hF).below hb (Nat.le_refl _))
  have HS := Lib.hid (fun w hz => (szRoutineS_sum ls a c 1048576 (by omega) hm hlm w hz).mono (R' := fun e w' => ∃ v : Int, e = .returned (.int .i64 v) ∧ Below w.heap.size w w' ∧ (v < 0 ∨ 0 ≤ v ∧ v ≤ 1048576 ∧ ls.length + sumL ls ls.length ≤ 1048576)) fun e w' h => h)
  have HSC := Lib.hid (fun left hl w hz => szCore_any H C left hl hcm w hz)
  have HA := Lib.hid (fun (hs : ls.length + sumL ls ls.length ≤ 1048576) w hz => (toRoutineSO_any ls a c (by omega) (fun j hj => by have := sumL_each hj; omega) w hz).mono (R' := fun e w' => e = .returned (.slice (some ⟨w.heap.size, 0, none⟩) ls.length ls.length) ∧ ROwn w.heap.size w'.heap.size ls w' ∧ Below w.heap.size w w') fun e w' h => h)
  have HA2 := Lib.hid (fun w hz => toIntS_any ks k kc (by omega) w hz)
  have HA3 := Lib.hid (fun (hs : C.le 1048576) w hz => (toCoreC_any H C hs w hz).mono (R' := fun e w' => ∃ G : CH, e = .returned (cV G C) ∧ CLies w' G C ∧ C.fr.length ≤ G.c0 ∧ Below w.heap.size w w') fun e w' h => h)
  have HSP := Lib.hid (fun a c k kc G w hz hy hc => specCoreOK_any a c ls ks k kc G C hm hlm hm2 hcm w hz hy hc)
  have HIM := Lib.hid (fun a c k kc G hcap w ht hz hy hc => implCoreOK_any a c ls ks k kc G C hm hlm hm2 hcap hcm w ht hz hy hc)
  have HEI := Lib.hid (fun (hs : ls.length + sumL ls ls.length ≤ 1048576) a b c d w hz hy => eqRoutineS_same ls a b c d (by omega) (fun j hj => by have := sumL_each hj; omega) w hz hy)
  have HEK := Lib.hid (fun a b c d w hz hy => eqIntS_same ks a b c d (by omega) w hz hy)
  clear hz hy hT hE hF hm hm2 hlm hcl hcm hmm hmm2
  generalize corF ls ks C = R at *
  have e2 : (R != R) = false := by simp
  generalize sumL ls ls.length = S at *
  generalize ls.length = n at *
  generalize ks.length = m at *
  go_enter Tryd.func10, Tryd.ntmps10
  go_wp2_with fail
  refine Calls.mono (HS.out _ (Hz.out.below HB.out.bel)) ?_
  rintro e w1 ⟨v, rfl, hb, hv⟩
  have HB := Lib.hid (HB.out.to hb)
  clear hb
  by_cases hv0 : v < 0
  · clear hv
    go_wp2
    go_ret
    exact ⟨rfl, HB.out.bel⟩
  obtain ⟨hv1, hv2, hsum⟩ : 0 ≤ v ∧ v ≤ 1048576 ∧ n + S ≤ 1048576 := by
    rcases hv with h | h
    · exact absurd h hv0
    · exact h
  have HSU := Lib.hid hsum
  clear hv hsum
  have q0 := cell_of_row w1 W.heap.size 0 _ _ _ HB.out.box
  have q1 := cell_of_row w1 W.heap.size 1 _ _ _ HB.out.box
  go_wp2_with fail
  refine Calls.mono (HSC.out v ⟨hv1, hv2⟩ _ (Hc.out.below HB.out.bel (Nat.le_refl _))) ?_
  rintro e w2 ⟨r', rfl, hb1, hr⟩
  have HB := Lib.hid (HB.out.to hb1)
  clear hb1 q0 q1
  rcases hr with rfl | ⟨r0', r1', hle⟩
  · go_wp2
    go_ret
    exact ⟨rfl, HB.out.bel⟩
  have HLC := Lib.hid (cor_le hle)
  clear hle
  have HSW : Hid (Below w2.heap.size w2 w2.drew) := Lib.hid (Below.refl _ _).drew
  have HBd := Lib.hid (HB.out.to HSW.out)
  go_wp2_with fail
  refine wp_region_hl 7 (fun X => Below w2.heap.size w2 X) (by kernel_rfl) rfl rfl (by kernel_rfl) ?_
  refine hl_take (v := ?v0) 0 rfl (by kernel_rfl) (fun _ _ _ h => h) (Or.inl ⟨by rfl, ?hy0⟩) HSW.out ?rest0
  case hy0 =>
    intro X hSw
    go_simp <;> with_reducible rfl
  try simp only [Act.put, List.setIfInBounds_toArray, List.set_cons_zero, List.set_cons_succ]
  refine hl_take (v := ?v2) 2 rfl (by kernel_rfl) (fun _ _ _ h => h) (Or.inl ⟨by rfl, ?hy2⟩) HSW.out ?rest2
  case hy2 =>
    intro X hSw
    go_simp <;> with_reducible rfl
  try simp only [Act.put, List.setIfInBounds_toArray, List.set_cons_zero, List.set_cons_succ]
  refine hl_take (v := ?v4) 4 rfl (by kernel_rfl) (fun _ _ _ h => h) (Or.inl ⟨by rfl, ?hy4⟩) HSW.out ?rest4
  case hy4 =>
    intro X hSw
    have hk := blk_bel HB.out.box hSw
    have q0 := cell_of_row X _ 0 _ _ _ hk
    have q1 := cell_of_row X _ 1 _ _ _ hk
    clear hk
    go_simp <;> with_reducible rfl
  try simp only [Act.put, List.setIfInBounds_toArray, List.set_cons_zero, List.set_cons_succ]
  refine hl_one 1 rfl (by kernel_rfl) (fun K hK => ?_)
  go_simp
  refine Calls.mono (HA.out HSU.out _ (Hz.out.below HBd.out.bel)) ?_
  rintro e w3 ⟨rfl, ho, hb⟩
  refine hK.out _ _ (HSW.out.trans hb) ?_
  have HSS := Lib.hid (HSW.out.trans hb)
  have S0 := Lib.hid ho.routs
  clear hK hb ho
  try simp only [Act.put, List.setIfInBounds_toArray, List.set_cons_zero, List.set_cons_succ]
  refine hl_one 3 rfl (by kernel_rfl) (fun K hK => ?_)
  go_simp
  refine Calls.mono (HA2.out _ (Hy.out.below (HB.out.to HSS.out).bel (Nat.le_refl _))) ?_
  rintro e w4 ⟨rfl, ho, hb⟩
  refine hK.out _ _ (HSS.out.trans (hb.mono HSS.out.size)) ?_
  have HSS := Lib.hid (HSS.out.trans (hb.mono HSS.out.size))
  have S0 := Lib.hid (S0.out.below hb)
  have S1 := Lib.hid (lies_own ho)
  clear hK hb ho
  try simp only [Act.put, List.setIfInBounds_toArray, List.set_cons_zero, List.set_cons_succ]
  refine hl_one 5 rfl (by kernel_rfl) (fun K hK => ?_)
  go_simp
  refine Calls.mono (HA3.out HLC.out _ (Hc.out.below (HB.out.to HSS.out).bel (Nat.le_refl _))) ?_
  rintro e w5 ⟨h5, rfl, ho, _, hb⟩
  refine hK.out _ _ (HSS.out.trans (hb.mono HSS.out.size)) ?_
  have HSS := Lib.hid (HSS.out.trans (hb.mono HSS.out.size))
  have S0 := Lib.hid (S0.out.below hb)
  have S1 := Lib.hid (S1.out.below hb (Nat.le_refl _))
  have S2 := Lib.hid ho
  clear hK hb ho
  try simp only [Act.put, List.setIfInBounds_toArray, List.set_cons_zero, List.set_cons_succ]
  refine hl_one 6 rfl (by kernel_rfl) (fun K hK => ?_)
  go_simp
  refine Calls.mono (HSP.out _ _ _ _ h5 _ S0.out S1.out S2.out) ?_
  rintro e w6 ⟨rfl, hb⟩
  refine hK.out _ _ (HSS.out.trans (hb.mono HSS.out.size)) ?_
  have HSS := Lib.hid (HSS.out.trans (hb.mono HSS.out.size))
  clear hK hb S0 S1 S2
  try simp only [Act.put, List.setIfInBounds_toArray, List.set_cons_zero, List.set_cons_succ]
  refine hl_done (by kernel_rfl) ?_
  go_simp
  have HB := Lib.hid (HB.out.to HSS.out)
  clear HSS HSW HBd
  go_wp2_with fail
  refine Calls.mono (HA.out HSU.out _ (Hz.out.below HB.out.bel)) ?_
  rintro e w7 ⟨rfl, ho, hb⟩
  have HB := Lib.hid (HB.out.to hb)
  have X0 := Lib.hid ho.routC
  clear ho hb
  go_wp2_with fail
  refine Calls.mono (HA2.out _ (Hy.out.below HB.out.bel (Nat.le_refl _))) ?_
  rintro e w8 ⟨rfl, ho, hb⟩
  have HB := Lib.hid (HB.out.to hb)
  have X0 := Lib.hid (X0.out.below hb)
  have X1 := Lib.hid (lies_own ho)
  clear ho hb
  have q0 := cell_of_row w8 W.heap.size 0 _ _ _ HB.out.box
  have q1 := cell_of_row w8 W.heap.size 1 _ _ _ HB.out.box
  go_wp2_with fail
  refine Calls.mono (HA3.out HLC.out _ (Hc.out.below HB.out.bel (Nat.le_refl _))) ?_
  rintro e w9 ⟨h9, rfl, ho, hcap, hb⟩
  have hd := dbox w9 (cO h9 C 62)
  have HB := Lib.hid ((HB.out.to hb).to hd)
  have X0 := Lib.hid ((X0.out.below hb).below hd)
  have X1 := Lib.hid ((X1.out.below hb (Nat.le_refl _)).below hd (Nat.le_refl _))
  have X2 := Lib.hid (ho.below hd (Nat.le_refl _))
  have XB := Lib.hid (heap_alloc_new w9 (cO h9 C 62))
  have HCAP := Lib.hid hcap
  clear ho hb hd q0 q1 hcap
  have q0 := cell_of_row _ w9.heap.size 0 _ _ _ XB.out
  have q1 := cell_of_row _ w9.heap.size 1 _ _ _ XB.out
  go_wp2_with fail
  refine Calls.mono (HIM.out _ _ _ _ h9 HCAP.out _ (HT.out _ HB.out.bel) X0.out X1.out X2.out) ?_
  rintro e w10 ⟨rfl, hb⟩
  have HB := Lib.hid (HB.out.to hb)
  have X0 := Lib.hid (X0.out.below hb)
  have X1 := Lib.hid (X1.out.below hb (Nat.le_refl _))
  have X2 := Lib.hid (X2.out.below hb (Nat.le_refl _))
  have XB := Lib.hid (blk_bel XB.out hb)
  clear hb q0 q1
  go_wp2_with fail
  refine Calls.mono (HA.out HSU.out _ (Hz.out.below HB.out.bel)) ?_
  rintro e w11 ⟨rfl, ho, hb⟩
  have HB := Lib.hid (HB.out.to hb)
  have X0 := Lib.hid (X0.out.below hb)
  have X1 := Lib.hid (X1.out.below hb (Nat.le_refl _))
  have X2 := Lib.hid (X2.out.below hb (Nat.le_refl _))
  have XB := Lib.hid (blk_bel XB.out hb)
  have Y0 := Lib.hid ho.routs
  clear ho hb
  go_wp2_with fail
  refine Calls.mono (HEI.out HSU.out _ _ _ _ _ X0.out.routs Y0.out) ?_
  rintro e w12 ⟨rfl, hb⟩
  have HB := Lib.hid (HB.out.to hb)
  have X1 := Lib.hid (X1.out.below hb (Nat.le_refl _))
  have X2 := Lib.hid (X2.out.below hb (Nat.le_refl _))
  have XB := Lib.hid (blk_bel XB.out hb)
  clear hb X0 Y0
  go_wp2_with fail
  refine Calls.mono (HA2.out _ (Hy.out.below HB.out.bel (Nat.le_refl _))) ?_
  rintro e w13 ⟨rfl, ho, hb⟩
  have HB := Lib.hid (HB.out.to hb)
  have X1 := Lib.hid (X1.out.below hb (Nat.le_refl _))
  have X2 := Lib.hid (X2.out.below hb (Nat.le_refl _))
  have XB := Lib.hid (blk_bel XB.out hb)
  have Y1 := Lib.hid (lies_own ho)
  clear ho hb
  go_wp2_with fail
  refine Calls.mono (HEK.out _ _ _ _ _ X1.out Y1.out) ?_
  rintro e w14 ⟨rfl, hb⟩
  have HB := Lib.hid (HB.out.to hb)
  have X2 := Lib.hid (X2.out.below hb (Nat.le_refl _))
  have XB := Lib.hid (blk_bel XB.out hb)
  clear hb X1 Y1
  have HSW : Hid (Below w14.heap.size w14 w14.drew) := Lib.hid (Below.refl _ _).drew
  have HBd := Lib.hid (HB.out.to HSW.out)
  go_wp2_with fail
  refine wp_region_hl 4 (fun X => Below w14.heap.size w14 X) (by kernel_rfl) rfl rfl (by kernel_rfl) ?_
  refine hl_take (v := ?va) 0 rfl (by kernel_rfl) (fun _ _ _ h => h) (Or.inl ⟨by rfl, ?hya⟩) HSW.out ?ra
  case hya =>
    intro X hSw
    have hk := blk_bel XB.out hSw
    have q0 := cell_of_row X _ 0 _ _ _ hk
    have q1 := cell_of_row X _ 1 _ _ _ hk
    clear hk
    go_simp <;> with_reducible rfl
  try simp only [Act.put, List.setIfInBounds_toArray, List.set_cons_zero, List.set_cons_succ]
  refine hl_take (v := ?vb) 1 rfl (by kernel_rfl) (fun _ _ _ h => h) (Or.inl ⟨by rfl, ?hyb⟩) HSW.out ?rb
  case hyb =>
    intro X hSw
    have hk := blk_bel HB.out.box hSw
    have q0 := cell_of_row X _ 0 _ _ _ hk
    have q1 := cell_of_row X _ 1 _ _ _ hk
    clear hk
    go_simp <;> with_reducible rfl
  try simp only [Act.put, List.setIfInBounds_toArray, List.set_cons_zero, List.set_cons_succ]
  refine hl_one 2 rfl (by kernel_rfl) (fun K hK => ?_)
  go_simp
  refine Calls.mono (HA3.out HLC.out _ (Hc.out.below HBd.out.bel (Nat.le_refl _))) ?_
  rintro e w15 ⟨h15, rfl, ho, _, hb⟩
  refine hK.out _ _ (HSW.out.trans hb) ?_
  have HSS := Lib.hid (HSW.out.trans hb)
  have Y2 := Lib.hid ho
  clear hK hb ho
  try simp only [Act.put, List.setIfInBounds_toArray, List.set_cons_zero, List.set_cons_succ]
  refine hl_one 3 rfl (by kernel_rfl) (fun K hK => ?_)
  go_simp
  refine Calls.mono (eqCore_same h9 h15 C HLC.out _ (X2.out.below HSS.out (Nat.le_refl _)) Y2.out) ?_
  rintro e w16 ⟨rfl, hb⟩
  refine hK.out _ _ (HSS.out.trans (hb.mono HSS.out.size)) ?_
  have HSS := Lib.hid (HSS.out.trans (hb.mono HSS.out.size))
  clear hK hb
  try simp only [Act.put, List.setIfInBounds_toArray, List.set_cons_zero, List.set_cons_succ]
  refine hl_done (by kernel_rfl) ?_
  go_simp
  have HB := Lib.hid (HB.out.to HSS.out)
  go_wp2
  go_ret
  exact ⟨rfl, HB.out.bel⟩
end Go.Proofs.YtnehaidkhpjpbaaDoor
