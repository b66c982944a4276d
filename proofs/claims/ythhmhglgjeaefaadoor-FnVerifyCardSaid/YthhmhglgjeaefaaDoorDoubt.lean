/- Drawn code in which something was turned. -/
import Derived.Test.YthhmhglgjeaefaaDoorRight
import Derived.Deep.RegionLaw
namespace Go.Proofs.YthhmhglgjeaefaaDoor
open Go.ChangeShapes Go.WideShapes Go.ChangeAt Go.RowKit
set_option linter.unusedVariables false
theorem lies_pre {w : World} {a : Option Addr} {xs ys : List Value} (h : Lies w a (xs ++ ys)) : Lies w a xs := by
  rcases h with h | ⟨b, o, e, h⟩
  · exact .inl (List.append_eq_nil_iff.1 h).1
  · exact .inr ⟨b, o, e, fun j v hj => h j v (by rw [List.getElem?_append_left (List.getElem?_eq_some_iff.1 hj).1]; exact hj)⟩
theorem flat_cut (zs : List Ins) (n : Nat) : flat insC zs = flat insC (zs.take n) ++ flat insC (zs.drop n) := by rw [← flat_app, List.take_append_drop]
theorem lies_pre40 {w : World} {a : Option Addr} {zs : List Ins} (h : Lies w a (flat insC zs)) {n : Nat} : Lies w a (flat insC (zs.take n)) := by
  rw [flat_cut zs n] at h
  exact lies_pre h
theorem over_ins {zs : List Ins} {v : Nat} (hv : v < zs.length) (n a : Int) : over (flat insC zs) (v * 2) [.int .i64 n, .int .i64 a] = flat insC (zs.set v (n, a)) := by
  have e1 : flat insC zs = flat insC (zs.take v) ++ insC zs[v] ++ flat insC (zs.drop (v + 1)) := by
    rw [flat_cut zs v, List.drop_eq_getElem_cons hv, flat_cons, List.append_assoc]
  have e2 : zs.set v (n, a) = zs.take v ++ (n, a) :: zs.drop (v + 1) := by
    rw [List.set_eq_take_append_cons_drop, if_pos hv]
  have hl : (flat insC (zs.take v)).length = v * 2 := by rw [flat_len insC_len, List.length_take]; omega
  have h := over_mid [.int .i64 n, .int .i64 a] (flat insC (zs.take v)) (insC zs[v]) (flat insC (zs.drop (v + 1))) rfl
  rw [hl, ← e1] at h
  rw [h, e2, flat_app, flat_cons, List.append_assoc]
  rfl
theorem lies_from {w : World} {g : Nat} {zs : List Ins} (h : Lies w (some ⟨g, 0, none⟩) (flat insC zs)) (n : Nat) (hn : n ≤ zs.length) : ∀ j u, (flat insC (zs.drop n))[j]? = some u → w.cell? ((⟨g, n * 2, none⟩ : Addr).add j) = some u := by
  intro j u hj
  have hl : (flat insC (zs.take n)).length = n * 2 := by rw [flat_len insC_len, List.length_take]; omega
  rcases h with h | ⟨b, o, e, h⟩
  · rw [flat_cut zs n] at h
    rw [(List.append_eq_nil_iff.1 h).2] at hj
    simp at hj
  · simp only [Option.some.injEq, Addr.mk.injEq] at e
    obtain ⟨rfl, rfl, _⟩ := e
    have := h (n * 2 + j) u (by rw [flat_cut zs n, List.getElem?_append_right (by omega), hl, show n * 2 + j - n * 2 = j by omega]; exact hj)
    rw [addr_add]
    rw [Nat.zero_add] at this
    exact this
theorem lies_to {w : World} {g : Nat} {zs : List Ins} (h : Lies w (some ⟨g, 0, none⟩) (flat insC zs)) (n : Nat) : ∀ j u, (flat insC (zs.take n))[j]? = some u → w.cell? ((⟨g, 0, none⟩ : Addr).add j) = some u := by
  intro j u hj
  rcases lies_pre40 h (n := n) with h | ⟨b, o, e, h⟩
  · rw [h] at hj
    simp at hj
  · simp only [Option.some.injEq, Addr.mk.injEq] at e
    obtain ⟨rfl, rfl, _⟩ := e
    rw [addr_add]
    exact h j u hj
def DoubtP (B p N : Nat) (k : Option Addr) (ks : List Int) (w : World) (e : Ending) (w' : World) : Prop :=
  ∃ (a : Option Addr) (m c : Nat) (zs : List Ins), e = .returned (.slice a m c) ∧ zs.length = m ∧ m ≤ 50 ∧ m ≤ c ∧ Lies w' a (flat insC zs) ∧ DK w' B p N k ks ∧ w.grownBy w' (some p)
/-- An element of a row of one's own is written. -/
theorem put_ins {w : World} {B g m c v : Nat} {zs : List Ins} (h : w.ownsRow B 38 2 (.slice (some ⟨g, 0, none⟩) m c) m (flat insC zs)) (hl : zs.length = m) (hv : v < m) (n a : Int) :
    ((w.setCell ⟨g, v * 2, none⟩ (.int .i64 n)).setCell ⟨g, v * 2 + 1, none⟩ (.int .i64 a)).ownsRow B 38 2 (.slice (some ⟨g, 0, none⟩) m c) m (flat insC (zs.set v (n, a))) ∧ w.grownBy ((w.setCell ⟨g, v * 2, none⟩ (.int .i64 n)).setCell ⟨g, v * 2 + 1, none⟩ (.int .i64 a)) (some g) := by
  have := own_storeAll [.int .i64 n, .int .i64 a] (flat insC zs) (v * 2) w h
  rw [over_ins (by omega)] at this
  exact this
theorem put_cells {w : World} {B g m c v : Nat} {zs : List Ins} (h : w.ownsRow B 38 2 (.slice (some ⟨g, 0, none⟩) m c) m (flat insC zs)) (hl : zs.length = m) (hv : v < m) :
    ∃ x y : Value, w.cell? ⟨g, v * 2, none⟩ = some x ∧ w.cell? ⟨g, v * 2 + 1, none⟩ = some y ∧ w.frozen? ⟨g, v * 2, none⟩ = false ∧ w.frozen? ⟨g, v * 2 + 1, none⟩ = false := by
  obtain ⟨b, o, e, hb, hcs⟩ := (lies_own h).open (by rw [flat_len insC_len]; omega)
  simp only [Option.some.injEq, Addr.mk.injEq] at e
  obtain ⟨rfl, rfl, _⟩ := e
  obtain ⟨c0, c1⟩ := ins_at hcs (i := v) (by omega)
  rw [Nat.zero_add] at c0
  rw [Nat.zero_add] at c1
  have hF := Filled.zero (enc := insC) (zs := zs) h
  exact ⟨_, _, c0, c1, hF.free _, hF.free _⟩
/-- A table of five that the call made. -/
theorem five_in {w w' : World} {p : Nat} (hg : (w.alloc (.cells #[.int .i64 24, .int .i64 2, .int .i64 24, .int .i64 2, .int .i64 24, .int .i64 2, .int .i64 24, .int .i64 2, .int .i64 24, .int .i64 2] 38)).grownBy w' (some p)) (hp : p < w.heap.size) (u : Nat) :
    ∀ j x, (flat insC ((List.replicate 5 ((24 : Int), (2 : Int))).take u))[j]? = some x → w'.cell? ((⟨w.heap.size, 0, none⟩ : Addr).add j) = some x := by
  have h := lies_own (World.ownsRow_lit (base := w.heap.size) (e := 38) (size := 2) w #[.int .i64 24, .int .i64 2, .int .i64 24, .int .i64 2, .int .i64 24, .int .i64 2, .int .i64 24, .int .i64 2, .int .i64 24, .int .i64 2] 5 (Nat.le_refl _) (by unfold maxLen; omega) rfl)
  have h2 : Lies w' (some ⟨w.heap.size, 0, none⟩) (flat insC (List.replicate 5 ((24 : Int), (2 : Int)))) := h.grown hg (fun b o e q => by injection e with e; injection e with e; injection q with q; omega)
  have h3 := lies_pre40 h2 (n := u)
  intro j x hj
  rcases h3 with h3 | ⟨b, o, e, h3⟩
  · rw [h3] at hj
    simp at hj
  · simp only [Option.some.injEq, Addr.mk.injEq] at e
    obtain ⟨rfl, rfl, _⟩ := e
    rw [addr_add]
    exact h3 j x hj
set_option maxRecDepth 100000 in
set_option maxHeartbeats 4000000 in
theorem doubtful_any (B p N : Nat) (k : Option Addr) (kc : Nat) (ks : List Int) (r : Int) (w : World) (h : DK w B p N k ks) (hlo : ∀ b o, k = some (⟨b, o, none⟩ : Addr) → b < w.heap.size) (hN : N ≤ 50000) (hk : ks.length ≤ 8) (hkb : ks.all kindB = true) (hr0 : 0 ≤ r) (hr6 : r ≤ 6) :
    Calls Tryd.prog 20 #[.pointer (some ⟨p, 0, none⟩), .slice k ks.length kc, .int .i64 r] w (DoubtP B p (N + 15000) k ks w) := by
  have HLO := Lib.hid hlo
  have hpp := h.plt
  have HR := Lib.hid (right_any B p N k kc ks r w h hlo (by omega) hk hkb hr0 hr6)
  obtain ⟨i0, hi, hz0, hz1, hz2⟩ := info_parts (show (Tryd.prog.info? 38).map (fun i => (i.zero, i.size, i.bytes)) = some (some (.agg #[.int .i64 0, .int .i64 0]), 2, 16) by kernel_rfl)
  have HI := Lib.hid (And.intro hi (And.intro hz0 (And.intro hz1 hz2)))
  clear hi hz0 hz1 hz2 h hlo hkb
  go_enter Tryd.func20, Tryd.ntmps20
  go_wp2_with fail
  refine Calls.mono HR.out ?_
  rintro e w1 ⟨g, m, c, zs, rfl, hl, hm, _, ho, hD, hg⟩
  have hg1 := (ho.lt g rfl).1
  have HL := Lib.hid hl
  have HC := Lib.hid (own_cap ho)
  have HD1 := Lib.hid hD
  have HG1 := Lib.hid hg
  have HO1 := Lib.hid ho
  clear hl hD hg ho HR
  go_wp2_with fail
  refine Calls.mono (chance_dk 3 _ HD1.out (by omega) (by omega) (by omega)) ?_
  rintro e w2 ⟨b2, rfl, hD, hg⟩
  have HD2 := Lib.hid hD
  have HG2 := Lib.hid (grown_tr HG1.out hg)
  have HO2 := Lib.hid (HO1.out.kept hg (Or.inr (own_above HO1.out hpp)))
  clear hD hg HO1
  cases b2
  rotate_left
  · go_wp2
    go_ret
    exact ⟨_, m, c, zs, rfl, HL.out, by omega, HC.out, lies_own HO2.out, HD2.out.more (by omega), HG2.out⟩
  go_wp2_with fail
  refine Calls.mono (next_dk ((m : Int) + 1) _ HD2.out (by omega) (by omega) (by omega)) ?_
  rintro e w3 ⟨v, rfl, v0, v1, hD, hg⟩
  obtain ⟨v, rfl⟩ := Int.eq_ofNat_of_zero_le v0
  have hvm : v ≤ m := by omega
  have HD3 := Lib.hid hD
  have HG3 := Lib.hid (grown_tr HG2.out hg)
  have HO3 := Lib.hid (HO2.out.kept hg (Or.inr (own_above HO2.out hpp)))
  clear hD hg HO2 v0 v1
  go_wp2_with fail
  refine Calls.mono (next_dk 4 _ HD3.out (by omega) (by omega) (by omega)) ?_
  rintro e w4 ⟨t, rfl, t0, t1, hD, hg⟩
  have HD4 := Lib.hid hD
  have HG4 := Lib.hid (grown_tr HG3.out hg)
  have HO4 := Lib.hid (HO3.out.kept hg (Or.inr (own_above HO3.out hpp)))
  have L4 : Hid (LP w4 p (some ⟨g, 0, none⟩) (flat insC zs)) := Lib.hid ⟨lies_own HO4.out, fun b o e => by injection e with e; injection e with e; omega⟩
  clear hD hg HO3 HD1 HD2 HD3 HG1 HG2 HG3
  by_cases e0 : t = 0
  · subst e0
    by_cases hv : v < m
    · have hp4 := HD4.out.plt
      go_wp2_with fail
      refine Calls.mono (instr_any B p (N + 14000 + 3 + 3 + 3) w4 HD4.out.src (by omega)) ?_
      rintro e w5 ⟨n, a, rfl, _, hS, hg⟩
      have HD5 := Lib.hid (HD4.out.step hS hg)
      have HG5 := Lib.hid (grown_tr HG4.out hg)
      have HO5 := Lib.hid (HO4.out.kept hg (Or.inr (own_above HO4.out hpp)))
      clear hS hg
      obtain ⟨x, y, c0, c1, f0, f1⟩ := put_cells HO5.out HL.out hv
      have HS := Lib.hid (put_ins HO5.out HL.out hv n a)
      have HD6 := Lib.hid (HD5.out.rowB HS.out.2 (T := w.heap.size) (fun q hq => by cases hq; exact hg1) hpp HLO.out)
      have HG6 := Lib.hid (grown_new HG5.out HS.out.2 (fun q hq => by cases hq; exact hg1))
      have L6 : Hid (LP _ p (some ⟨g, 0, none⟩) (flat insC (zs.set v (n, a)))) := Lib.hid ⟨lies_own HS.out.1, fun b o e => by injection e with e; injection e with e; omega⟩
      have hl6 : (zs.set v (n, a)).length = m := by rw [List.length_set]; exact HL.out
      go_wp2
      go_ret
      exact ⟨_, m, _, zs.set v (n, a), rfl, hl6, by omega, HC.out, L6.out.1, HD6.out.more (by omega), HG6.out⟩
    · go_wp2
      go_ret
      exact ⟨_, m, _, zs, rfl, HL.out, by omega, HC.out, L4.out.1, HD4.out.more (by omega), HG4.out⟩
  have hb0 : (t == 0) = false := beq_eq_false_iff_ne.2 e0
  by_cases e1 : t = 1
  · subst e1
    by_cases hcv : c = v
    · obtain ⟨d, rfl⟩ : ∃ d, m = v + d := ⟨m - (v), by omega⟩
      have hmc := HC.out
      have hvc : (v : Int) ≤ (c : Int) := by omega
      have hv0 : (0 : Int) ≤ (v : Int) := by omega
      have hv1 : (v : Int) ≤ (v : Int) + (d : Int) := by omega
      have hg4 : g < w4.heap.size := (HO4.out.lt g rfl).2
      have hb4 : w.heap.size ≤ w4.heap.size := HG4.out.size
      have LIT : Hid ((w4.alloc (.cells #[] 38)).drew.ownsRow w4.heap.size 38 2 (.slice (some ⟨w4.heap.size, 0, none⟩) 0 0) 0 []) := Lib.hid (World.ownsRow_lit (base := w4.heap.size) w4 #[] 0 (Nat.le_refl _) (Nat.zero_le _) rfl)
      have LZ0 : Hid (Lies (w4.alloc (.cells #[] 38)).drew (some ⟨g, 0, none⟩) (flat insC zs)) := Lib.hid (((lies_own HO4.out).below (bel_al w4 (.cells #[] 38)) (Nat.le_refl _)).grown (grown_drew _ none) (by intro b o e q; cases q))
      have HD0 : Hid (DK (w4.alloc (.cells #[] 38)).drew B p (N + 14009) k ks) := Lib.hid ((HD4.out.al (.cells #[] 38)).step ((HD4.out.al (.cells #[] 38)).src.grown (grown_drew _ none) (by intro e; cases e) (by intro k e; cases e)) (grown_drew _ _))
      have HG0 : Hid (w.grownBy (w4.alloc (.cells #[] 38)).drew (some p)) := Lib.hid (grown_tr (grown_al HG4.out _) (grown_drew _ _))
      have HF1 : Hid ((flat insC (zs.take v)).length = v * 2) := Lib.hid (by rw [flat_len insC_len, List.length_take, HL.out]; omega)
      have HN1 := Lib.hid (lies_to LZ0.out v)
      have HM1 : Hid (0 + v ≤ maxLen) := Lib.hid (by unfold maxLen; omega)
      have HM2 : Hid ((0 + v) * 16 ≤ 140737488355328) := Lib.hid (by omega)
      have HB1 : Hid (w4.heap.size ≤ (w4.alloc (.cells #[] 38)).drew.heap.size) := Lib.hid (bel_al w4 (.cells #[] 38)).size
      have HB4 := Lib.hid hb4
      have HPP4 : Hid (p < w4.heap.size) := Lib.hid (by omega)
      have HLO4 : Hid (∀ b o, k = some (⟨b, o, none⟩ : Addr) → b < w4.heap.size) := Lib.hid (fun b o e => by have := HLO.out b o e; omega)
      have HLL : Hid (w4.heap.size = w4.heap.size) := Lib.hid rfl
      have HZ5 : Hid (∀ w5, (w4.alloc (.cells #[] 38)).drew.grownBy w5 (Value.ownBlock (.slice (some ⟨w4.heap.size, 0, none⟩) 0 0)) → Lies w5 (some ⟨g, 0, none⟩) (flat insC zs) ∧ DK w5 B p (N + 14009) k ks ∧ w.grownBy w5 (some p) ∧ w4.heap.size ≤ w5.heap.size) :=
        Lib.hid (fun w5 h => ⟨LZ0.out.grown h (fun b o e q => by injection e with e; injection e with e; injection q with q; have : w4.heap.size = b := q; omega), HD0.out.rowB h (T := w.heap.size) (fun q e => by injection e with e; have : w4.heap.size = q := e; omega) hpp HLO.out, grown_new HG0.out h (fun q e => by injection e with e; have : w4.heap.size = q := e; omega), Nat.le_trans (bel_al w4 (.cells #[] 38)).size h.size⟩)
      have H20 : Hid (0 < 2) := Lib.hid (by decide)
      obtain ⟨H1, H2, H3, H4⟩ := HI.out
      obtain rfl : d = 0 := by omega
      obtain rfl : v = c := by omega
      have hq1 : (v : Int) ≤ (v : Int) := by omega
      have HZL : Hid (v ≤ zs.length) := Lib.hid (by rw [HL.out]; omega)
      have HF2 : Hid ((flat insC (zs.drop v)).length = 0 * 2) := Lib.hid (by rw [flat_len insC_len, List.length_drop, HL.out]; omega)
      have HE0 : Hid (zs.drop v = []) := Lib.hid (List.drop_eq_nil_of_le (by rw [HL.out]; omega))
      have HM5 : Hid (v + 1 ≤ maxLen) := Lib.hid (by unfold maxLen; omega)
      have HM6 : Hid ((v + 1) * 16 ≤ 140737488355328) := Lib.hid (by omega)
      have HM3 : Hid (v + 1 + 0 ≤ maxLen) := Lib.hid (by unfold maxLen; omega)
      have HM4 : Hid ((v + 1 + 0) * 16 ≤ 140737488355328) := Lib.hid (by omega)
      have H12 : Hid ((2 : Nat) = 1 * 2) := Lib.hid rfl
      go_wp2
      go_region_law (first
        | (refine step_append_own rfl (.tmp 36) (.tmp 39) _ rfl w4.heap.size 38 i0 _ 2 16 Tryd.underlying25 H1 H2 H3 H4 rfl H20.out (.slice (some ⟨w4.heap.size, 0, none⟩) 0 0) 0 [] rfl LIT.out ⟨g, 0, none⟩ v _ (flat insC (zs.take v)) rfl HF1.out HN1.out (ins_all1 _) HM1.out HM2.out HB1.out (fun v5 w5 g5 h5 _ => ?_); rw [Nat.zero_add, List.nil_append] at g5; obtain ⟨a5, c5, rfl⟩ := wk_slice g5; have G5 := Lib.hid g5; obtain ⟨z5, d5, e5, s5⟩ := HZ5.out _ h5; have S5 := Lib.hid s5; have LZ5 := Lib.hid z5; have HD5 := Lib.hid d5; have HG5 := Lib.hid e5; clear g5 h5 z5 d5 e5 s5)
        | (refine step_append_own rfl (.tmp 40) (.tmp 43) _ rfl w4.heap.size 38 i0 _ 2 16 Tryd.underlying25 H1 H2 H3 H4 rfl H20.out (.slice a5 v c5) v (flat insC (zs.take v)) rfl G6.out ⟨w6.heap.size, 0, none⟩ 1 1 [.int .i64 n, .int .i64 a] rfl rfl (by simpa using cell_two_nw w6 (.int .i64 n) (.int .i64 a) 38) (by simp [Value.oneCell']) HM5.out HM6.out S6.out (fun v7 w7 g7 h7 _ => ?_); obtain ⟨a7, c7, rfl⟩ := wk_slice g7; have G7 := Lib.hid g7; have S7 := Lib.hid (Nat.le_trans S6.out h7.size); have LZ7 := Lib.hid (LZA.out.grown h7 (fun b o e q => by injection e with e; injection e with e; have := (G6.out.lt b q).1; have := HGF.out; omega)); have HD7 := Lib.hid (HDA.out.rowB h7 (T := w4.heap.size) (fun e he => (G6.out.lt e he).1) HPP4.out HLO4.out); have HG7 := Lib.hid (grown_new HGA.out h7 (fun q hq => Nat.le_trans HB4.out (G6.out.lt q hq).1)); clear g7 h7)
        | (refine step_append_own rfl (.tmp 44) (.tmp 47) _ rfl w4.heap.size 38 i0 _ 2 16 Tryd.underlying25 H1 H2 H3 H4 rfl H20.out (.slice a7 (v + 1) c7) (v + 1) (flat insC (zs.take v) ++ [.int .i64 n, .int .i64 a]) rfl G7.out ⟨g, 0, none⟩ 0 _ (flat insC (zs.drop v)) rfl HF2.out (by intro j u hj; rw [HE0.out] at hj; simp [flat] at hj) (ins_all1 _) HM3.out HM4.out S7.out (fun v8 w8 g8 h8 _ => ?_); obtain ⟨a8, c8, rfl⟩ := wk_slice g8; have G8 := Lib.hid g8; have H8 := Lib.hid h8; clear g8 h8)
        | (go_simp; go_at_call 39; refine Calls.mono (instr_any B p (N + 14009) w5 HD5.out.src (by omega)) ?_; rintro e w6 ⟨n, a, rfl, _, hS, hg⟩; have HGF : Hid (g < w4.heap.size) := Lib.hid hg4; have G6 := Lib.hid ((G5.out.kept hg (Or.inr (own_above G5.out HPP4.out))).alloc (.cells #[.int .i64 n, .int .i64 a] 38)); have LZA := Lib.hid ((LZ5.out.grown hg (fun b o e q => by injection e with e; injection e with e; injection q with q; omega)).below (bel_al w6 (.cells #[.int .i64 n, .int .i64 a] 38)) (Nat.le_refl _)); have HDA := Lib.hid ((HD5.out.step hS hg).al (.cells #[.int .i64 n, .int .i64 a] 38)); have HGA := Lib.hid (grown_al (grown_tr HG5.out hg) (.cells #[.int .i64 n, .int .i64 a] 38)); have S6 := Lib.hid (Nat.le_trans S5.out (Nat.le_trans hg.size (bel_al w6 (.cells #[.int .i64 n, .int .i64 a] 38)).size)); clear hS hg)
        | (trace_state; fail))
      all_goals
        have HO8 : Hid (w8.ownsRow w4.heap.size 38 2 (.slice a8 (v + 1 + 0) c8) (v + 1 + 0) (flat insC (zs.take v ++ [(n, a)] ++ zs.drop v))) := Lib.hid (own_cast G8.out rfl (by rw [flat_app, flat_snoc]; rfl))
        have hl8 : (zs.take v ++ [(n, a)] ++ zs.drop v).length = v + 1 + 0 := by rw [List.length_append, List.length_append, List.length_take, List.length_drop, HL.out]; simp; try omega
        have HD8 := Lib.hid (HD7.out.rowB H8.out (T := w4.heap.size) (fun e he => (G7.out.lt e he).1) HPP4.out HLO4.out)
        have HG8 := Lib.hid (grown_new HG7.out H8.out (fun q hq => Nat.le_trans HB4.out (G7.out.lt q hq).1))
        have hpp4 := HPP4.out
        have L8 : Hid (LP w8 p a8 (flat insC (zs.take v ++ [(n, a)] ++ zs.drop v))) := Lib.hid ⟨lies_own HO8.out, fun b o e => by have := (HO8.out.lt b (by rw [e]; rfl)).1; omega⟩
        have hmc : (v + 1 + 0) ≤ c8 := own_cap HO8.out
        by_cases hb : 40 < (v + 1 + 0)
        · have hb2 : decide ((40 : Int) < (v : Int) + 1) = true := decide_eq_true (by omega)
          go_wp2_with fail
          refine Calls.mono (chance_dk 3 _ HD8.out (by omega) (by omega) (by omega)) ?_
          rintro e w9 ⟨b9, rfl, hD, hg⟩
          have HD9 := Lib.hid hD
          have HG9 := Lib.hid (grown_tr HG8.out hg)
          have L9 := Lib.hid (L8.out.grown hg)
          clear hD hg
          cases b9
          · go_wp2
            go_ret
            exact ⟨a8, 40, _, ((zs.take v ++ [(n, a)] ++ zs.drop v)).take 40, rfl, by rw [List.length_take, hl8]; omega, by omega, by omega, lies_pre40 L9.out.1, HD9.out.more (by omega), HG9.out⟩
          · go_wp2
            go_ret
            exact ⟨a8, (v + 1 + 0), _, (zs.take v ++ [(n, a)] ++ zs.drop v), rfl, hl8, by omega, hmc, L9.out.1, HD9.out.more (by omega), HG9.out⟩
        · have hb2 : decide ((40 : Int) < (v : Int) + 1) = false := decide_eq_false (by omega)
          go_wp2
          go_ret
          exact ⟨a8, (v + 1 + 0), _, (zs.take v ++ [(n, a)] ++ zs.drop v), rfl, hl8, by omega, hmc, L8.out.1, HD8.out.more (by omega), HG8.out⟩
    · obtain ⟨d, rfl⟩ : ∃ d, m = v + d := ⟨m - (v), by omega⟩
      have hmc := HC.out
      have hvc : (v : Int) ≤ (c : Int) := by omega
      have hv0 : (0 : Int) ≤ (v : Int) := by omega
      have hv1 : (v : Int) ≤ (v : Int) + (d : Int) := by omega
      have hg4 : g < w4.heap.size := (HO4.out.lt g rfl).2
      have hb4 : w.heap.size ≤ w4.heap.size := HG4.out.size
      have LIT : Hid ((w4.alloc (.cells #[] 38)).drew.ownsRow w4.heap.size 38 2 (.slice (some ⟨w4.heap.size, 0, none⟩) 0 0) 0 []) := Lib.hid (World.ownsRow_lit (base := w4.heap.size) w4 #[] 0 (Nat.le_refl _) (Nat.zero_le _) rfl)
      have LZ0 : Hid (Lies (w4.alloc (.cells #[] 38)).drew (some ⟨g, 0, none⟩) (flat insC zs)) := Lib.hid (((lies_own HO4.out).below (bel_al w4 (.cells #[] 38)) (Nat.le_refl _)).grown (grown_drew _ none) (by intro b o e q; cases q))
      have HD0 : Hid (DK (w4.alloc (.cells #[] 38)).drew B p (N + 14009) k ks) := Lib.hid ((HD4.out.al (.cells #[] 38)).step ((HD4.out.al (.cells #[] 38)).src.grown (grown_drew _ none) (by intro e; cases e) (by intro k e; cases e)) (grown_drew _ _))
      have HG0 : Hid (w.grownBy (w4.alloc (.cells #[] 38)).drew (some p)) := Lib.hid (grown_tr (grown_al HG4.out _) (grown_drew _ _))
      have HF1 : Hid ((flat insC (zs.take v)).length = v * 2) := Lib.hid (by rw [flat_len insC_len, List.length_take, HL.out]; omega)
      have HN1 := Lib.hid (lies_to LZ0.out v)
      have HM1 : Hid (0 + v ≤ maxLen) := Lib.hid (by unfold maxLen; omega)
      have HM2 : Hid ((0 + v) * 16 ≤ 140737488355328) := Lib.hid (by omega)
      have HB1 : Hid (w4.heap.size ≤ (w4.alloc (.cells #[] 38)).drew.heap.size) := Lib.hid (bel_al w4 (.cells #[] 38)).size
      have HB4 := Lib.hid hb4
      have HPP4 : Hid (p < w4.heap.size) := Lib.hid (by omega)
      have HLO4 : Hid (∀ b o, k = some (⟨b, o, none⟩ : Addr) → b < w4.heap.size) := Lib.hid (fun b o e => by have := HLO.out b o e; omega)
      have HLL : Hid (w4.heap.size = w4.heap.size) := Lib.hid rfl
      have HZ5 : Hid (∀ w5, (w4.alloc (.cells #[] 38)).drew.grownBy w5 (Value.ownBlock (.slice (some ⟨w4.heap.size, 0, none⟩) 0 0)) → Lies w5 (some ⟨g, 0, none⟩) (flat insC zs) ∧ DK w5 B p (N + 14009) k ks ∧ w.grownBy w5 (some p) ∧ w4.heap.size ≤ w5.heap.size) :=
        Lib.hid (fun w5 h => ⟨LZ0.out.grown h (fun b o e q => by injection e with e; injection e with e; injection q with q; have : w4.heap.size = b := q; omega), HD0.out.rowB h (T := w.heap.size) (fun q e => by injection e with e; have : w4.heap.size = q := e; omega) hpp HLO.out, grown_new HG0.out h (fun q e => by injection e with e; have : w4.heap.size = q := e; omega), Nat.le_trans (bel_al w4 (.cells #[] 38)).size h.size⟩)
      have H20 : Hid (0 < 2) := Lib.hid (by decide)
      obtain ⟨H1, H2, H3, H4⟩ := HI.out
      have HZL : Hid (v ≤ zs.length) := Lib.hid (by rw [HL.out]; omega)
      have HF2 : Hid ((flat insC (zs.drop v)).length = d * 2) := Lib.hid (by rw [flat_len insC_len, List.length_drop, HL.out]; omega)
      have HM5 : Hid (v + 1 ≤ maxLen) := Lib.hid (by unfold maxLen; omega)
      have HM6 : Hid ((v + 1) * 16 ≤ 140737488355328) := Lib.hid (by omega)
      have HM3 : Hid (v + 1 + d ≤ maxLen) := Lib.hid (by unfold maxLen; omega)
      have HM4 : Hid ((v + 1 + d) * 16 ≤ 140737488355328) := Lib.hid (by omega)
      have H12 : Hid ((2 : Nat) = 1 * 2) := Lib.hid rfl
      go_wp2
      go_region_law (first
        | (refine step_append_own rfl (.tmp 36) (.tmp 39) _ rfl w4.heap.size 38 i0 _ 2 16 Tryd.underlying25 H1 H2 H3 H4 rfl H20.out (.slice (some ⟨w4.heap.size, 0, none⟩) 0 0) 0 [] rfl LIT.out ⟨g, 0, none⟩ v _ (flat insC (zs.take v)) rfl HF1.out HN1.out (ins_all1 _) HM1.out HM2.out HB1.out (fun v5 w5 g5 h5 _ => ?_); rw [Nat.zero_add, List.nil_append] at g5; obtain ⟨a5, c5, rfl⟩ := wk_slice g5; have G5 := Lib.hid g5; obtain ⟨z5, d5, e5, s5⟩ := HZ5.out _ h5; have S5 := Lib.hid s5; have LZ5 := Lib.hid z5; have HD5 := Lib.hid d5; have HG5 := Lib.hid e5; clear g5 h5 z5 d5 e5 s5)
        | (refine step_append_own rfl (.tmp 40) (.tmp 43) _ rfl w4.heap.size 38 i0 _ 2 16 Tryd.underlying25 H1 H2 H3 H4 rfl H20.out (.slice a5 v c5) v (flat insC (zs.take v)) rfl G6.out ⟨w6.heap.size, 0, none⟩ 1 1 [.int .i64 n, .int .i64 a] rfl rfl (by simpa using cell_two_nw w6 (.int .i64 n) (.int .i64 a) 38) (by simp [Value.oneCell']) HM5.out HM6.out S6.out (fun v7 w7 g7 h7 _ => ?_); obtain ⟨a7, c7, rfl⟩ := wk_slice g7; have G7 := Lib.hid g7; have S7 := Lib.hid (Nat.le_trans S6.out h7.size); have LZ7 := Lib.hid (LZA.out.grown h7 (fun b o e q => by injection e with e; injection e with e; have := (G6.out.lt b q).1; have := HGF.out; omega)); have HD7 := Lib.hid (HDA.out.rowB h7 (T := w4.heap.size) (fun e he => (G6.out.lt e he).1) HPP4.out HLO4.out); have HG7 := Lib.hid (grown_new HGA.out h7 (fun q hq => Nat.le_trans HB4.out (G6.out.lt q hq).1)); clear g7 h7)
        | (refine step_append_own rfl (.tmp 44) (.tmp 47) _ rfl w4.heap.size 38 i0 _ 2 16 Tryd.underlying25 H1 H2 H3 H4 rfl H20.out (.slice a7 (v + 1) c7) (v + 1) (flat insC (zs.take v) ++ [.int .i64 n, .int .i64 a]) rfl G7.out ⟨g, v * 2, none⟩ d _ (flat insC (zs.drop v)) rfl HF2.out (lies_from LZ7.out v HZL.out) (ins_all1 _) HM3.out HM4.out S7.out (fun v8 w8 g8 h8 _ => ?_); obtain ⟨a8, c8, rfl⟩ := wk_slice g8; have G8 := Lib.hid g8; have H8 := Lib.hid h8; clear g8 h8)
        | (go_simp; go_at_call 39; refine Calls.mono (instr_any B p (N + 14009) w5 HD5.out.src (by omega)) ?_; rintro e w6 ⟨n, a, rfl, _, hS, hg⟩; have HGF : Hid (g < w4.heap.size) := Lib.hid hg4; have G6 := Lib.hid ((G5.out.kept hg (Or.inr (own_above G5.out HPP4.out))).alloc (.cells #[.int .i64 n, .int .i64 a] 38)); have LZA := Lib.hid ((LZ5.out.grown hg (fun b o e q => by injection e with e; injection e with e; injection q with q; omega)).below (bel_al w6 (.cells #[.int .i64 n, .int .i64 a] 38)) (Nat.le_refl _)); have HDA := Lib.hid ((HD5.out.step hS hg).al (.cells #[.int .i64 n, .int .i64 a] 38)); have HGA := Lib.hid (grown_al (grown_tr HG5.out hg) (.cells #[.int .i64 n, .int .i64 a] 38)); have S6 := Lib.hid (Nat.le_trans S5.out (Nat.le_trans hg.size (bel_al w6 (.cells #[.int .i64 n, .int .i64 a] 38)).size)); clear hS hg)
        | (trace_state; fail))
      all_goals
        have HO8 : Hid (w8.ownsRow w4.heap.size 38 2 (.slice a8 (v + 1 + d) c8) (v + 1 + d) (flat insC (zs.take v ++ [(n, a)] ++ zs.drop v))) := Lib.hid (own_cast G8.out rfl (by rw [flat_app, flat_snoc]; rfl))
        have hl8 : (zs.take v ++ [(n, a)] ++ zs.drop v).length = v + 1 + d := by rw [List.length_append, List.length_append, List.length_take, List.length_drop, HL.out]; simp; try omega
        have HD8 := Lib.hid (HD7.out.rowB H8.out (T := w4.heap.size) (fun e he => (G7.out.lt e he).1) HPP4.out HLO4.out)
        have HG8 := Lib.hid (grown_new HG7.out H8.out (fun q hq => Nat.le_trans HB4.out (G7.out.lt q hq).1))
        have hpp4 := HPP4.out
        have L8 : Hid (LP w8 p a8 (flat insC (zs.take v ++ [(n, a)] ++ zs.drop v))) := Lib.hid ⟨lies_own HO8.out, fun b o e => by have := (HO8.out.lt b (by rw [e]; rfl)).1; omega⟩
        have hmc : (v + 1 + d) ≤ c8 := own_cap HO8.out
        by_cases hb : 40 < (v + 1 + d)
        · have hb2 : decide ((40 : Int) < (v : Int) + 1 + (d : Int)) = true := decide_eq_true (by omega)
          go_wp2_with fail
          refine Calls.mono (chance_dk 3 _ HD8.out (by omega) (by omega) (by omega)) ?_
          rintro e w9 ⟨b9, rfl, hD, hg⟩
          have HD9 := Lib.hid hD
          have HG9 := Lib.hid (grown_tr HG8.out hg)
          have L9 := Lib.hid (L8.out.grown hg)
          clear hD hg
          cases b9
          · go_wp2
            go_ret
            exact ⟨a8, 40, _, ((zs.take v ++ [(n, a)] ++ zs.drop v)).take 40, rfl, by rw [List.length_take, hl8]; omega, by omega, by omega, lies_pre40 L9.out.1, HD9.out.more (by omega), HG9.out⟩
          · go_wp2
            go_ret
            exact ⟨a8, (v + 1 + d), _, (zs.take v ++ [(n, a)] ++ zs.drop v), rfl, hl8, by omega, hmc, L9.out.1, HD9.out.more (by omega), HG9.out⟩
        · have hb2 : decide ((40 : Int) < (v : Int) + 1 + (d : Int)) = false := decide_eq_false (by omega)
          go_wp2
          go_ret
          exact ⟨a8, (v + 1 + d), _, (zs.take v ++ [(n, a)] ++ zs.drop v), rfl, hl8, by omega, hmc, L8.out.1, HD8.out.more (by omega), HG8.out⟩
  have hb1 : (t == 1) = false := beq_eq_false_iff_ne.2 e1
  by_cases e2 : t = 2
  · subst e2
    by_cases hv : v < m
    · by_cases hcv : c = v + 1
      · obtain ⟨d, rfl⟩ : ∃ d, m = v + 1 + d := ⟨m - (v + 1), by omega⟩
        have hmc := HC.out
        have hvc : (v : Int) ≤ (c : Int) := by omega
        have hv0 : (0 : Int) ≤ (v : Int) := by omega
        have hv2 : (0 : Int) ≤ (v : Int) + 1 := by omega
        have hv3 : ((v : Int) + 1).toNat = v + 1 := by omega
        have hv4 : IntKind.i64.wrap ((v : Int) + 1) = (v : Int) + 1 := IntWalk.i64_in _ (by omega)
        have hv1 : (v : Int) + 1 ≤ (v : Int) + 1 + (d : Int) := by omega
        have hg4 : g < w4.heap.size := (HO4.out.lt g rfl).2
        have hb4 : w.heap.size ≤ w4.heap.size := HG4.out.size
        have LIT : Hid ((w4.alloc (.cells #[] 38)).drew.ownsRow w.heap.size 38 2 (.slice (some ⟨w4.heap.size, 0, none⟩) 0 0) 0 []) := Lib.hid (World.ownsRow_lit (base := w.heap.size) w4 #[] 0 hb4 (Nat.zero_le _) rfl)
        have LZ0 : Hid (Lies (w4.alloc (.cells #[] 38)).drew (some ⟨g, 0, none⟩) (flat insC zs)) := Lib.hid (((lies_own HO4.out).below (bel_al w4 (.cells #[] 38)) (Nat.le_refl _)).grown (grown_drew _ none) (by intro b o e q; cases q))
        have HD0 : Hid (DK (w4.alloc (.cells #[] 38)).drew B p (N + 14009) k ks) := Lib.hid ((HD4.out.al (.cells #[] 38)).step ((HD4.out.al (.cells #[] 38)).src.grown (grown_drew _ none) (by intro e; cases e) (by intro k e; cases e)) (grown_drew _ _))
        have HG0 : Hid (w.grownBy (w4.alloc (.cells #[] 38)).drew (some p)) := Lib.hid (grown_tr (grown_al HG4.out _) (grown_drew _ _))
        have HF1 : Hid ((flat insC (zs.take v)).length = v * 2) := Lib.hid (by rw [flat_len insC_len, List.length_take, HL.out]; omega)
        have HN1 := Lib.hid (lies_to LZ0.out v)
        have HM1 : Hid (0 + v ≤ maxLen) := Lib.hid (by unfold maxLen; omega)
        have HM2 : Hid ((0 + v) * 16 ≤ 140737488355328) := Lib.hid (by omega)
        have HB1 : Hid (w.heap.size ≤ (w4.alloc (.cells #[] 38)).drew.heap.size) := Lib.hid HG0.out.size
        have HLL : Hid (w4.heap.size = w4.heap.size) := Lib.hid rfl
        have HZ5 : Hid (∀ w5, (w4.alloc (.cells #[] 38)).drew.grownBy w5 (Value.ownBlock (.slice (some ⟨w4.heap.size, 0, none⟩) 0 0)) → Lies w5 (some ⟨g, 0, none⟩) (flat insC zs) ∧ DK w5 B p (N + 14009) k ks ∧ w.grownBy w5 (some p) ∧ w4.heap.size ≤ w5.heap.size) :=
          Lib.hid (fun w5 h => ⟨LZ0.out.grown h (fun b o e q => by injection e with e; injection e with e; injection q with q; have : w4.heap.size = b := q; omega), HD0.out.rowB h (T := w.heap.size) (fun q e => by injection e with e; have : w4.heap.size = q := e; omega) hpp HLO.out, grown_new HG0.out h (fun q e => by injection e with e; have : w4.heap.size = q := e; omega), Nat.le_trans (bel_al w4 (.cells #[] 38)).size h.size⟩)
        have H20 : Hid (0 < 2) := Lib.hid (by decide)
        obtain ⟨H1, H2, H3, H4⟩ := HI.out
        obtain rfl : d = 0 := by omega
        obtain rfl : c = v + 1 := by omega
        have hq1 : (v : Int) ≤ (v : Int) + 1 := by omega
        have hq2 : (v : Int) + 1 ≤ (v : Int) + 1 := by omega
        have HZL : Hid (v + 1 ≤ zs.length) := Lib.hid (by rw [HL.out]; omega)
        have HF2 : Hid ((flat insC (zs.drop (v + 1))).length = 0 * 2) := Lib.hid (by rw [flat_len insC_len, List.length_drop, HL.out]; omega)
        have HE0 : Hid (zs.drop (v + 1) = []) := Lib.hid (List.drop_eq_nil_of_le (by rw [HL.out]; omega))
        have HM3 : Hid (v + 0 ≤ maxLen) := Lib.hid (by unfold maxLen; omega)
        have HM4 : Hid ((v + 0) * 16 ≤ 140737488355328) := Lib.hid (by omega)
        go_wp2
        go_region_law (first
          | (refine step_append_own rfl (.tmp 55) (.tmp 58) _ rfl w.heap.size 38 i0 _ 2 16 Tryd.underlying25 H1 H2 H3 H4 rfl H20.out (.slice (some ⟨w4.heap.size, 0, none⟩) 0 0) 0 [] rfl LIT.out ⟨g, 0, none⟩ v _ (flat insC (zs.take v)) rfl HF1.out HN1.out (ins_all1 _) HM1.out HM2.out HB1.out (fun v5 w5 g5 h5 _ => ?_); rw [Nat.zero_add, List.nil_append] at g5; obtain ⟨a5, c5, rfl⟩ := wk_slice g5; have G5 := Lib.hid g5; obtain ⟨z5, d5, e5, s5⟩ := HZ5.out _ h5; have S5 := Lib.hid s5; have LZ5 := Lib.hid z5; have HD5 := Lib.hid d5; have HG5 := Lib.hid e5; clear g5 h5 z5 d5 e5 s5)
          | (refine step_append_own rfl (.tmp 59) (.tmp 63) _ rfl w.heap.size 38 i0 _ 2 16 Tryd.underlying25 H1 H2 H3 H4 rfl H20.out (.slice a5 v c5) v (flat insC (zs.take v)) rfl G5.out ⟨g, 0, none⟩ 0 _ (flat insC (zs.drop (v + 1))) rfl HF2.out (by intro j u hj; rw [HE0.out] at hj; simp [flat] at hj) (ins_all1 _) HM3.out HM4.out HG5.out.size (fun v6 w6 g6 h6 _ => ?_); obtain ⟨a6, c6, rfl⟩ := wk_slice g6; have G6 := Lib.hid g6; have H6 := Lib.hid h6; clear g6 h6))
        all_goals
          have HO6 : Hid (w6.ownsRow w.heap.size 38 2 (.slice a6 (v + 0) c6) (v + 0) (flat insC (zs.take v ++ zs.drop (v + 1)))) := Lib.hid (own_cast G6.out rfl (by rw [flat_app]))
          have hl6 : (zs.take v ++ zs.drop (v + 1)).length = v + 0 := by rw [List.length_append, List.length_take, List.length_drop, HL.out]; omega
          have HD6 := Lib.hid (HD5.out.rowB H6.out (T := w.heap.size) (fun e he => (G5.out.lt e he).1) hpp HLO.out)
          have HG6 := Lib.hid (grown_new HG5.out H6.out (fun q hq => (G5.out.lt q hq).1))
          have hd : decide ((40 : Int) < (v : Int) + (0 : Int)) = false := decide_eq_false (by omega)
          go_wp2
          go_ret
          exact ⟨a6, v + 0, c6, zs.take v ++ zs.drop (v + 1), rfl, hl6, by omega, own_cap HO6.out, lies_own HO6.out, HD6.out.more (by omega), HG6.out⟩
      · obtain ⟨d, rfl⟩ : ∃ d, m = v + 1 + d := ⟨m - (v + 1), by omega⟩
        have hmc := HC.out
        have hvc : (v : Int) ≤ (c : Int) := by omega
        have hv0 : (0 : Int) ≤ (v : Int) := by omega
        have hv2 : (0 : Int) ≤ (v : Int) + 1 := by omega
        have hv3 : ((v : Int) + 1).toNat = v + 1 := by omega
        have hv4 : IntKind.i64.wrap ((v : Int) + 1) = (v : Int) + 1 := IntWalk.i64_in _ (by omega)
        have hv1 : (v : Int) + 1 ≤ (v : Int) + 1 + (d : Int) := by omega
        have hg4 : g < w4.heap.size := (HO4.out.lt g rfl).2
        have hb4 : w.heap.size ≤ w4.heap.size := HG4.out.size
        have LIT : Hid ((w4.alloc (.cells #[] 38)).drew.ownsRow w.heap.size 38 2 (.slice (some ⟨w4.heap.size, 0, none⟩) 0 0) 0 []) := Lib.hid (World.ownsRow_lit (base := w.heap.size) w4 #[] 0 hb4 (Nat.zero_le _) rfl)
        have LZ0 : Hid (Lies (w4.alloc (.cells #[] 38)).drew (some ⟨g, 0, none⟩) (flat insC zs)) := Lib.hid (((lies_own HO4.out).below (bel_al w4 (.cells #[] 38)) (Nat.le_refl _)).grown (grown_drew _ none) (by intro b o e q; cases q))
        have HD0 : Hid (DK (w4.alloc (.cells #[] 38)).drew B p (N + 14009) k ks) := Lib.hid ((HD4.out.al (.cells #[] 38)).step ((HD4.out.al (.cells #[] 38)).src.grown (grown_drew _ none) (by intro e; cases e) (by intro k e; cases e)) (grown_drew _ _))
        have HG0 : Hid (w.grownBy (w4.alloc (.cells #[] 38)).drew (some p)) := Lib.hid (grown_tr (grown_al HG4.out _) (grown_drew _ _))
        have HF1 : Hid ((flat insC (zs.take v)).length = v * 2) := Lib.hid (by rw [flat_len insC_len, List.length_take, HL.out]; omega)
        have HN1 := Lib.hid (lies_to LZ0.out v)
        have HM1 : Hid (0 + v ≤ maxLen) := Lib.hid (by unfold maxLen; omega)
        have HM2 : Hid ((0 + v) * 16 ≤ 140737488355328) := Lib.hid (by omega)
        have HB1 : Hid (w.heap.size ≤ (w4.alloc (.cells #[] 38)).drew.heap.size) := Lib.hid HG0.out.size
        have HLL : Hid (w4.heap.size = w4.heap.size) := Lib.hid rfl
        have HZ5 : Hid (∀ w5, (w4.alloc (.cells #[] 38)).drew.grownBy w5 (Value.ownBlock (.slice (some ⟨w4.heap.size, 0, none⟩) 0 0)) → Lies w5 (some ⟨g, 0, none⟩) (flat insC zs) ∧ DK w5 B p (N + 14009) k ks ∧ w.grownBy w5 (some p) ∧ w4.heap.size ≤ w5.heap.size) :=
          Lib.hid (fun w5 h => ⟨LZ0.out.grown h (fun b o e q => by injection e with e; injection e with e; injection q with q; have : w4.heap.size = b := q; omega), HD0.out.rowB h (T := w.heap.size) (fun q e => by injection e with e; have : w4.heap.size = q := e; omega) hpp HLO.out, grown_new HG0.out h (fun q e => by injection e with e; have : w4.heap.size = q := e; omega), Nat.le_trans (bel_al w4 (.cells #[] 38)).size h.size⟩)
        have H20 : Hid (0 < 2) := Lib.hid (by decide)
        obtain ⟨H1, H2, H3, H4⟩ := HI.out
        have HZL : Hid (v + 1 ≤ zs.length) := Lib.hid (by rw [HL.out]; omega)
        have HF2 : Hid ((flat insC (zs.drop (v + 1))).length = d * 2) := Lib.hid (by rw [flat_len insC_len, List.length_drop, HL.out]; omega)
        have HM3 : Hid (v + d ≤ maxLen) := Lib.hid (by unfold maxLen; omega)
        have HM4 : Hid ((v + d) * 16 ≤ 140737488355328) := Lib.hid (by omega)
        go_wp2
        go_region_law (first
          | (refine step_append_own rfl (.tmp 55) (.tmp 58) _ rfl w.heap.size 38 i0 _ 2 16 Tryd.underlying25 H1 H2 H3 H4 rfl H20.out (.slice (some ⟨w4.heap.size, 0, none⟩) 0 0) 0 [] rfl LIT.out ⟨g, 0, none⟩ v _ (flat insC (zs.take v)) rfl HF1.out HN1.out (ins_all1 _) HM1.out HM2.out HB1.out (fun v5 w5 g5 h5 _ => ?_); rw [Nat.zero_add, List.nil_append] at g5; obtain ⟨a5, c5, rfl⟩ := wk_slice g5; have G5 := Lib.hid g5; obtain ⟨z5, d5, e5, s5⟩ := HZ5.out _ h5; have S5 := Lib.hid s5; have LZ5 := Lib.hid z5; have HD5 := Lib.hid d5; have HG5 := Lib.hid e5; clear g5 h5 z5 d5 e5 s5)
          | (refine step_append_own rfl (.tmp 59) (.tmp 63) _ rfl w.heap.size 38 i0 _ 2 16 Tryd.underlying25 H1 H2 H3 H4 rfl H20.out (.slice a5 v c5) v (flat insC (zs.take v)) rfl G5.out ⟨g, (v + 1) * 2, none⟩ d _ (flat insC (zs.drop (v + 1))) rfl HF2.out (lies_from LZ5.out (v + 1) HZL.out) (ins_all1 _) HM3.out HM4.out HG5.out.size (fun v6 w6 g6 h6 _ => ?_); obtain ⟨a6, c6, rfl⟩ := wk_slice g6; have G6 := Lib.hid g6; have H6 := Lib.hid h6; clear g6 h6))
        all_goals
          have HO6 : Hid (w6.ownsRow w.heap.size 38 2 (.slice a6 (v + d) c6) (v + d) (flat insC (zs.take v ++ zs.drop (v + 1)))) := Lib.hid (own_cast G6.out rfl (by rw [flat_app]))
          have hl6 : (zs.take v ++ zs.drop (v + 1)).length = v + d := by rw [List.length_append, List.length_take, List.length_drop, HL.out]; omega
          have HD6 := Lib.hid (HD5.out.rowB H6.out (T := w.heap.size) (fun e he => (G5.out.lt e he).1) hpp HLO.out)
          have HG6 := Lib.hid (grown_new HG5.out H6.out (fun q hq => (G5.out.lt q hq).1))
          have hd : decide ((40 : Int) < (v : Int) + (d : Int)) = false := decide_eq_false (by omega)
          go_wp2
          go_ret
          exact ⟨a6, v + d, c6, zs.take v ++ zs.drop (v + 1), rfl, hl6, by omega, own_cap HO6.out, lies_own HO6.out, HD6.out.more (by omega), HG6.out⟩
    · go_wp2
      go_ret
      exact ⟨_, m, _, zs, rfl, HL.out, by omega, HC.out, L4.out.1, HD4.out.more (by omega), HG4.out⟩
  have hb2 : (t == 2) = false := beq_eq_false_iff_ne.2 e2
  obtain rfl : t = 3 := by omega
  have hp4 := HD4.out.plt
  go_wp2_with fail
  refine Calls.mono (next_dk 6 _ (HD4.out.al _) (by omega) (by omega) (by omega)) ?_
  rintro e w5 ⟨u, rfl, u0, u1, hD, hg⟩
  obtain ⟨u, rfl⟩ := Int.eq_ofNat_of_zero_le u0
  have HD5 := Lib.hid hD
  have HG5 := Lib.hid (grown_tr (grown_al HG4.out _) hg)
  have HO5 := Lib.hid ((HO4.out.alloc _).kept hg (Or.inr (own_above HO4.out hpp)))
  have hf := five_in hg hp4 u
  have hsz := HG5.out.size
  clear hD hg
  obtain ⟨H1, H2, H3, H4⟩ := HI.out
  have hfl : (flat insC ((List.replicate 5 ((24 : Int), (2 : Int))).take u)).length = u * 2 := by rw [flat_len insC_len, List.length_take, List.length_replicate]; omega
  have HF := Lib.hid hf
  clear hf
  by_cases hb : 40 < (m + u)
  · have hb2 : decide ((40 : Int) < (m : Int) + (u : Int)) = true := decide_eq_true (by omega)
    go_wp2_with (at_builtin; go_must (refine wpList_append_own _ rfl (.tmp 67) (.tmp 76) _ rfl w.heap.size 38 i0 _ 2 16 Tryd.underlying25 H1 H2 H3 H4 rfl (by decide) (.slice (some ⟨g, 0, none⟩) m c) m (flat insC zs) rfl HO5.out ⟨w4.heap.size, 0, none⟩ u 5 (flat insC ((List.replicate 5 ((24 : Int), (2 : Int))).take u)) rfl hfl HF.out (ins_all1 _) (by unfold maxLen; omega) (by omega) hsz ?_); intro v3 w6 g3 g4 _; obtain ⟨a6, c6, hv3⟩ := own_slice g3; subst hv3)
    have HO6 : Hid (w6.ownsRow w.heap.size 38 2 (.slice a6 (m + u) c6) (m + u) (flat insC (zs ++ (List.replicate 5 ((24 : Int), (2 : Int))).take u))) := Lib.hid (own_cast g3 rfl (by rw [flat_app]))
    have hl6 : (zs ++ (List.replicate 5 ((24 : Int), (2 : Int))).take u).length = m + u := by rw [List.length_append, HL.out, List.length_take, List.length_replicate]; omega
    have HD6 := Lib.hid (HD5.out.rowB g4 (T := w.heap.size) (fun e he => (HO5.out.lt e he).1) hpp HLO.out)
    have HG6 := Lib.hid (grown_new HG5.out g4 (fun q hq => (HO5.out.lt q hq).1))
    have L6 : Hid (LP w6 p a6 (flat insC (zs ++ (List.replicate 5 ((24 : Int), (2 : Int))).take u))) := Lib.hid ⟨lies_own HO6.out, fun b o e => by have := (HO6.out.lt b (by rw [e]; rfl)).1; omega⟩
    clear g3 g4
    have hmc : (m + u) ≤ c6 := own_cap HO6.out
    go_wp2_with fail
    refine Calls.mono (chance_dk 3 _ HD6.out (by omega) (by omega) (by omega)) ?_
    rintro e w9 ⟨b9, rfl, hD, hg⟩
    have HD9 := Lib.hid hD
    have HG9 := Lib.hid (grown_tr HG6.out hg)
    have L9 := Lib.hid (L6.out.grown hg)
    clear hD hg
    cases b9
    · go_wp2
      go_ret
      exact ⟨a6, 40, _, ((zs ++ (List.replicate 5 ((24 : Int), (2 : Int))).take u)).take 40, rfl, by rw [List.length_take, hl6]; omega, by omega, by omega, lies_pre40 L9.out.1, HD9.out.more (by omega), HG9.out⟩
    · go_wp2
      go_ret
      exact ⟨a6, (m + u), _, (zs ++ (List.replicate 5 ((24 : Int), (2 : Int))).take u), rfl, hl6, by omega, hmc, L9.out.1, HD9.out.more (by omega), HG9.out⟩
  · have hb2 : decide ((40 : Int) < (m : Int) + (u : Int)) = false := decide_eq_false (by omega)
    go_wp2_with (at_builtin; go_must (refine wpList_append_own _ rfl (.tmp 67) (.tmp 76) _ rfl w.heap.size 38 i0 _ 2 16 Tryd.underlying25 H1 H2 H3 H4 rfl (by decide) (.slice (some ⟨g, 0, none⟩) m c) m (flat insC zs) rfl HO5.out ⟨w4.heap.size, 0, none⟩ u 5 (flat insC ((List.replicate 5 ((24 : Int), (2 : Int))).take u)) rfl hfl HF.out (ins_all1 _) (by unfold maxLen; omega) (by omega) hsz ?_); intro v3 w6 g3 g4 _; obtain ⟨a6, c6, hv3⟩ := own_slice g3; subst hv3)
    have HO6 : Hid (w6.ownsRow w.heap.size 38 2 (.slice a6 (m + u) c6) (m + u) (flat insC (zs ++ (List.replicate 5 ((24 : Int), (2 : Int))).take u))) := Lib.hid (own_cast g3 rfl (by rw [flat_app]))
    have hl6 : (zs ++ (List.replicate 5 ((24 : Int), (2 : Int))).take u).length = m + u := by rw [List.length_append, HL.out, List.length_take, List.length_replicate]; omega
    have HD6 := Lib.hid (HD5.out.rowB g4 (T := w.heap.size) (fun e he => (HO5.out.lt e he).1) hpp HLO.out)
    have HG6 := Lib.hid (grown_new HG5.out g4 (fun q hq => (HO5.out.lt q hq).1))
    have L6 : Hid (LP w6 p a6 (flat insC (zs ++ (List.replicate 5 ((24 : Int), (2 : Int))).take u))) := Lib.hid ⟨lies_own HO6.out, fun b o e => by have := (HO6.out.lt b (by rw [e]; rfl)).1; omega⟩
    clear g3 g4
    have hmc : (m + u) ≤ c6 := own_cap HO6.out
    go_ret
    exact ⟨a6, (m + u), _, (zs ++ (List.replicate 5 ((24 : Int), (2 : Int))).take u), rfl, hl6, by omega, hmc, L6.out.1, HD6.out.more (by omega), HG6.out⟩
def DCP (w : World) (e : Ending) (w' : World) : Prop :=
  ∃ (a : Option Addr) (m c : Nat) (zs : List Ins), e = .returned (.slice a m c) ∧ zs.length = m ∧ m ≤ 40 ∧ m ≤ c ∧ Lies w' a (flat insC zs) ∧ Below w.heap.size w w'
theorem doubtCode_any (a : Option Addr) (n c : Nat) (k : Option Addr) (kc : Nat) (ks : List Int) (r : Int) (w : World) (h : Bytes0 w w.heap.size a n) (hz : Lies w k (kC ks)) (hlo : ∀ b o, k = some (⟨b, o, none⟩ : Addr) → b < w.heap.size) (hk : ks.length ≤ 8) (hkb : ks.all kindB = true) (hr0 : 0 ≤ r) (hr6 : r ≤ 6) :
    Calls Tryd.prog 6 #[.slice a n c, .slice k ks.length kc, .int .i64 r] w (DCP w) := by
  have H := Lib.hid h
  have HZ := Lib.hid hz
  have HLO := Lib.hid hlo
  have HK := Lib.hid hkb
  clear h hz hlo hkb
  go_enter Tryd.func6, Tryd.ntmps6
  go_wp2_with fail
  refine (source_any a n c w H.out).mono ?_
  rintro e w1 ⟨rfl, hS, hb⟩
  have hd : DK w1 w.heap.size w.heap.size 0 k ks := ⟨hS, HZ.out.below hb (Nat.le_refl _), fun b o e => by have := HLO.out b o e; omega⟩
  have HD := Lib.hid hd
  have HB := Lib.hid hb
  clear hS hb hd
  go_wp2_with fail
  refine Calls.mono (doubtful_any _ _ 0 k kc ks r _ HD.out (fun b o e => by have := HLO.out b o e; have := HB.out.size; omega) (by omega) hk HK.out hr0 hr6) ?_
  rintro e w2 ⟨a2, m2, c2, zs, rfl, hl, hm, hmc, hlz, _, hg2⟩
  have HL := Lib.hid hl
  have HP := Lib.hid hlz
  have HG := Lib.hid (HB.out.grown hg2 HB.out.size (by intro k hk; cases hk; exact Nat.le_refl _))
  clear hl hlz hg2
  have hc0 : (0 : Int) ≤ (m2 : Int) := by omega
  have hc1 : (m2 : Int) ≤ (c2 : Int) := by omega
  by_cases h40 : m2 ≤ 40
  · have hmin : min (m2 : Int) 40 = (m2 : Int) := by omega
    go_wp2
    go_ret
    exact ⟨a2, m2, c2, zs, rfl, HL.out, h40, hmc, HP.out, HG.out⟩
  · have hmin : min (m2 : Int) 40 = 40 := by omega
    have hc2 : (40 : Int) ≤ (c2 : Int) := by omega
    go_wp2
    go_ret
    exact ⟨a2, 40, c2, zs.take 40, rfl, by rw [List.length_take, HL.out]; omega, by omega, by omega, lies_pre40 HP.out, HG.out⟩
end Go.Proofs.YthhmhglgjeaefaaDoor
