/- Drawn kinds, and drawn code that the verifier takes. -/
import Derived.Test.YthhmhglgjeaefaaDoorStmt
import Derived.Deep.AppendLies
namespace Go.Proofs.YthhmhglgjeaefaaDoor
open Go.ChangeShapes Go.WideShapes Go.ChangeAt Go.RowKit
set_option linter.unusedVariables false
theorem fb_vi' {a b : Int} (h : a = b) : Value.int .i64 a = Value.int .i64 b := by rw [h]
theorem cell_one_nw (w : World) (a : Value) (t : TypeId) : ∀ j u, [a][j]? = some u → (w.alloc (.cells #[a] t)).cell? ((⟨w.heap.size, 0, none⟩ : Addr).add j) = some u := by
  intro j u hj
  match j, hj with
  | 0, hj => simp at hj; subst hj; simp [Addr.add]
  | j + 1, hj => simp at hj
theorem lit_kept {w w' : World} {p size : Nat} {t : TypeId} (hg : (w.alloc (.cells #[] t)).grownBy w' (some p)) (hp : p < w.heap.size) : w'.ownsRow w.heap.size t size (.slice (some ⟨w.heap.size, 0, none⟩) 0 0) 0 [] := by
  have hz : (w.alloc (.cells #[] t)).ownsRow w.heap.size t size (.slice (some ⟨w.heap.size, 0, none⟩) 0 0) 0 [] := World.ownsRow_lit w #[] 0 (Nat.le_refl _) (Nat.zero_le _) (Nat.zero_mul _).symm
  exact hz.kept hg (Or.inr (own_above hz hp))
theorem kindB_of {v : Int} (h0 : 0 ≤ v) (h1 : v ≤ 4 - 1) : kindB (1 + v) = true := by unfold kindB; exact decide_eq_true ⟨by omega, by omega⟩
theorem all_snoc {ks : List Int} {v : Int} (h : ks.all kindB = true) (g : kindB v = true) : (ks ++ [v]).all kindB = true := by rw [List.all_append, h]; simp [g]
/-- No kinds. -/
theorem dk_none {w : World} {B p N : Nat} (h : Src w B p N) : DK w B p N none [] := ⟨h, Lies.nil _ _, by intro b o e; cases e⟩
/-- A row of one's own grows: the source and what lies elsewhere stay. -/
theorem DK.rowB {w w' : World} {B p N T : Nat} {k : Option Addr} {ks : List Int} {row : Option Nat} (h : DK w B p N k ks) (g : w.grownBy w' row) (hp : ∀ q, row = some q → T ≤ q) (ht : p < T) (hb : ∀ b o, k = some (⟨b, o, none⟩ : Addr) → b < T) : DK w' B p N k ks :=
  ⟨h.src.grown g (fun e => by have := hp p e.symm; omega) (fun q e => by have := hp q e; have := h.src.1; omega), h.ks.grown g (fun b o e q => by have := hb b o e; have := hp b q; omega), h.ne⟩
def KindsP (B p N : Nat) (w : World) (e : Ending) (w' : World) : Prop :=
  ∃ (a : Option Addr) (m c : Nat) (ks : List Int), e = .returned (.slice a m c) ∧ ks.length = m ∧ m ≤ 4 ∧ ks.all kindB = true ∧ w'.ownsRow w.heap.size 3 1 (.slice a m c) m (kC ks) ∧ Src w' B p N ∧ w.grownBy w' (some p)
theorem kinds_any (B p N : Nat) (w : World) (h : Src w B p N) (hN : N ≤ 100000) :
    Calls Tryd.prog 19 #[.pointer (some ⟨p, 0, none⟩)] w (KindsP B p (N + 15) w) := by
  have HD := Lib.hid (dk_none h)
  obtain ⟨i0, hi, hz0, hz1, hz2⟩ := info_parts (show (Tryd.prog.info? 3).map (fun i => (i.zero, i.size, i.bytes)) = some (some (.int .i64 0), 1, 8) by kernel_rfl)
  have HI := Lib.hid (And.intro hi (And.intro hz0 (And.intro hz1 hz2)))
  have HP0 := Lib.hid h.2.1
  clear hi hz0 hz1 hz2 h
  go_enter Tryd.func19, Tryd.ntmps19
  go_wp2_with fail
  refine Calls.mono (next_dk 5 _ (HD.out.al _) (by omega) (by omega) (by omega)) ?_
  rintro e w1 ⟨v, rfl, v0, v1, hD, hg⟩
  have HD1 := Lib.hid hD
  have HG1 := Lib.hid (grown_tr (grown_bel (bel_al w _) _) hg)
  have Ho1 : Hid (w1.ownsRow w.heap.size 3 1 (.slice (some ⟨w.heap.size, 0, none⟩) 0 0) 0 (kC [])) := Lib.hid (lit_kept hg HP0.out)
  clear hD hg
  obtain ⟨t, rfl⟩ := Int.eq_ofNat_of_zero_le v0
  go_wp2
  go_loopw [3, 4] (fun v i wr => ∃ (j m q : Nat) (x : Option Addr) (ks : List Int), j ≤ 4 ∧ m + j ≤ 4 ∧ i = .int .i64 j ∧ v = .slice x m q ∧ Hid (ks.length = m) ∧ Hid (ks.all kindB = true) ∧ Hid (wr.ownsRow w.heap.size 3 1 (.slice x m q) m (kC ks)) ∧ Hid (DK wr B p (N + 15 - 3 * j) none []) ∧ Hid (w.grownBy wr (some p))) (fun _ i _ => (intOf i).toNat)
  case atStart => exact ⟨t, 0, 0, _, [], by omega, by omega, rfl, rfl, Lib.hid rfl, Lib.hid rfl, Ho1, Lib.hid (HD1.out.more (by omega)), HG1⟩
  case round =>
    obtain ⟨j, m, q, x, ks, hj, hmj, rfl, rfl, hl, hok, ho, hd, hg⟩ := hrel
    by_cases hlt : 0 < j
    · go_wp2_with fail
      refine Calls.mono (next_dk 4 _ hd.out (by omega) (by omega) (by omega)) ?_
      rintro e w2 ⟨u, rfl, u0, u1, hD, hgn⟩
      have hpp := HP0.out
      have HD2 := Lib.hid hD
      have HG2 := Lib.hid (grown_tr hg.out hgn)
      have Ho2 := Lib.hid (ho.out.kept hgn (Or.inr (own_above ho.out hpp)))
      have hsz := HG2.out.size
      clear hD hgn
      obtain ⟨H1, H2, H3, H4⟩ := HI.out
      go_wp2_with (at_builtin; go_must (refine wpList_append_own _ rfl (.tmp 12) (.tmp 16) _ rfl w.heap.size 3 i0 _ 1 8 Tryd.underlying23 H1 H2 H3 H4 rfl (by decide) (.slice x m q) m (kC ks) rfl (Ho2.out.alloc _) ⟨w2.heap.size, 0, none⟩ 1 1 [.int .i64 (1 + u)] rfl rfl (cell_one_nw w2 _ _) (by simp [Value.oneCell']) (by unfold maxLen; omega) (by omega) (by simp; omega) ?_); intro v3 w3 ho3 hg3 _; obtain ⟨x3, q3, rfl⟩ := wk_slice ho3)
      have HO4 : Hid (w3.ownsRow w.heap.size 3 1 (.slice x3 (m + 1) q3) (m + 1) (kC (ks ++ [1 + u]))) := Lib.hid (by rw [← show kC ks ++ [.int .i64 (1 + u)] = kC (ks ++ [1 + u]) from by simp [kC]]; exact ho3)
      have HL4 : Hid ((ks ++ [1 + u]).length = m + 1) := Lib.hid (by rw [List.length_append, hl.out]; rfl)
      have HK4 := Lib.hid (all_snoc hok.out (kindB_of u0 u1))
      have HD4 : Hid (DK w3 B p (N + 15 - 3 * (j - 1)) none []) := Lib.hid (((HD2.out.al _).rowB hg3 (T := w.heap.size) (fun e he => (Ho2.out.lt e he).1) hpp (by intro b o e; cases e)).more (by omega))
      have HG4 : Hid (w.grownBy w3 (some p)) := Lib.hid (grown_new (grown_al HG2.out _) hg3 (fun q hq => (Ho2.out.lt q hq).1))
      clear ho3 hg3
      go_roundw
      case rel => exact ⟨j - 1, m + 1, q3, x3, ks ++ [1 + u], by omega, by omega, fb_vi' (by omega), rfl, HL4, HK4, HO4, HD4, HG4⟩
      case measure => simp [intOf]; omega
    · obtain rfl : j = 0 := by omega
      go_wp2
      go_ret
      exact ⟨x, m, q, ks, rfl, hl.out, by omega, hok.out, ho.out, hd.out.src.more (by omega), hg.out⟩
def RightP (B p N : Nat) (k : Option Addr) (ks : List Int) (r : Int) (w : World) (e : Ending) (w' : World) : Prop :=
  ∃ (g m c : Nat) (zs : List Ins), e = .returned (.slice (some ⟨g, 0, none⟩) m c) ∧ zs.length = m ∧ m ≤ 40 ∧ Pc ks r zs [] 3 2 ∧ w'.ownsRow w.heap.size 38 2 (.slice (some ⟨g, 0, none⟩) m c) m (flat insC zs) ∧ DK w' B p N k ks ∧ w.grownBy w' (some p)
theorem statement2 {B p N : Nat} {k : Option Addr} (kc : Nat) {ks : List Int} (r : Int) (w : World) (h : DK w B p N k ks) (hN : N ≤ 500000) (hk : ks.length ≤ 8) (hkb : ks.all kindB = true) (hr0 : 0 ≤ r) (hr6 : r ≤ 6) :
    Calls Tryd.prog 45 #[.pointer (some ⟨p, 0, none⟩), .slice k ks.length kc, .int .i64 r, .int .i64 2] w (PcP B p (N + 2700) k ks r [] 3 2 90 w) :=
  statement_any 2 (by omega) 2 rfl B p N k kc ks r w h (by show N + 2700 ≤ 600000; omega) hk hkb hr0 hr6
set_option maxRecDepth 100000 in
set_option maxHeartbeats 1000000 in
theorem right_any (B p N : Nat) (k : Option Addr) (kc : Nat) (ks : List Int) (r : Int) (w : World) (h : DK w B p N k ks) (hlo : ∀ b o, k = some (⟨b, o, none⟩ : Addr) → b < w.heap.size) (hN : N ≤ 100000) (hk : ks.length ≤ 8) (hkb : ks.all kindB = true) (hr0 : 0 ≤ r) (hr6 : r ≤ 6) :
    Calls Tryd.prog 25 #[.pointer (some ⟨p, 0, none⟩), .slice k ks.length kc, .int .i64 r] w (RightP B p (N + 14000) k ks r w) := by
  have HD := Lib.hid h
  have HLO := Lib.hid hlo
  have HK := Lib.hid hkb
  obtain ⟨i0, hi, hz0, hz1, hz2⟩ := info_parts (show (Tryd.prog.info? 38).map (fun i => (i.zero, i.size, i.bytes)) = some (some (.agg #[.int .i64 0, .int .i64 0]), 2, 16) by kernel_rfl)
  have HI := Lib.hid (And.intro hi (And.intro hz0 (And.intro hz1 hz2)))
  have HP0 := Lib.hid h.plt
  clear hi hz0 hz1 hz2 h hlo hkb
  go_enter Tryd.func25, Tryd.ntmps25
  go_wp2_with fail
  refine Calls.mono (next_dk 5 _ (HD.out.al _) (by omega) (by omega) (by omega)) ?_
  rintro e w1 ⟨v, rfl, v0, v1, hD, hg⟩
  have HD1 := Lib.hid hD
  have HG1 := Lib.hid (grown_tr (grown_bel (bel_al w _) _) hg)
  have Ho1 : Hid (w1.ownsRow w.heap.size 38 2 (.slice (some ⟨w.heap.size, 0, none⟩) 0 0) 0 (flat insC [])) := Lib.hid (lit_kept hg HP0.out)
  clear hD hg
  obtain ⟨t, rfl⟩ := Int.eq_ofNat_of_zero_le v0
  go_wp2
  go_loopw [7, 8, 9] (fun v i y wr => ∃ (j m q x : Nat) (zs : List Ins), j ≤ 5 ∧ m ≤ 40 ∧ i = .int .i64 j ∧ v = .slice (some ⟨x, 0, none⟩) m q ∧ Hid (zs.length = m) ∧ Hid (Pc ks r zs [] 3 2) ∧ Hid (wr.ownsRow w.heap.size 38 2 (.slice (some ⟨x, 0, none⟩) m q) m (flat insC zs)) ∧ Hid (DK wr B p (N + 14000 - 2700 * j) k ks) ∧ Hid (w.grownBy wr (some p))) (fun _ i _ _ => (intOf i).toNat)
  case atStart => exact ⟨1 + t, 0, 0, _, [], by omega, by omega, fb_vi' (by omega), rfl, Lib.hid rfl, Lib.hid ((Pc.nil ks r).more (by omega) (by omega)), Ho1, Lib.hid (HD1.out.more (by omega)), HG1⟩
  case round =>
    obtain ⟨j, m, q, x, zs, hj, hm, rfl, rfl, hl, hpc, ho, hd, hg⟩ := hrel
    by_cases hlt : 0 < j
    · have hpp := HP0.out
      go_wp2_with fail
      refine Calls.mono (statement2 kc r _ hd.out (by omega) hk HK.out hr0 hr6) ?_
      rintro e w2 ⟨a1, m1, c1, z1, rfl, l1, p1, lo1, hi1, lp, hD, hgn⟩
      have HD2 := Lib.hid hD
      have P1 := Lib.hid p1
      have L1 := Lib.hid lp
      have HG2 := Lib.hid (grown_tr hg.out hgn)
      have Ho2 := Lib.hid (ho.out.kept hgn (Or.inr (own_above ho.out hpp)))
      have hsz := HG2.out.size
      clear hD hgn p1 lp
      by_cases h40 : m + m1 ≤ 40
      · obtain ⟨g, o, rfl, hgl, hcs⟩ := L1.out.1.open (by rw [flat_len insC_len, l1]; omega)
        have HC := Lib.hid hcs
        have hfl := flat_len insC_len z1
        rw [l1] at hfl
        clear hcs
        obtain ⟨H1, H2, H3, H4⟩ := HI.out
        go_wp2_with (at_builtin; go_must (refine wpList_append_lies _ rfl (.tmp 28) (.tmp 29) _ rfl w.heap.size 38 i0 _ 2 16 Tryd.underlying25 H1 H2 H3 H4 rfl (by decide) (.slice (some ⟨x, 0, none⟩) m q) m (flat insC zs) rfl Ho2.out ⟨g, o, none⟩ m1 c1 (flat insC z1) rfl hfl (by intro j u hj; rw [addr_add]; exact HC.out j u hj) (ins_all1 z1) (by omega) (by unfold maxLen; omega) (by omega) hsz _ rfl ?_); intro a3 c3 w3 g3 g4 _ _)
        have HO4 : Hid (w3.ownsRow w.heap.size 38 2 (.slice (some ⟨a3, 0, none⟩) (m + m1) c3) (m + m1) (flat insC (zs ++ z1))) := Lib.hid (own_cast g3 rfl (by rw [flat_app]))
        have HL4 : Hid ((zs ++ z1).length = m + m1) := Lib.hid (by rw [List.length_append, hl.out, l1])
        have HP4 := Lib.hid (pc_seq hpc.out P1.out)
        have HD4 : Hid (DK w3 B p (N + 14000 - 2700 * (j - 1)) k ks) := Lib.hid ((HD2.out.rowB g4 (T := w.heap.size) (fun e he => (Ho2.out.lt e he).1) hpp HLO.out).more (by omega))
        have HG4 : Hid (w.grownBy w3 (some p)) := Lib.hid (grown_new HG2.out g4 (fun q hq => (Ho2.out.lt q hq).1))
        clear g3 g4
        go_roundw
        case rel => exact ⟨j - 1, m + m1, c3, a3, zs ++ z1, by omega, by omega, fb_vi' (by omega), rfl, HL4, HP4, HO4, HD4, HG4⟩
        case measure => simp [intOf]; omega
      · go_wp2
        go_ret
        exact ⟨x, m, q, zs, rfl, hl.out, hm, hpc.out, Ho2.out, HD2.out.more (by omega), HG2.out⟩
    · obtain rfl : j = 0 := by omega
      go_wp2
      go_ret
      exact ⟨x, m, q, zs, rfl, hl.out, hm, hpc.out, ho.out, hd.out.more (by omega), hg.out⟩
theorem own_cap {w : World} {B size n c : Nat} {e : TypeId} {a : Option Addr} {xs : List Value} (h : w.ownsRow B e size (.slice a n c) n xs) : n ≤ c := by
  rcases h.2 with ⟨e, e2⟩ | ⟨g, cap, cur, e, _, _, hc, _⟩
  · omega
  · simp only [Value.slice.injEq] at e
    omega
/-- The draws as the laws call them. -/
def KDP (w : World) (e : Ending) (w' : World) : Prop :=
  ∃ (a : Option Addr) (m c : Nat) (ks : List Int), e = .returned (.slice a m c) ∧ ks.length = m ∧ m ≤ 4 ∧ ks.all kindB = true ∧ Lies w' a (kC ks) ∧ (∀ b o, a = some (⟨b, o, none⟩ : Addr) → b < w'.heap.size) ∧ Below w.heap.size w w'
theorem kindsDrawn_any (a : Option Addr) (n c : Nat) (w : World) (h : Bytes0 w w.heap.size a n) : Calls Tryd.prog 5 #[.slice a n c] w (KDP w) := by
  have H := Lib.hid h
  clear h
  go_enter Tryd.func5, Tryd.ntmps5
  go_wp2_with fail
  refine (source_any a n c w H.out).mono ?_
  rintro e w1 ⟨rfl, hS, hb⟩
  have HS := Lib.hid hS
  have HB := Lib.hid hb
  clear hS hb
  go_wp2_with fail
  refine (kinds_any _ _ 0 _ HS.out (by omega)).mono ?_
  rintro e w2 ⟨a2, m2, c2, ks, rfl, hl, hm, hok, ho, hS2, hg2⟩
  have HL := Lib.hid hl
  have HK := Lib.hid hok
  have HO := Lib.hid ho
  have HG := Lib.hid (HB.out.grown hg2 HB.out.size (by intro k hk; cases hk; exact Nat.le_refl _))
  clear hl hok ho hS2 hg2
  go_wp2
  go_ret
  exact ⟨a2, m2, c2, ks, rfl, HL.out, hm, HK.out, lies_own HO.out, fun b o e => (HO.out.lt b (by rw [e]; rfl)).2, HG.out⟩
def RCP (ks : List Int) (r : Int) (w : World) (e : Ending) (w' : World) : Prop :=
  ∃ (a : Option Addr) (m c : Nat) (zs : List Ins), e = .returned (.slice a m c) ∧ zs.length = m ∧ m ≤ 40 ∧ m ≤ c ∧ Pc ks r zs [] 3 2 ∧ Lies w' a (flat insC zs) ∧ Below w.heap.size w w'
theorem rightCode_any (a : Option Addr) (n c : Nat) (k : Option Addr) (kc : Nat) (ks : List Int) (r : Int) (w : World) (h : Bytes0 w w.heap.size a n) (hz : Lies w k (kC ks)) (hlo : ∀ b o, k = some (⟨b, o, none⟩ : Addr) → b < w.heap.size) (hk : ks.length ≤ 8) (hkb : ks.all kindB = true) (hr0 : 0 ≤ r) (hr6 : r ≤ 6) :
    Calls Tryd.prog 9 #[.slice a n c, .slice k ks.length kc, .int .i64 r] w (RCP ks r w) := by
  have H := Lib.hid h
  have HZ := Lib.hid hz
  have HLO := Lib.hid hlo
  have HK := Lib.hid hkb
  clear h hz hlo hkb
  go_enter Tryd.func9, Tryd.ntmps9
  go_wp2_with fail
  refine (source_any a n c w H.out).mono ?_
  rintro e w1 ⟨rfl, hS, hb⟩
  have hd : DK w1 w.heap.size w.heap.size 0 k ks := ⟨hS, HZ.out.below hb (Nat.le_refl _), fun b o e => by have := HLO.out b o e; omega⟩
  have HD := Lib.hid hd
  have HB := Lib.hid hb
  clear hS hb hd
  go_wp2_with fail
  refine Calls.mono (right_any _ _ 0 k kc ks r _ HD.out (fun b o e => by have := HLO.out b o e; have := HB.out.size; omega) (by omega) hk HK.out hr0 hr6) ?_
  rintro e w2 ⟨a2, m2, c2, zs, rfl, hl, hm, hpc, ho, hS2, hg2⟩
  have HL := Lib.hid hl
  have HP := Lib.hid hpc
  have HO := Lib.hid ho
  have HG := Lib.hid (HB.out.grown hg2 HB.out.size (by intro k hk; cases hk; exact Nat.le_refl _))
  clear hl hpc ho hS2 hg2
  go_wp2
  go_ret
  exact ⟨_, m2, c2, zs, rfl, HL.out, hm, own_cap HO.out, HP.out, lies_own HO.out, HG.out⟩
theorem came_bytesN {W : World} {a : Option Addr} {n c : Nat} (h : Came Tryd.prog W 22 [.slice a n c]) : Bytes0 W W.heap.size a n := by
  obtain ⟨hm, hx⟩ := came_ints Tryd.underlying22 Tryd.underlying5 (by kernel_rfl) h
  refine ⟨hm, fun hn => ?_⟩
  obtain ⟨x, e, hb, hc⟩ := hx hn
  refine ⟨x, e, hb, fun i hi => ?_⟩
  obtain ⟨z, wz, hz⟩ := hc i hi
  have := bounds_u8 wz
  exact ⟨z, by omega, by omega, hz⟩
theorem Bytes0.belN {w w' : World} {B n : Nat} {a : Option Addr} (h : Bytes0 w B a n) (g : Below B w w') {B' : Nat} (hB : B ≤ B') : Bytes0 w' B' a n :=
  ⟨h.1, fun hn => by
    obtain ⟨x, e, hx, hc⟩ := h.2 hn
    refine ⟨x, e, by omega, fun i hi => ?_⟩
    obtain ⟨z, z0, z1, hz⟩ := hc i hi
    exact ⟨z, z0, z1, (g.cell (by rw [add_block]; exact hx)).trans hz⟩⟩
end Go.Proofs.YthhmhglgjeaefaaDoor
